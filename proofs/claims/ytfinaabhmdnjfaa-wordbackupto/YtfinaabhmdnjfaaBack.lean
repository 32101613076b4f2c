/- WordBack holds where what it reads is of bulk at most 1048576: what was written, in whatever order, is read as it was: the law answers true and turns nothing that was there. Condition: the bulk of the input. -/
import Derived.Test.YtfinaabhmdnjfaaDn
import Derived.Deep.RegionHeld3
import Derived.JoinedCond
namespace Go.Proofs.Ytfinaabhmdnjfaa
open Go.RowKit

set_option maxRecDepth 100000 in
set_option maxHeartbeats 4000000 in
theorem back_walk (lv : Value) (ds : List Dd) (w : World) (hd : Deeds w lv ds) (hwt : wt ds ≤ 1048576) :
    Calls Try.prog 5 #[lv] w fun e w' => e = .returned (.bool true) ∧ Mod (fun _ => False) w w' := by
  obtain ⟨i0, hi, hz0, hz1, hz2⟩ := info_parts info31
  obtain ⟨al, cl, rfl, hlm, _⟩ := hd.form
  have hdl := len_wt ds
  unfold maxLen at hlm
  go_enter Try.func5, Try.ntmps5
  go_wp2_with fail
  refine (works_any _).mono ?_
  rintro e w0 ⟨rfl, hm0⟩
  go_wp2_with fail
  refine (write_any _).mono ?_
  rintro e w1 ⟨rfl, hw1, hm1⟩
  have hm : Mod (fun _ => False) w w1 := hm0.trans hm1 (fun _ _ h => h) (fun _ _ h => h)
  have hp : w.heap.size ≤ w0.heap.size := hm0.size
  generalize w0.heap.size = p at hw1 hp
  clear hm0 hm1
  go_wp2_with fail
  go_loopw [4, 5] (fun vd i wr => ∃ (k : Nat) (v : Value) (l : List Int) (dn : List Dd), i = .int .i64 k ∧ k ≤ ds.length ∧ Wr wr p v l ∧ Dn wr vd dn ∧ Hid (dn = (ds.take k).filter okD) ∧ Hid (l = dn.flatMap encD) ∧ l.length ≤ 8 * wt (ds.take k) ∧ dn.length ≤ k ∧ Mod (fun _ => False) w wr ∧ (∀ g, v.ownBlock = some g → w.heap.size ≤ g) ∧ (∀ g, vd.ownBlock = some g → w.heap.size ≤ g)) (fun _ i _ => ds.length - (intOf i).toNat)
  case atStart => exact ⟨0, _, [], [], rfl, by omega, hw1, World.ownsRow_nil _ _ _ _, rfl, rfl, by simp, by simp, hm, by intro g hg; simp [Value.ownBlock] at hg, by intro g hg; simp [Value.ownBlock] at hg⟩
  case round =>
    clear hm hw1
    obtain ⟨k, v, l, dn, rfl, hk, hw, hdn, hdt, hlt', hll, hdk', hm, hv, hvd⟩ := hrel
    obtain ⟨ad, cd, rfl⟩ := hdn.shape
    by_cases hlt : k < ds.length
    · obtain ⟨d, hdk⟩ : ∃ d, ds[k]? = some d := ⟨_, List.getElem?_eq_getElem hlt⟩
      obtain ⟨lb, lo, rfl, hcells⟩ := hd.at hdk
      obtain ⟨hsd, ik, iv, isz⟩ := hd.each d (List.mem_of_getElem? hdk)
      have hw1 := wt_take ds k d hdk
      have hw2 := wt_le ds (k + 1)
      have hfil := take_filter ds k d hdk
      obtain ⟨ab, cb, hbv, _⟩ := hsd.form
      have hb8 : l.length + d.b.length + 8 ≤ 140737488355328 := by omega
      have hlen1 : okD d = true → (l ++ encD d).length ≤ 8 * wt (ds.take (k + 1)) := fun ho => by have := encD_len d ho; rw [List.length_append]; omega
      have hlen0 : l.length ≤ 8 * wt (ds.take (k + 1)) := by omega
      have HOK : Hid ((if d.kind % 3 = 0 then decide (0 ≤ d.v ∧ d.v ≤ 9007199254740991) else if d.kind % 3 = 1 then decide (fwE d.v d.size = 0) else true) = okD d) := rfl
      have HEN : Hid ((if d.kind % 3 = 0 then enc d.v.toNat else if d.kind % 3 = 1 then fenc d.size.toNat d.v.toNat else enc d.b.length ++ d.b) = encD d) := rfl
      have HF : Hid ((ds.take (k + 1)).filter okD = (ds.take k).filter okD ++ if okD d then [d] else []) := hfil
      have hds : dn.length + 1 ≤ 1048577 := by omega
      have H1 : Hid (okD d = true → (l ++ encD d).length ≤ 8 * wt (ds.take (k + 1))) := hlen1
      have H0 : Hid (l.length ≤ 8 * wt (ds.take (k + 1))) := hlen0
      have HBV : Hid (d.bv = .slice ab d.b.length cb) := hbv
      clear hw1 hw2 hfil hlen1 hlen0 hdk hll hbv
      obtain ⟨c0, c1, c2, c3⟩ := hcells wr hm
      go_wp2_with fail
      refine (Bring3 _ _ ik).mono ?_
      rintro e w' ⟨rfl, rfl⟩
      have hq3 : 0 ≤ d.kind % 3 ∧ d.kind % 3 < 3 := by omega
      generalize d.kind % 3 = q at hq3 HOK HEN
      rcases (show q = 0 ∨ q = 1 ∨ q = 2 from by omega) with hq | hq | hq
      all_goals subst hq
      · rw [if_pos rfl] at HOK HEN
        by_cases hok : 0 ≤ d.v ∧ d.v ≤ 9007199254740991
        · have HO : Hid (okD d = true) := by show okD d = true; rw [← HOK.out]; simpa using hok
          have HE : Hid (enc d.v.toNat = encD d) := HEN.out
          clear HOK HEN
          obtain ⟨h01, h02⟩ := hok
          go_wp2_with fail
          refine (Put_ok _ _ _ _ _ hw h01 h02 (by omega)).mono ?_
          rintro e w2 ⟨rfl, v2, hw2, hm2, hf2⟩
          rw [HE.out] at hw2
          clear h01 h02
          have hmx : Mod (fun _ => False) w w2 := hm.fresh hm2 (fun i h => by rcases h with h | h; omega; exact hv i h)
          have hdn2 := hdn.mod hm2 (hdn.far hw)
          have hvx : ∀ g, v2.ownBlock = some g → w.heap.size ≤ g := fun g hg => by rcases hf2 g hg with h | h; exact hv g h; exact Nat.le_trans hm.size h
          obtain ⟨d0, d1, d2, d3⟩ := hcells w2 hmx
          rw [HBV.out] at d3
          have hfar := hdn2.far hw2
          have HCS : Hid (∀ w', Mod (fun _ => False) w w' → _) := hcells
          clear hw hdn hm2 hf2 hv hm hcells c0 c1 c2 c3
          go_wp2_with (at_builtin; refine wpList_append_lies _ rfl _ _ 22 rfl 0 31 i0 (.agg #[.int .i64 0, .int .i64 0, .int .i64 0, .slice none 0 0]) 4 48 Try.underlying22 hi hz0 hz1 hz2 rfl (by decide) (.slice ad dn.length cd) dn.length (DC dn) rfl (World.ownsRow.alloc hdn2 _) ⟨w2.heap.size, 0, none⟩ 1 1 [.int .i64 d.kind, .int .i64 d.v, .int .i64 d.size, .slice ab d.b.length cb] rfl rfl (news4 _ _ _ _ _) (by intro u hu; simp at hu; rcases hu with rfl | rfl | rfl | rfl <;> rfl) (by omega) (by simp only [maxLen]; omega) (by omega) (Nat.zero_le _) (w2.heap.size + 1) (by simp) ?_; intro g cap1 w3 hown3 hgrow hg hlt3)
          rw [← HBV.out] at hown3 hgrow
          have R := Dn.more hown3 hgrow hg
          clear hown3 hgrow hg
          have hw3 := hw2.mod R.2.1 (fun h => hfar _ h (.inl rfl)) (fun g' hg' h => hfar g' h (.inr hg'))
          have hmw3 : Mod (fun _ => False) w w3 := hmx.fresh R.2.1 hvd
          have hvd3 : ∀ g', (Value.slice (some ⟨g, 0, none⟩) (dn.length + 1) cap1).ownBlock = some g' → w.heap.size ≤ g' := fun g' hg' => by rcases R.2.2 g' hg' with h | h; exact hvd g' h; exact Nat.le_trans hmx.size h
          go_roundw
          case rel => exact ⟨k + 1, v2, l ++ encD d, dn ++ [d], by go_num, by omega, hw3, R.1, by show _ = _; rw [HF.out, HO.out, hdt.out]; rfl, by show _ = _; rw [hlt'.out]; simp, H1.out HO.out, by simp; omega, hmw3, hvx, hvd3⟩
          case measure => simp [intOf]; omega
        · have HO : Hid (okD d = false) := by show okD d = false; rw [← HOK.out]; simpa using hok
          clear HOK HEN
          have HB := Put_bad _ _ _ d.v _ hw (by omega)
          clear hok
          go_wp2_with fail
          refine HB.mono ?_
          rintro e w2 ⟨rfl, rfl⟩
          go_wp2
          go_roundw
          case rel => exact ⟨k + 1, v, l, dn, by go_num, by omega, hw, hdn, by show _ = _; rw [HF.out, HO.out, hdt.out]; simp, hlt', H0.out, by omega, hm, hv, hvd⟩
          case measure => simp [intOf]; omega
      · rw [if_neg (by decide), if_pos rfl] at HOK HEN
        have hmD : Mod (fun _ => False) w' w'.drew := (Mod.refl _ w').drew
        have hwD := hw.mod hmD (fun h => h) (fun _ _ h => h)
        have hdnD := hdn.mod hmD (fun _ _ h => h)
        have hmwD : Mod (fun _ => False) w w'.drew := hm.drew
        have hxv : d.v ≤ 9223372036854775807 := iv.2
        have hi0 : (0 : Int) ≤ (k : Int) := by omega
        have hi1 : (k : Int) < (ds.length : Int) := by omega
        by_cases hok : fwE d.v d.size = 0
        · have HO : Hid (okD d = true) := by show okD d = true; rw [← HOK.out]; simpa using hok
          have HE : Hid (fenc d.size.toNat d.v.toNat = encD d) := HEN.out
          have HW : Hid (fwE d.v d.size = 0) := hok
          clear HOK HEN hok
          go_wp2
          go_region_held3 (fun u => u.cell? ⟨lb, lo + k * 4 + 1, none⟩ = some (.int .i64 d.v) ∧ u.cell? ⟨lb, lo + k * 4 + 2, none⟩ = some (.int .i64 d.size)) (first | go_keep | exact ⟨e1, e2⟩)
            ((go_at_call 14; refine (WFixed_ok _ _ _ _ _ _ hwD hxv HW.out (by omega)).mono ?_; rintro e w2 ⟨rfl, v2, hw2, hm2, hf2⟩; have hc4 := hcells w2 (hmwD.fresh hm2 (fun i h => by rcases h with h | h; omega; exact hv i h)); have e1 := hc4.2.1; have e2 := hc4.2.2.1; clear hc4))
          rw [HE.out] at hw2
          replace hm := hmwD
          replace hdn := hdnD
          replace hw := hwD
          clear hmD hwD hdnD hmwD hi0 hi1 hxv e1 e2
          have hmx : Mod (fun _ => False) w w2 := hm.fresh hm2 (fun i h => by rcases h with h | h; omega; exact hv i h)
          have hdn2 := hdn.mod hm2 (hdn.far hw)
          have hvx : ∀ g, v2.ownBlock = some g → w.heap.size ≤ g := fun g hg => by rcases hf2 g hg with h | h; exact hv g h; exact Nat.le_trans hm.size h
          obtain ⟨d0, d1, d2, d3⟩ := hcells w2 hmx
          rw [HBV.out] at d3
          have hfar := hdn2.far hw2
          have HCS : Hid (∀ w', Mod (fun _ => False) w w' → _) := hcells
          clear hw hdn hm2 hf2 hv hm hcells c0 c1 c2 c3
          go_wp2_with (at_builtin; refine wpList_append_lies _ rfl _ _ 22 rfl 0 31 i0 (.agg #[.int .i64 0, .int .i64 0, .int .i64 0, .slice none 0 0]) 4 48 Try.underlying22 hi hz0 hz1 hz2 rfl (by decide) (.slice ad dn.length cd) dn.length (DC dn) rfl (World.ownsRow.alloc hdn2 _) ⟨w2.heap.size, 0, none⟩ 1 1 [.int .i64 d.kind, .int .i64 d.v, .int .i64 d.size, .slice ab d.b.length cb] rfl rfl (news4 _ _ _ _ _) (by intro u hu; simp at hu; rcases hu with rfl | rfl | rfl | rfl <;> rfl) (by omega) (by simp only [maxLen]; omega) (by omega) (Nat.zero_le _) (w2.heap.size + 1) (by simp) ?_; intro g cap1 w3 hown3 hgrow hg hlt3)
          rw [← HBV.out] at hown3 hgrow
          have R := Dn.more hown3 hgrow hg
          clear hown3 hgrow hg
          have hw3 := hw2.mod R.2.1 (fun h => hfar _ h (.inl rfl)) (fun g' hg' h => hfar g' h (.inr hg'))
          have hmw3 : Mod (fun _ => False) w w3 := hmx.fresh R.2.1 hvd
          have hvd3 : ∀ g', (Value.slice (some ⟨g, 0, none⟩) (dn.length + 1) cap1).ownBlock = some g' → w.heap.size ≤ g' := fun g' hg' => by rcases R.2.2 g' hg' with h | h; exact hvd g' h; exact Nat.le_trans hmx.size h
          go_roundw
          case rel => exact ⟨k + 1, v2, l ++ encD d, dn ++ [d], by go_num, by omega, hw3, R.1, by show _ = _; rw [HF.out, HO.out, hdt.out]; rfl, by show _ = _; rw [hlt'.out]; simp, H1.out HO.out, by simp; omega, hmw3, hvx, hvd3⟩
          case measure => simp [intOf]; omega
        · have HO : Hid (okD d = false) := by show okD d = false; rw [← HOK.out]; simpa using hok
          obtain ⟨e, hEe⟩ : ∃ e, fwE d.v d.size = e := ⟨_, rfl⟩
          have hb1 := WFixed_bad _ _ _ d.v d.size _ hwD hxv hok
          rw [hEe] at hb1 hok
          have heb : (e == 0) = false := by simp [hok]
          have HB := hb1
          clear HOK HEN hEe hok hb1
          go_wp2
          go_region_held3 (fun u => u.cell? ⟨lb, lo + k * 4 + 1, none⟩ = some (.int .i64 d.v) ∧ u.cell? ⟨lb, lo + k * 4 + 2, none⟩ = some (.int .i64 d.size)) (first | go_keep | exact ⟨e1, e2⟩)
            ((go_at_call 14; refine HB.mono ?_; rintro e w2 ⟨rfl, rfl⟩))
          replace hm := hmwD
          replace hdn := hdnD
          replace hw := hwD
          clear hmD hwD hdnD hmwD
          go_wp2
          go_roundw
          case rel => exact ⟨k + 1, v, l, dn, by go_num, by omega, hw, hdn, by show _ = _; rw [HF.out, HO.out, hdt.out]; simp, hlt', H0.out, by omega, hm, hv, hvd⟩
          case measure => simp [intOf]; omega
      · rw [if_neg (by decide), if_neg (by decide)] at HOK HEN
        have HO : Hid (okD d = true) := HOK.out.symm
        have HE : Hid (enc d.b.length ++ d.b = encD d) := HEN.out
        clear HOK HEN
        have hsd2 := hsd.mod hm (fun _ _ h => h)
        have hdis : d.b ≠ [] → ∀ g, d.bv.ownBlock = some g → g ≠ p ∧ v.ownBlock ≠ some g := fun hne g hg => by
          have h1 := hsd.lt hne g hg
          refine ⟨by omega, fun h => ?_⟩
          have := hv g h
          omega
        go_wp2_with fail
        refine (WOctets_any _ _ _ _ _ _ hw hsd2 hdis (by omega)).mono ?_
        rintro e w2 ⟨rfl, v2, hw2, hm2, hf2⟩
        rw [List.append_assoc, HE.out] at hw2
        clear hsd2 hdis
        have hmx : Mod (fun _ => False) w w2 := hm.fresh hm2 (fun i h => by rcases h with h | h; omega; exact hv i h)
        have hdn2 := hdn.mod hm2 (hdn.far hw)
        have hvx : ∀ g, v2.ownBlock = some g → w.heap.size ≤ g := fun g hg => by rcases hf2 g hg with h | h; exact hv g h; exact Nat.le_trans hm.size h
        obtain ⟨d0, d1, d2, d3⟩ := hcells w2 hmx
        rw [HBV.out] at d3
        have hfar := hdn2.far hw2
        have HCS : Hid (∀ w', Mod (fun _ => False) w w' → _) := hcells
        clear hw hdn hm2 hf2 hv hm hcells c0 c1 c2 c3
        go_wp2_with (at_builtin; refine wpList_append_lies _ rfl _ _ 22 rfl 0 31 i0 (.agg #[.int .i64 0, .int .i64 0, .int .i64 0, .slice none 0 0]) 4 48 Try.underlying22 hi hz0 hz1 hz2 rfl (by decide) (.slice ad dn.length cd) dn.length (DC dn) rfl (World.ownsRow.alloc hdn2 _) ⟨w2.heap.size, 0, none⟩ 1 1 [.int .i64 d.kind, .int .i64 d.v, .int .i64 d.size, .slice ab d.b.length cb] rfl rfl (news4 _ _ _ _ _) (by intro u hu; simp at hu; rcases hu with rfl | rfl | rfl | rfl <;> rfl) (by omega) (by simp only [maxLen]; omega) (by omega) (Nat.zero_le _) (w2.heap.size + 1) (by simp) ?_; intro g cap1 w3 hown3 hgrow hg hlt3)
        rw [← HBV.out] at hown3 hgrow
        have R := Dn.more hown3 hgrow hg
        clear hown3 hgrow hg
        have hw3 := hw2.mod R.2.1 (fun h => hfar _ h (.inl rfl)) (fun g' hg' h => hfar g' h (.inr hg'))
        have hmw3 : Mod (fun _ => False) w w3 := hmx.fresh R.2.1 hvd
        have hvd3 : ∀ g', (Value.slice (some ⟨g, 0, none⟩) (dn.length + 1) cap1).ownBlock = some g' → w.heap.size ≤ g' := fun g' hg' => by rcases R.2.2 g' hg' with h | h; exact hvd g' h; exact Nat.le_trans hmx.size h
        go_roundw
        case rel => exact ⟨k + 1, v2, l ++ encD d, dn ++ [d], by go_num, by omega, hw3, R.1, by show _ = _; rw [HF.out, HO.out, hdt.out]; rfl, by show _ = _; rw [hlt'.out]; simp, H1.out HO.out, by simp; omega, hmw3, hvx, hvd3⟩
        case measure => simp [intOf]; omega
    · have hke : k = ds.length := by omega
      have hdt2 : dn = ds.filter okD := by rw [hdt.out, List.take_of_length_le (by omega)]
      have hwle := wt_le ds k
      have hl47 : l.length ≤ 140737488355328 := by omega
      have hdn1 : ∀ d ∈ dn, okD d = true ∧ Sl w d.bv d.b ∧ I64 d.kind ∧ I64 d.v ∧ I64 d.size ∧ d.b.length ≤ 1048576 := fun d hdm => by
        rw [hdt2] at hdm
        obtain ⟨h1, h2⟩ := List.mem_filter.1 hdm
        have h3 := hd.each d h1
        refine ⟨h2, h3.1, h3.2.1, h3.2.2.1, h3.2.2.2, ?_⟩
        have h4 : (d.b.length + 1) ≤ wt ds := by
          unfold wt
          exact mem_le_sum (List.mem_map.2 ⟨d, h1, rfl⟩)
        omega
      have HDN : Hid (∀ d ∈ dn, okD d = true ∧ Sl w d.bv d.b ∧ I64 d.kind ∧ I64 d.v ∧ I64 d.size ∧ d.b.length ≤ 1048576) := hdn1
      have hdnl : dn.length ≤ 1048576 := by omega
      have hl8 : (dn.flatMap encD).length ≤ 8388608 := by rw [← hlt'.out]; omega
      clear hdn1 hdt2 hke hd hwle hdt hdk' hll hlm hdl
      go_wp2_with fail
      refine (Bytes_any _ _ _ _ hw hl47).mono ?_
      rintro e w2 ⟨vo, rfl, ho, hm2, _⟩
      have hso := ho.sl hw.rng
      go_wp2_with fail
      refine (New_any _ _ _ hso hl47).mono ?_
      rintro e w3 ⟨pr, vr, rfl, hr3, hm3, hpr0, _, hvr⟩
      have hm23 : Mod (fun _ => False) wr w3 := hm2.trans hm3 (fun _ _ h => h) (fun _ _ h => h)
      have hm03 : Mod (fun _ => False) w w3 := hm.trans hm23 (fun _ _ h => h) (fun _ _ h => h)
      have hdn3 := hdn.mod hm23 (fun _ _ h => h)
      have hpr : w.heap.size ≤ pr := by have := hm.size; have := hm2.size; omega
      have hvr3 : ∀ g, vr.ownBlock = some g → w.heap.size ≤ g := fun g hg => by have := hvr g hg; have := hm.size; have := hm2.size; omega
      rw [hlt'.out] at hr3
      clear hm2 hm3 hm23 hm hso ho hw hpr0 hvr hlt' hdn hl47
      go_wp2_with fail
      go_loopw [8] (fun i wx => ∃ (j : Nat) (vx : Value), i = .int .i64 j ∧ j ≤ dn.length ∧ Rd wx pr vx ((dn.drop j).flatMap encD) ∧ Dn wx (.slice ad dn.length cd) dn ∧ Mod (fun _ => False) w wx ∧ (∀ g, vx.ownBlock = some g → w.heap.size ≤ g) ∧ ((dn.drop j).flatMap encD).length ≤ 8388608) (fun i _ => dn.length - (intOf i).toNat)
      case atStart => exact ⟨0, vr, rfl, by omega, by simpa using hr3, hdn3, hm03, hvr3, by simpa using hl8⟩
      case round =>
        clear hr3 hdn3 hm03 hvr3 hl8
        obtain ⟨j, vx, rfl, hj, hr, hdn, hm, hvx, hl8⟩ := hrel
        by_cases hjl : j < dn.length
        · obtain ⟨d, hdj⟩ : ∃ d, dn[j]? = some d := ⟨_, List.getElem?_eq_getElem hjl⟩
          obtain ⟨hok, hsd, ik, iv, isz, hbl⟩ := HDN.out d (List.mem_of_getElem? hdj)
          obtain ⟨dg, dc, hsh⟩ := hdn.at hdj
          simp only [Value.slice.injEq, true_and] at hsh
          obtain ⟨rfl, rfl⟩ := hsh
          obtain ⟨c0, c1, c2, c3⟩ := hdn.cells hdj
          rw [drop_flat hdj] at hr hl8
          rw [List.length_append] at hl8
          obtain ⟨ab, cb, hbv, _⟩ := hsd.form
          have HBV : Hid (d.bv = .slice ab d.b.length cb) := hbv
          have HDJ : Hid (dn[j]? = some d) := hdj
          have hsw := hsd.mod hm (fun _ _ h => h)
          generalize hre : (dn.drop (j + 1)).flatMap encD = rest at hr hl8
          have hrl : rest.length ≤ 8388608 := by omega
          clear hl8
          have HRE : Hid ((dn.drop (j + 1)).flatMap encD = rest) := hre
          have HOKD : Hid (okD d = true) := hok
          have HOK : Hid (okD d = if d.kind % 3 = 0 then decide (0 ≤ d.v ∧ d.v ≤ 9007199254740991) else if d.kind % 3 = 1 then decide (fwE d.v d.size = 0) else true) := rfl
          have HEN : Hid (encD d = if d.kind % 3 = 0 then enc d.v.toNat else if d.kind % 3 = 1 then fenc d.size.toNat d.v.toNat else enc d.b.length ++ d.b) := rfl
          clear hbv hdj hre hok
          go_wp2_with fail
          refine (Bring3 _ _ ik).mono ?_
          rintro e w' ⟨rfl, rfl⟩
          have hq3 : 0 ≤ d.kind % 3 ∧ d.kind % 3 < 3 := by omega
          generalize d.kind % 3 = q at hq3 HOK HEN
          rcases (show q = 0 ∨ q = 1 ∨ q = 2 from by omega) with hq | hq | hq
          all_goals subst hq
          · rw [if_pos rfl] at HOK HEN
            rw [HEN.out] at hr
            have hvv : 0 ≤ d.v ∧ d.v ≤ 9007199254740991 := by
              have h := HOKD.out
              rw [HOK.out] at h
              simpa using h
            go_wp2_with fail
            refine (Get_at hr d.v _ 0 rest (read0 rest hvv.1 hvv.2) (by rw [Int.toNat_natCast]; exact List.drop_left)).mono ?_
            rintro e w4 ⟨rfl, v4, hr4, hm4, hv4⟩
            have hdn4 := hdn.mod hm4 (hdn.farR hr)
            obtain ⟨f0, f1, f2, f3⟩ := hdn4.cells HDJ.out
            have hmw4 : Mod (fun _ => False) w w4 := hm.fresh hm4 (fun i h => by omega)
            have hs4 : Sl w4 d.bv d.b := hsd.mod hmw4 (fun _ _ h => h)
            have hvx4 : ∀ g, v4.ownBlock = some g → w.heap.size ≤ g := fun g hg => hvx g (hv4 g hg)
            clear c0 c1 c2 c3 hm hdn hr hsw hm4
            go_wp2_with fail
            refine (EqBytes_at true hs4 hs4 (by simp)).mono ?_
            rintro e w5 ⟨rfl, hm5⟩
            have hr5 := hr4.mod hm5 (fun h => h) (fun _ _ h => h)
            have hdn5 := hdn4.mod hm5 (fun _ _ h => h)
            have hmw5 : Mod (fun _ => False) w w5 := hmw4.trans hm5 (fun _ _ h => h) (fun _ _ h => h)
            clear hr4 hdn4 hm5 hmw4 f0 f1 f2 f3
            go_wp2
            go_roundw
            case rel => exact ⟨j + 1, v4, by go_num, by omega, by rw [HRE.out]; exact hr5, hdn5, hmw5, hvx4, by rw [HRE.out]; exact hrl⟩
            case measure => simp [intOf]; omega
          · rw [if_neg (by decide), if_pos rfl] at HOK HEN
            rw [HEN.out] at hr
            have hE : fwE d.v d.size = 0 := by
              have h := HOKD.out
              rw [HOK.out] at h
              simpa using h
            obtain ⟨t1, t2, t3, t4⟩ := read1 rest iv.2 hE
            have c := Fixed_at hr d.size _ rest t1 t2 t3
            rw [t4] at c
            have HC := c
            clear c t1 t2 t3 t4 hE
            go_wp2_with fail
            refine HC.mono ?_
            rintro e w4 ⟨rfl, v4, hr4, hm4, hv4⟩
            clear HC
            have hdn4 := hdn.mod hm4 (hdn.farR hr)
            obtain ⟨f0, f1, f2, f3⟩ := hdn4.cells HDJ.out
            have hmw4 : Mod (fun _ => False) w w4 := hm.fresh hm4 (fun i h => by omega)
            have hs4 : Sl w4 d.bv d.b := hsd.mod hmw4 (fun _ _ h => h)
            have hvx4 : ∀ g, v4.ownBlock = some g → w.heap.size ≤ g := fun g hg => hvx g (hv4 g hg)
            clear c0 c1 c2 c3 hm hdn hr hsw hm4
            go_wp2_with fail
            refine (EqBytes_at true hs4 hs4 (by simp)).mono ?_
            rintro e w5 ⟨rfl, hm5⟩
            have hr5 := hr4.mod hm5 (fun h => h) (fun _ _ h => h)
            have hdn5 := hdn4.mod hm5 (fun _ _ h => h)
            have hmw5 : Mod (fun _ => False) w w5 := hmw4.trans hm5 (fun _ _ h => h) (fun _ _ h => h)
            clear hr4 hdn4 hm5 hmw4 f0 f1 f2 f3
            go_wp2
            go_roundw
            case rel => exact ⟨j + 1, v4, by go_num, by omega, by rw [HRE.out]; exact hr5, hdn5, hmw5, hvx4, by rw [HRE.out]; exact hrl⟩
            case measure => simp [intOf]; omega
          · rw [if_neg (by decide), if_neg (by decide)] at HOK HEN
            rw [HEN.out] at hr
            obtain ⟨t1, t2, t3, t4⟩ := read2 d.b rest hbl
            have HC := Octets_at hr d.b.length (by have := enc_len d.b.length; simp only [List.length_append]; omega) t1 _ _ d.b rest t2 t3 t4
            clear t1 t2 t3 t4
            rw [HBV.out] at c3
            go_wp2_with fail
            refine HC.mono ?_
            rintro e w4 ⟨vc, v4, rfl, hoc, hr4, hm4, hgc, hv4⟩
            have hsc := hoc.sl hsd.rng
            clear HC hoc
            have hdn4 := hdn.mod hm4 (hdn.farR hr)
            obtain ⟨f0, f1, f2, f3⟩ := hdn4.cells HDJ.out
            have hmw4 : Mod (fun _ => False) w w4 := hm.fresh hm4 (fun i h => by omega)
            have hs4 : Sl w4 d.bv d.b := hsd.mod hmw4 (fun _ _ h => h)
            have hvx4 : ∀ g, v4.ownBlock = some g → w.heap.size ≤ g := fun g hg => hvx g (hv4 g hg)
            clear c0 c1 c2 c3 hm hdn hr hsw hm4
            go_wp2_with fail
            refine (EqBytes_at true hsc hs4 (by simp)).mono ?_
            rintro e w5 ⟨rfl, hm5⟩
            have hr5 := hr4.mod hm5 (fun h => h) (fun _ _ h => h)
            have hdn5 := hdn4.mod hm5 (fun _ _ h => h)
            have hmw5 : Mod (fun _ => False) w w5 := hmw4.trans hm5 (fun _ _ h => h) (fun _ _ h => h)
            clear hr4 hdn4 hm5 hmw4 f0 f1 f2 f3
            go_wp2
            go_roundw
            case rel => exact ⟨j + 1, v4, by go_num, by omega, by rw [HRE.out]; exact hr5, hdn5, hmw5, hvx4, by rw [HRE.out]; exact hrl⟩
            case measure => simp [intOf]; omega
        · have hje : j = dn.length := by omega
          rw [hje, List.drop_length] at hr
          have hr0 : Rd _ pr vx [] := hr
          clear hr hje
          go_wp2_with fail
          refine (Left_at hr0 0 rfl).mono ?_
          rintro e w' ⟨rfl, rfl⟩
          go_wp2
          go_ret
          exact ⟨rfl, hm⟩

namespace wordBack
open Go.ChangeShapes Go.WideShapes Go.ChangeAt Go.RowKit
theorem own : ownKnob Try.prog.godebug = none := by kernel_rfl
theorem laidOut : laidOutB Try.prog = true := by kernel_rfl
theorem contract (H : Type) (enc : TypeId × Value → H) (W : World) (base : Nat) (args : Array Value) (ds gs : List (DataW H)) (before : List MemPlace)
    (hval : ∀ (j : Nat) t v, Try.f5.params[j]? = some t → args[j]? = some v → Value.okWide Try.prog W .any base t v)
    (hW : DataW.Whole enc Try.prog Try.f5.params.toList Rows.wordBackSpec.vars false W args.toList ds gs before) (hk : Rows.uptoSmall H (ds ++ gs) = true) :
    Calls Try.prog 5 args W fun e W' => ∃ v, e = .returned v ∧ Rows.wordBackSpec.post enc Try.prog Try.f5 false true false false W args v W' := by
  have hW' := hW
  obtain ⟨p, q, hA0, hV, rfl, hfz, hnd⟩ := hW
  have hA : DataW.TrodAll enc Try.prog W 0 (fun _ => true) true Try.f5.params.toList args.toList ds p := hA0
  rw [Try.params5] at hA hval
  obtain ⟨v0, vs0, d0, ds0, p0, q0, hargs, rfl, rfl, h0, r0⟩ := trodAll_cons hA
  obtain ⟨rfl, rfl, rfl⟩ := trodAll_nil r0
  obtain rfl : args = #[v0] := by cases args; simp_all
  obtain ⟨rfl, rfl⟩ := trodVars_none hV
  have hs0 := okWide_slice Try.underlying22 (hval 0 22 v0 rfl rfl)
  have k0 := h0
  have lt0 : ∀ x ∈ p0, x.block < W.heap.size := by obtain ⟨m, hm⟩ := k0; exact DataW.trod_lt m _ _ _ hm
  obtain ⟨dl, hdeeds, hbulk⟩ := open_deeds h0 hs0
  have hsmall : Rows.uptoBulkAll [d0] ≤ 1048576 := of_decide_eq_true hk
  simp only [Rows.uptoBulkAll] at hsmall
  refine (back_walk v0 dl W hdeeds (by unfold wt; omega)).mono fun e W' ⟨he, hm⟩ => ?_
  subst he
  have bel : Below W.heap.size W W' := hm.below _ (Nat.le_refl _) (fun _ h => h.elim)
  exact ⟨_, rfl, _, _, _, [], _, [], hW', trodAll_mk1 (shut_bool Try.underlying4 _), (trodAll_cons_mk (Below.trod laidOut (by kernel_rfl) (of_decide_eq_true (by kernel_rfl)) k0 bel lt0) trodAll_mk0), rfl, bel.frame _, fun h => by cases h⟩

set_option maxRecDepth 100000 in
theorem lifted (os : Os) (started : os.Started) (H : Type) (enc : TypeId × Value → H) (F : Stop.Interp) :
    ReturnsInHanded {} Try.checked os 5 .any ((Rows.OpenSpec.upto Rows.wordBackSpec).pre6 enc Try.prog Try.f5 Rows.wordBackUptoRow.domain false) (((Rows.OpenSpec.upto Rows.wordBackSpec).at F).post enc Try.prog Try.f5 false true false false) := by
  refine returnsInHanded_of_cond (C := Try.checked) (s := Rows.OpenSpec.upto Rows.wordBackSpec) (k := Rows.uptoSmall) rfl own started (by kernel_rfl) Try.func5
    (OpenSpec.witness (enc := enc) (C := Try.checked) (s := Rows.OpenSpec.upto Rows.wordBackSpec) (k := Rows.uptoSmall) rfl false ⟨#[], #[.slice none 0 0], []⟩ 8 (by kernel_rfl) (by kernel_rfl) (by kernel_rfl)
      (x := ([.nil], [], [])) (by kernel_rfl) rfl (by kernel_rfl)) ?_
  intro W base args ds gs before hval hW _ hk _
  exact contract H enc W base args ds gs before hval hW hk

theorem over : Rows.WordBackUptoSaid :=
  OpenClaim.holds_of_cond 5 Try.f5 rfl rfl rfl rfl rfl rfl rfl ⟨rfl, rfl, rfl, rfl, rfl⟩ rfl rfl rfl rfl rfl (by kernel_rfl) Try.func5 (by kernel_rfl)
    (of_decide_eq_true (by kernel_rfl)) (by unfold Func.isWrapper; first | (rw [if_pos (by decide +kernel)]; kernel_rfl) | (rw [if_neg (by decide +kernel)]; exact ⟨rfl, rfl⟩))
    (fun os started H enc _ F => lifted os started H enc F)
end wordBack
theorem wordBackUpto_holds : Rows.WordBackUptoSaid := wordBack.over
end Go.Proofs.Ytfinaabhmdnjfaa
