/- WordWrites holds where what it reads is of bulk at most 1048576: what is written is as the document's own writer has it, of all deeds: the law answers true and turns nothing that was there. Condition: the bulk of the input. -/
import Derived.Test.YtfinaabhmdnjfaaGb
import Derived.Test.YtfinaabhmdnjfaaDn
import Derived.Deep.RegionHeld3
import Derived.JoinedCond
namespace Go.Proofs.Ytfinaabhmdnjfaa
open Go.RowKit
/-- The two writers lie apart. -/
theorem Wg.far {w : World} {p pu : Nat} {v vu : Value} {l m : List Int} (hg : Wg w pu vu m) (hw : Wr w p v l) (hsep : ∀ g, v.ownBlock = some g → vu.ownBlock ≠ some g) :
    ¬ (pu = p ∨ v.ownBlock = some pu) ∧ (∀ g, vu.ownBlock = some g → ¬ (g = p ∨ v.ownBlock = some g)) := by
  refine ⟨?_, fun g hgg => ?_⟩
  · rintro (e | e)
    · have := hg.blk; rw [e, hw.blk] at this; simp at this
    · obtain ⟨cur, hc⟩ := hw.own.kind e; rw [hg.blk] at hc; simp at hc
  · rintro (e | e)
    · obtain ⟨cur, hc⟩ := hg.own.kind hgg; rw [e, hw.blk] at hc; simp at hc
    · exact hsep g e hgg
theorem Wr.far {w : World} {p pu : Nat} {v vu : Value} {l m : List Int} (hw : Wr w p v l) (hg : Wg w pu vu m) (hsep : ∀ g, v.ownBlock = some g → vu.ownBlock ≠ some g) :
    ¬ (p = pu ∨ vu.ownBlock = some p) ∧ (∀ g, v.ownBlock = some g → ¬ (g = pu ∨ vu.ownBlock = some g)) := by
  refine ⟨?_, fun g hgg => ?_⟩
  · rintro (e | e)
    · have := hw.blk; rw [e, hg.blk] at this; simp at this
    · obtain ⟨cur, hc⟩ := hg.own.kind e; rw [hw.blk] at hc; simp at hc
  · rintro (e | e)
    · obtain ⟨cur, hc⟩ := hw.own.kind hgg; rw [e, hg.blk] at hc; simp at hc
    · exact hsep g hgg e
/-- Both writers behind a call of the one and then of the other. -/
theorem both_steps {w0 w1 w2 : World} {p pu : Nat} {v vu v1 vu2 : Value} {l l1 : List Int} {B : Nat} (hg : Wg w0 pu vu l) (hsep : ∀ g, v.ownBlock = some g → vu.ownBlock ≠ some g)
    (hw1 : Wr w1 p v1 l1) (hm1 : Mod (fun k => k = p ∨ v.ownBlock = some k) w0 w1) (hf1 : Fr w0 v v1) (hg1 : Wg w1 pu vu l)
    (hm2 : Mod (fun k => k = pu ∨ vu.ownBlock = some k) w1 w2) (hf2 : Fr w1 vu vu2)
    (hB : B ≤ w0.heap.size) (hv : ∀ g, v.ownBlock = some g → B ≤ g) (hvu : ∀ g, vu.ownBlock = some g → B ≤ g) :
    Wr w2 p v1 l1 ∧ (∀ g, v1.ownBlock = some g → vu2.ownBlock ≠ some g) ∧ (∀ g, v1.ownBlock = some g → B ≤ g) ∧ (∀ g, vu2.ownBlock = some g → B ≤ g) := by
  have hsep1 : ∀ g, v1.ownBlock = some g → vu.ownBlock ≠ some g := fun g hgg e => by
    rcases hf1 g hgg with h | h
    · exact hsep g h e
    · have := hg.own.lt g e; omega
  have hfar := hw1.far hg1 hsep1
  refine ⟨hw1.mod hm2 hfar.1 hfar.2, fun g hgg e => ?_, fun g hgg => ?_, fun g hgg => ?_⟩
  · rcases hf2 g e with h | h
    · exact hsep1 g hgg h
    · have := hw1.own.lt g hgg; omega
  · rcases hf1 g hgg with h | h
    · exact hv g h
    · omega
  · rcases hf2 g hgg with h | h
    · exact hvu g h
    · have := hm1.size; omega
set_option maxRecDepth 100000 in
set_option maxHeartbeats 8000000 in
theorem writes_walk (lv : Value) (ds : List Dd) (w : World) (hd : Deeds w lv ds) (hwt : wt ds ≤ 1048576) :
    Calls Try.prog 3 #[lv] w fun e w' => e = .returned (.bool true) ∧ Mod (fun _ => False) w w' := by
  obtain ⟨al, cl, rfl, hlm, _⟩ := hd.form
  have hdl := len_wt ds
  unfold maxLen at hlm
  go_enter Try.func3, Try.ntmps3
  go_wp2_with fail
  refine (write_any _).mono ?_
  rintro e w1 ⟨rfl, hw1, hm1⟩
  go_wp2_with fail
  refine (gWrite _).mono ?_
  rintro e w2 ⟨rfl, hg2, hm2⟩
  have hw2 := hw1.mod hm2 (fun h => h) (fun _ _ h => h)
  have hm : Mod (fun _ => False) w w2 := hm1.trans hm2 (fun _ _ h => h) (fun _ _ h => h)
  have hp : w.heap.size ≤ w.heap.size := Nat.le_refl _
  have hpu : w.heap.size ≤ w1.heap.size := hm1.size
  obtain ⟨p, hpe⟩ : ∃ p, p = w.heap.size := ⟨_, rfl⟩
  rw [← hpe] at hw2
  have hp : w.heap.size ≤ p := by omega
  generalize w1.heap.size = pu at hg2 hpu
  rw [← hpe]
  have HPE : Hid (p = w.heap.size) := hpe
  clear hm1 hm2 hw1 hpe
  go_wp2_with fail
  go_loopw [5] (fun i wr => ∃ (k : Nat) (v vu : Value) (l : List Int), i = .int .i64 k ∧ k ≤ ds.length ∧ Wr wr p v l ∧ Wg wr pu vu l ∧ l.length ≤ 8 * wt (ds.take k) ∧ Mod (fun _ => False) w wr ∧ (∀ g, v.ownBlock = some g → w.heap.size ≤ g) ∧ (∀ g, vu.ownBlock = some g → w.heap.size ≤ g) ∧ (∀ g, v.ownBlock = some g → vu.ownBlock ≠ some g)) (fun i _ => ds.length - (intOf i).toNat)
  case atStart => exact ⟨0, _, _, [], rfl, by omega, hw2, hg2, by simp, hm, by intro g hg; simp [Value.ownBlock] at hg, by intro g hg; simp [Value.ownBlock] at hg, by intro g hg; simp [Value.ownBlock] at hg⟩
  case round =>
    clear hm hw2 hg2
    obtain ⟨k, v, vu, l, rfl, hk, hw, hg, hll, hm, hv, hvu, hsep⟩ := hrel
    by_cases hlt : k < ds.length
    · obtain ⟨d, hdk⟩ : ∃ d, ds[k]? = some d := ⟨_, List.getElem?_eq_getElem hlt⟩
      obtain ⟨lb, lo, rfl, hcells⟩ := hd.at hdk
      obtain ⟨hsd, ik, iv, isz⟩ := hd.each d (List.mem_of_getElem? hdk)
      have hwa := wt_take ds k d hdk
      have hwb := wt_le ds (k + 1)
      have hb8 : l.length + d.b.length + 8 ≤ 140737488355328 := by omega
      have hbl : d.b.length ≤ 1048576 := by omega
      have H0 : Hid (∀ m : List Int, m.length ≤ d.b.length + 8 → (l ++ m).length ≤ 8 * wt (ds.take (k + 1)) ∧ (l ++ m).length ≤ 140737488355328) := fun m hm' => by rw [List.length_append]; omega
      clear hwa hwb hdk hll hd
      obtain ⟨c0, c1, c2, c3⟩ := hcells wr hm
      go_wp2_with fail
      refine (Bring3 _ _ ik).mono ?_
      rintro e w' ⟨rfl, rfl⟩
      have hq3 : 0 ≤ d.kind % 3 ∧ d.kind % 3 < 3 := by omega
      generalize d.kind % 3 = q at hq3
      have hmD : Mod (fun _ => False) w' w'.drew := (Mod.refl _ w').drew
      have hwD := hw.mod hmD (fun h => h) (fun _ _ h => h)
      have hgD := hg.mod hmD (fun h => h) (fun _ _ h => h)
      have hmwD : Mod (fun _ => False) w w'.drew := hm.drew
      have hsz0 : w.heap.size ≤ w'.drew.heap.size := hmwD.size
      have hfarD := hgD.far hwD hsep
      have hi0 : (0 : Int) ≤ (k : Int) := by omega
      have hi1 : (k : Int) < (ds.length : Int) := by omega
      rcases (show q = 0 ∨ q = 1 ∨ q = 2 from by omega) with hq | hq | hq
      all_goals subst hq
      · by_cases hok : 0 ≤ d.v ∧ d.v ≤ 9007199254740991
        · obtain ⟨h01, h02⟩ := hok
          obtain ⟨xn, hxn⟩ := Int.eq_ofNat_of_zero_le h01
          have HXN : Hid (d.v = (xn : Int)) := hxn
          have hxm : xn ≤ 9007199254740991 := by omega
          have hG : ∀ W, Wg W pu vu l → Calls Try.prog 13 #[.pointer (some ⟨pu, 0, none⟩), .int .i64 d.v] W fun e w' => e = .returned (.int .i64 0) ∧ ∃ v', Wg w' pu v' (l ++ enc d.v.toNat) ∧ Mod (fun k => k = pu ∨ vu.ownBlock = some k) W w' ∧ Fr W vu v' := fun W hW => by
            have := gPut_go pu vu l xn W hW hxm (by omega)
            rw [HXN.out, Int.toNat_natCast]
            exact this
          have HG := hG
          clear hG hxn
          go_wp2
          go_region_held3 (fun u => u.cell? ⟨lb, lo + k * 4 + 1, none⟩ = some (.int .i64 d.v)) (first | go_keep | exact e2 | exact e1)
            ((first | (go_at_call 12; refine (Put_ok _ _ _ _ _ hwD h01 h02 (by omega)).mono ?_; rintro e w3 ⟨rfl, v3, hw3, hm3, hf3⟩; have hg3 := hgD.mod hm3 hfarD.1 hfarD.2; have hmw3 := hmwD.fresh hm3 (fun i h => by rcases h with h | h; omega; exact hv i h); have e1 := (hcells w3 hmw3).2.1) | (go_at_call 13; refine (HG _ hg3).mono ?_; rintro e wX ⟨rfl, vuX, hgX, hmX', hfX⟩; have hmX := hmw3.fresh hmX' (fun i h => by rcases h with h | h; omega; exact hvu i h); have e2 := (hcells wX hmX).2.1)))
          obtain ⟨hwX, hsX, hvX, hvuX⟩ := both_steps hgD hsep hw3 hm3 hf3 hg3 hmX' hfX hsz0 hv hvu
          have hMl := H0.out (enc d.v.toNat) (by have := enc_len d.v.toNat; omega)
          clear HG hw3 hm3 hf3 hg3 hmw3 e1 e2 hmX' hfX hw hg hm hv hvu hsep hcells c0 c1 c2 c3 hmD hwD hgD hmwD hsz0 hfarD hi0 hi1
          generalize hMe : l ++ enc d.v.toNat = M at *
          have hpX : p < wX.heap.size := lt_of_block hwX.blk
          have hpuX : pu < wX.heap.size := lt_of_block hgX.blk
          have hvlt := hwX.own.lt
          have hvult := hgX.own.lt
          go_wp2_with fail
          refine (Bytes_any _ _ _ _ hwX hMl.2).mono ?_
          rintro e wY ⟨vo, rfl, ho, hmY, hgo⟩
          have hwY := hwX.mod hmY (fun h => h) (fun _ _ h => h)
          have hgY := hgX.mod hmY (fun h => h) (fun _ _ h => h)
          have hmwY : Mod (fun _ => False) w wY := hmX.trans hmY (fun _ _ h => h) (fun _ _ h => h)
          have hwXs : w.heap.size ≤ wX.heap.size := hmX.size
          generalize wX.heap.size = sX at hpX hpuX hvlt hvult hgo hwXs
          obtain ⟨ac, cc, rfl⟩ := ho.shape
          clear hmY hmX hwX hgX hMe
          go_wp2_with fail
          go_loopw [11] (fun i wy => ∃ (j : Nat) (l' : List Int), i = .int .i64 j ∧ j ≤ M.length ∧ Hid (l'.length = M.length) ∧ Own wy (.slice ac M.length cc) l' ∧ Mod (fun t => (Value.slice ac M.length cc).ownBlock = some t) wY wy) (fun i _ => M.length - (intOf i).toNat)
          case atStart => exact ⟨0, M, rfl, by omega, rfl, ho, Mod.refl _ _⟩
          case round =>
            clear ho
            obtain ⟨j, l', rfl, hj, hl', ho, hm5⟩ := hrel
            by_cases hjc : j < M.length
            · have ho' := ho
              rw [← hl'.out] at ho'
              obtain ⟨gi, ci', hsh, _, _⟩ := ho'.form (by rw [hl'.out]; omega)
              simp only [Value.slice.injEq, true_and] at hsh
              obtain ⟨rfl, rfl⟩ := hsh
              obtain ⟨q1, q2, q3, q4⟩ := ho'.set j (by rw [hl'.out]; exact hjc) (bits .xor .u8 (l'.getD j 0) 5)
              rw [hl'.out] at q1
              have hki : (j : Int) < (M.length : Int) := by omega
              have HL : Hid ((l'.set j (bits .xor .u8 (l'.getD j 0) 5)).length = M.length) := by show _ = _; rw [List.length_set, hl'.out]
              have hmx := hm5.trans q2 (V := fun t => (Value.slice (some ⟨gi, 0, none⟩) M.length cc).ownBlock = some t) (fun _ _ h => h) (fun i _ h => by simp [Value.ownBlock, h])
              generalize l'.set j (bits .xor .u8 (l'.getD j 0) 5) = l2 at q1 HL
              generalize l'.getD j 0 = c at q1 q2 q3 hmx
              have Q1 := q1
              have HX := hmx
              clear q2 ho' hmx q1 ho hm5
              go_wp2
              go_roundw
              case rel => exact ⟨j + 1, l2, by go_num, by omega, HL, Q1, HX⟩
              case measure => simp [intOf]; omega
            · have hwZ := hwY.mod hm5 (fun h => by have := hgo _ h; omega) (fun g hgg h => by have := hvlt g hgg; have := hgo g h; omega)
              have hgZ := hgY.mod hm5 (fun h => by have := hgo _ h; omega) (fun g hgg h => by have := hvult g hgg; have := hgo g h; omega)
              have hmZ := hmwY.fresh hm5 (fun i h => by have := hgo i h; omega)
              clear hm5 ho
              go_wp2
              go_roundw
              case rel => exact ⟨k + 1, _, _, M, by go_num, by omega, hwZ, hgZ, hMl.1, hmZ, hvX, hvuX, hsX⟩
              case measure => simp [intOf]; omega
        · have HA := Put_bad _ _ _ d.v _ hwD (by omega)
          have HB := gPut_bad pu d.v w'.drew (by omega)
          clear hok
          go_wp2
          go_region_held3 (fun u => u.cell? ⟨lb, lo + k * 4 + 1, none⟩ = some (.int .i64 d.v)) (first | go_keep)
            ((first | (go_at_call 12; refine HA.mono ?_; rintro e w3 ⟨rfl, rfl⟩) | (go_at_call 13; refine HB.mono ?_; rintro e w4 ⟨rfl, rfl⟩)))
          have hMl := H0.out [] (by simp)
          rw [List.append_nil] at hMl
          have hwX := hwD
          have hgX := hgD
          have hsX := hsep
          have hvX := hv
          have hvuX := hvu
          have hmX := hmwD
          clear HA HB hw hg hm hv hvu hsep hcells c0 c1 c2 c3 hmD hwD hgD hmwD hsz0 hfarD hi0 hi1
          generalize hMe : l = M at *
          have hpX : p < w'.drew.heap.size := lt_of_block hwX.blk
          have hpuX : pu < w'.drew.heap.size := lt_of_block hgX.blk
          have hvlt := hwX.own.lt
          have hvult := hgX.own.lt
          go_wp2_with fail
          refine (Bytes_any _ _ _ _ hwX hMl.2).mono ?_
          rintro e wY ⟨vo, rfl, ho, hmY, hgo⟩
          have hwY := hwX.mod hmY (fun h => h) (fun _ _ h => h)
          have hgY := hgX.mod hmY (fun h => h) (fun _ _ h => h)
          have hmwY : Mod (fun _ => False) w wY := hmX.trans hmY (fun _ _ h => h) (fun _ _ h => h)
          have hwXs : w.heap.size ≤ w'.drew.heap.size := hmX.size
          generalize w'.drew.heap.size = sX at hpX hpuX hvlt hvult hgo hwXs
          obtain ⟨ac, cc, rfl⟩ := ho.shape
          clear hmY hmX hwX hgX hMe
          go_wp2_with fail
          go_loopw [11] (fun i wy => ∃ (j : Nat) (l' : List Int), i = .int .i64 j ∧ j ≤ M.length ∧ Hid (l'.length = M.length) ∧ Own wy (.slice ac M.length cc) l' ∧ Mod (fun t => (Value.slice ac M.length cc).ownBlock = some t) wY wy) (fun i _ => M.length - (intOf i).toNat)
          case atStart => exact ⟨0, M, rfl, by omega, rfl, ho, Mod.refl _ _⟩
          case round =>
            clear ho
            obtain ⟨j, l', rfl, hj, hl', ho, hm5⟩ := hrel
            by_cases hjc : j < M.length
            · have ho' := ho
              rw [← hl'.out] at ho'
              obtain ⟨gi, ci', hsh, _, _⟩ := ho'.form (by rw [hl'.out]; omega)
              simp only [Value.slice.injEq, true_and] at hsh
              obtain ⟨rfl, rfl⟩ := hsh
              obtain ⟨q1, q2, q3, q4⟩ := ho'.set j (by rw [hl'.out]; exact hjc) (bits .xor .u8 (l'.getD j 0) 5)
              rw [hl'.out] at q1
              have hki : (j : Int) < (M.length : Int) := by omega
              have HL : Hid ((l'.set j (bits .xor .u8 (l'.getD j 0) 5)).length = M.length) := by show _ = _; rw [List.length_set, hl'.out]
              have hmx := hm5.trans q2 (V := fun t => (Value.slice (some ⟨gi, 0, none⟩) M.length cc).ownBlock = some t) (fun _ _ h => h) (fun i _ h => by simp [Value.ownBlock, h])
              generalize l'.set j (bits .xor .u8 (l'.getD j 0) 5) = l2 at q1 HL
              generalize l'.getD j 0 = c at q1 q2 q3 hmx
              have Q1 := q1
              have HX := hmx
              clear q2 ho' hmx q1 ho hm5
              go_wp2
              go_roundw
              case rel => exact ⟨j + 1, l2, by go_num, by omega, HL, Q1, HX⟩
              case measure => simp [intOf]; omega
            · have hwZ := hwY.mod hm5 (fun h => by have := hgo _ h; omega) (fun g hgg h => by have := hvlt g hgg; have := hgo g h; omega)
              have hgZ := hgY.mod hm5 (fun h => by have := hgo _ h; omega) (fun g hgg h => by have := hvult g hgg; have := hgo g h; omega)
              have hmZ := hmwY.fresh hm5 (fun i h => by have := hgo i h; omega)
              clear hm5 ho
              go_wp2
              go_roundw
              case rel => exact ⟨k + 1, _, _, M, by go_num, by omega, hwZ, hgZ, hMl.1, hmZ, hvX, hvuX, hsX⟩
              case measure => simp [intOf]; omega
      · have hxv : d.v ≤ 9223372036854775807 := iv.2
        by_cases hok : fwE d.v d.size = 0
        · have HW : Hid (fwE d.v d.size = 0) := hok
          clear hok
          go_wp2
          go_region_held3 (fun u => u.cell? ⟨lb, lo + k * 4 + 1, none⟩ = some (.int .i64 d.v) ∧ u.cell? ⟨lb, lo + k * 4 + 2, none⟩ = some (.int .i64 d.size)) (first | go_keep | exact e2 | exact e1)
            ((first | (go_at_call 14; refine (WFixed_ok _ _ _ _ _ _ hwD hxv HW.out (by omega)).mono ?_; rintro e w3 ⟨rfl, v3, hw3, hm3, hf3⟩; have hg3 := hgD.mod hm3 hfarD.1 hfarD.2; have hmw3 := hmwD.fresh hm3 (fun i h => by rcases h with h | h; omega; exact hv i h); have e1 := And.intro (hcells w3 hmw3).2.1 (hcells w3 hmw3).2.2.1) | (go_at_call 15; refine (gFixed_ok _ _ _ _ _ _ hg3 hxv HW.out (by omega)).mono ?_; rintro e wX ⟨rfl, vuX, hgX, hmX', hfX⟩; have hmX := hmw3.fresh hmX' (fun i h => by rcases h with h | h; omega; exact hvu i h); have e2 := And.intro (hcells wX hmX).2.1 (hcells wX hmX).2.2.1)))
          obtain ⟨hwX, hsX, hvX, hvuX⟩ := both_steps hgD hsep hw3 hm3 hf3 hg3 hmX' hfX hsz0 hv hvu
          have hMl := H0.out (fenc d.size.toNat d.v.toNat) (by
            rw [fenc_len]
            have h := HW.out
            unfold fwE at h
            have : ¬ (d.size < 1 ∨ 8 < d.size) := by intro ha; rw [if_pos ha] at h; omega
            omega)
          clear hw3 hm3 hf3 hg3 hmw3 e1 e2 hmX' hfX hw hg hm hv hvu hsep hcells c0 c1 c2 c3 hmD hwD hgD hmwD hsz0 hfarD hi0 hi1 HW hxv
          generalize hMe : l ++ fenc d.size.toNat d.v.toNat = M at *
          have hpX : p < wX.heap.size := lt_of_block hwX.blk
          have hpuX : pu < wX.heap.size := lt_of_block hgX.blk
          have hvlt := hwX.own.lt
          have hvult := hgX.own.lt
          go_wp2_with fail
          refine (Bytes_any _ _ _ _ hwX hMl.2).mono ?_
          rintro e wY ⟨vo, rfl, ho, hmY, hgo⟩
          have hwY := hwX.mod hmY (fun h => h) (fun _ _ h => h)
          have hgY := hgX.mod hmY (fun h => h) (fun _ _ h => h)
          have hmwY : Mod (fun _ => False) w wY := hmX.trans hmY (fun _ _ h => h) (fun _ _ h => h)
          have hwXs : w.heap.size ≤ wX.heap.size := hmX.size
          generalize wX.heap.size = sX at hpX hpuX hvlt hvult hgo hwXs
          obtain ⟨ac, cc, rfl⟩ := ho.shape
          clear hmY hmX hwX hgX hMe
          go_wp2_with fail
          go_loopw [11] (fun i wy => ∃ (j : Nat) (l' : List Int), i = .int .i64 j ∧ j ≤ M.length ∧ Hid (l'.length = M.length) ∧ Own wy (.slice ac M.length cc) l' ∧ Mod (fun t => (Value.slice ac M.length cc).ownBlock = some t) wY wy) (fun i _ => M.length - (intOf i).toNat)
          case atStart => exact ⟨0, M, rfl, by omega, rfl, ho, Mod.refl _ _⟩
          case round =>
            clear ho
            obtain ⟨j, l', rfl, hj, hl', ho, hm5⟩ := hrel
            by_cases hjc : j < M.length
            · have ho' := ho
              rw [← hl'.out] at ho'
              obtain ⟨gi, ci', hsh, _, _⟩ := ho'.form (by rw [hl'.out]; omega)
              simp only [Value.slice.injEq, true_and] at hsh
              obtain ⟨rfl, rfl⟩ := hsh
              obtain ⟨q1, q2, q3, q4⟩ := ho'.set j (by rw [hl'.out]; exact hjc) (bits .xor .u8 (l'.getD j 0) 5)
              rw [hl'.out] at q1
              have hki : (j : Int) < (M.length : Int) := by omega
              have HL : Hid ((l'.set j (bits .xor .u8 (l'.getD j 0) 5)).length = M.length) := by show _ = _; rw [List.length_set, hl'.out]
              have hmx := hm5.trans q2 (V := fun t => (Value.slice (some ⟨gi, 0, none⟩) M.length cc).ownBlock = some t) (fun _ _ h => h) (fun i _ h => by simp [Value.ownBlock, h])
              generalize l'.set j (bits .xor .u8 (l'.getD j 0) 5) = l2 at q1 HL
              generalize l'.getD j 0 = c at q1 q2 q3 hmx
              have Q1 := q1
              have HX := hmx
              clear q2 ho' hmx q1 ho hm5
              go_wp2
              go_roundw
              case rel => exact ⟨j + 1, l2, by go_num, by omega, HL, Q1, HX⟩
              case measure => simp [intOf]; omega
            · have hwZ := hwY.mod hm5 (fun h => by have := hgo _ h; omega) (fun g hgg h => by have := hvlt g hgg; have := hgo g h; omega)
              have hgZ := hgY.mod hm5 (fun h => by have := hgo _ h; omega) (fun g hgg h => by have := hvult g hgg; have := hgo g h; omega)
              have hmZ := hmwY.fresh hm5 (fun i h => by have := hgo i h; omega)
              clear hm5 ho
              go_wp2
              go_roundw
              case rel => exact ⟨k + 1, _, _, M, by go_num, by omega, hwZ, hgZ, hMl.1, hmZ, hvX, hvuX, hsX⟩
              case measure => simp [intOf]; omega
        · have HA := WFixed_bad _ _ _ d.v d.size _ hwD hxv hok
          have HB := gFixed_bad pu d.v d.size w'.drew hxv hok
          generalize fwE d.v d.size = e at HA HB
          clear hok
          go_wp2
          go_region_held3 (fun u => u.cell? ⟨lb, lo + k * 4 + 1, none⟩ = some (.int .i64 d.v) ∧ u.cell? ⟨lb, lo + k * 4 + 2, none⟩ = some (.int .i64 d.size)) (first | go_keep)
            ((first | (go_at_call 14; refine HA.mono ?_; rintro e w3 ⟨rfl, rfl⟩) | (go_at_call 15; refine HB.mono ?_; rintro e w4 ⟨rfl, rfl⟩)))
          have hMl := H0.out [] (by simp)
          rw [List.append_nil] at hMl
          have hwX := hwD
          have hgX := hgD
          have hsX := hsep
          have hvX := hv
          have hvuX := hvu
          have hmX := hmwD
          clear HA HB hw hg hm hv hvu hsep hcells c0 c1 c2 c3 hmD hwD hgD hmwD hsz0 hfarD hi0 hi1 hxv
          generalize hMe : l = M at *
          have hpX : p < w'.drew.heap.size := lt_of_block hwX.blk
          have hpuX : pu < w'.drew.heap.size := lt_of_block hgX.blk
          have hvlt := hwX.own.lt
          have hvult := hgX.own.lt
          go_wp2_with fail
          refine (Bytes_any _ _ _ _ hwX hMl.2).mono ?_
          rintro e wY ⟨vo, rfl, ho, hmY, hgo⟩
          have hwY := hwX.mod hmY (fun h => h) (fun _ _ h => h)
          have hgY := hgX.mod hmY (fun h => h) (fun _ _ h => h)
          have hmwY : Mod (fun _ => False) w wY := hmX.trans hmY (fun _ _ h => h) (fun _ _ h => h)
          have hwXs : w.heap.size ≤ w'.drew.heap.size := hmX.size
          generalize w'.drew.heap.size = sX at hpX hpuX hvlt hvult hgo hwXs
          obtain ⟨ac, cc, rfl⟩ := ho.shape
          clear hmY hmX hwX hgX hMe
          go_wp2_with fail
          go_loopw [11] (fun i wy => ∃ (j : Nat) (l' : List Int), i = .int .i64 j ∧ j ≤ M.length ∧ Hid (l'.length = M.length) ∧ Own wy (.slice ac M.length cc) l' ∧ Mod (fun t => (Value.slice ac M.length cc).ownBlock = some t) wY wy) (fun i _ => M.length - (intOf i).toNat)
          case atStart => exact ⟨0, M, rfl, by omega, rfl, ho, Mod.refl _ _⟩
          case round =>
            clear ho
            obtain ⟨j, l', rfl, hj, hl', ho, hm5⟩ := hrel
            by_cases hjc : j < M.length
            · have ho' := ho
              rw [← hl'.out] at ho'
              obtain ⟨gi, ci', hsh, _, _⟩ := ho'.form (by rw [hl'.out]; omega)
              simp only [Value.slice.injEq, true_and] at hsh
              obtain ⟨rfl, rfl⟩ := hsh
              obtain ⟨q1, q2, q3, q4⟩ := ho'.set j (by rw [hl'.out]; exact hjc) (bits .xor .u8 (l'.getD j 0) 5)
              rw [hl'.out] at q1
              have hki : (j : Int) < (M.length : Int) := by omega
              have HL : Hid ((l'.set j (bits .xor .u8 (l'.getD j 0) 5)).length = M.length) := by show _ = _; rw [List.length_set, hl'.out]
              have hmx := hm5.trans q2 (V := fun t => (Value.slice (some ⟨gi, 0, none⟩) M.length cc).ownBlock = some t) (fun _ _ h => h) (fun i _ h => by simp [Value.ownBlock, h])
              generalize l'.set j (bits .xor .u8 (l'.getD j 0) 5) = l2 at q1 HL
              generalize l'.getD j 0 = c at q1 q2 q3 hmx
              have Q1 := q1
              have HX := hmx
              clear q2 ho' hmx q1 ho hm5
              go_wp2
              go_roundw
              case rel => exact ⟨j + 1, l2, by go_num, by omega, HL, Q1, HX⟩
              case measure => simp [intOf]; omega
            · have hwZ := hwY.mod hm5 (fun h => by have := hgo _ h; omega) (fun g hgg h => by have := hvlt g hgg; have := hgo g h; omega)
              have hgZ := hgY.mod hm5 (fun h => by have := hgo _ h; omega) (fun g hgg h => by have := hvult g hgg; have := hgo g h; omega)
              have hmZ := hmwY.fresh hm5 (fun i h => by have := hgo i h; omega)
              clear hm5 ho
              go_wp2
              go_roundw
              case rel => exact ⟨k + 1, _, _, M, by go_num, by omega, hwZ, hgZ, hMl.1, hmZ, hvX, hvuX, hsX⟩
              case measure => simp [intOf]; omega
      · have hsd' := hsd.mod hm (fun _ _ h => h)
        have hplt : p < w'.heap.size := lt_of_block hw.blk
        have hpult : pu < w'.heap.size := lt_of_block hg.blk
        have hvlt0 := hw.own.lt
        have hvult0 := hg.own.lt
        have hs0w : w.heap.size ≤ w'.heap.size := hm.size
        clear hmD hwD hgD hmwD hsz0 hfarD
        go_wp2_with fail
        refine (copy_any _ _ _ hsd' (by omega)).mono ?_
        rintro e w2 ⟨vi, rfl, hoi, hm2, hgi⟩
        have hmD : Mod (fun _ => False) w' w2.drew := hm2.drew
        have hmD2 : Mod (fun _ => False) w2 w2.drew := (Mod.refl _ w2).drew
        have hwD := hw.mod hmD (fun h => h) (fun _ _ h => h)
        have hgD := hg.mod hmD (fun h => h) (fun _ _ h => h)
        have hmwD : Mod (fun _ => False) w w2.drew := hm.trans hmD (fun _ _ h => h) (fun _ _ h => h)
        have hoiD := hoi.mod hmD2 (fun _ _ h => h)
        have hsz0 : w.heap.size ≤ w2.drew.heap.size := hmwD.size
        have hfarD := hgD.far hwD hsep
        have hilt : ∀ g, vi.ownBlock = some g → w'.heap.size ≤ g ∧ g < w2.drew.heap.size := fun g h => ⟨hgi g h, hoiD.lt g h⟩
        have hsiD := hoiD.sl hsd.rng
        have hdi : d.b ≠ [] → ∀ g, vi.ownBlock = some g → g ≠ p ∧ v.ownBlock ≠ some g := fun _ g h => by
          have := (hilt g h).1
          exact ⟨by omega, fun e => by have := hvlt0 g e; omega⟩
        have hdb : d.b ≠ [] → ∀ g, d.bv.ownBlock = some g → g ≠ pu ∧ vu.ownBlock ≠ some g := fun hne g h => by
          have := hsd.lt hne g h
          exact ⟨by omega, fun e => by have := hvu g e; omega⟩
        have f3 := (hcells _ hmwD).2.2.2
        have f3' := (hcells w2 (hm.trans hm2 (fun _ _ h => h) (fun _ _ h => h))).2.2.2
        clear hsd' c0 c1 c2 c3 hm2 hmD2 hgi hoi
        go_wp2
        go_region_held3 (fun u => u.cell? ⟨lb, lo + k * 4 + 3, none⟩ = some d.bv) (first | go_keep | exact e2 | exact e1)
          ((first | (go_at_call 17; refine (WOctets_any _ _ _ _ _ _ hwD hsiD hdi (by omega)).mono ?_; rintro e w3 ⟨rfl, v3, hw3, hm3, hf3⟩; have hg3 := hgD.mod hm3 hfarD.1 hfarD.2; have hmw3 := hmwD.fresh hm3 (fun i h => by rcases h with h | h; omega; exact hv i h); have e1 := (hcells w3 hmw3).2.2.2) | (go_at_call 18; refine (gOctets _ _ _ _ _ _ hg3 (hsd.mod hmw3 (fun _ _ h => h)) hdb hbl (by omega)).mono ?_; rintro e wX ⟨rfl, vuX, hgX, hmX', hfX⟩; have hmX := hmw3.fresh hmX' (fun i h => by rcases h with h | h; omega; exact hvu i h); have e2 := (hcells wX hmX).2.2.2)))
        obtain ⟨hwX, hsX, hvX, hvuX⟩ := both_steps hgD hsep hw3 hm3 hf3 hg3 hmX' hfX hsz0 hv hvu
        have hMl := H0.out (enc d.b.length ++ d.b) (by have := enc_len d.b.length; rw [List.length_append]; omega)
        rw [← List.append_assoc] at hMl
        have hoiX := (hoiD.mod hm3 (fun g h => by have := (hilt g h).1; rintro (e | e); omega; have := hvlt0 g e; omega)).mod hmX' (fun g h => by have := (hilt g h).1; rintro (e | e); omega; have := hvult0 g e; omega)
        have hvX2 : ∀ g, v3.ownBlock = some g → g < w'.heap.size ∨ w2.drew.heap.size ≤ g := fun g h => by
          rcases hf3 g h with h | h
          · exact .inl (hvlt0 g h)
          · exact .inr h
        have hvuX2 : ∀ g, vuX.ownBlock = some g → g < w'.heap.size ∨ w2.drew.heap.size ≤ g := fun g h => by
          rcases hfX g h with h | h
          · exact .inl (hvult0 g h)
          · exact .inr (Nat.le_trans hm3.size h)
        have hsdX := hsd.mod hmX (fun _ _ h => h)
        generalize w'.heap.size = s1 at hilt hvX2 hvuX2 hplt hpult hs0w
        generalize w2.drew.heap.size = s2 at hilt hvX2 hvuX2
        clear hw3 hm3 hf3 hg3 hmw3 e1 hmX' hfX hw hg hm hv hvu hsep hcells hwD hgD hmwD hfarD hi0 hi1 hsiD hdi hdb f3 f3' hoiD hvlt0 hvult0 hmD
        go_wp2_with fail
        refine (EqBytes_at true (hoiX.sl hsd.rng) hsdX (by simp)).mono ?_
        rintro e wE ⟨rfl, hmE⟩
        have hwE := hwX.mod hmE (fun h => h) (fun _ _ h => h)
        have hgE := hgX.mod hmE (fun h => h) (fun _ _ h => h)
        have hoE := hoiX.mod hmE (fun _ _ h => h)
        have hmwE : Mod (fun _ => False) w wE := hmX.trans hmE (fun _ _ h => h) (fun _ _ h => h)
        obtain ⟨ai, ci, rfl⟩ := hoE.shape
        clear hwX hgX hoiX hmX hmE hsdX e2
        go_wp2_with fail
        go_loopw [9] (fun i wy => ∃ (j : Nat) (l' : List Int), i = .int .i64 j ∧ j ≤ d.b.length ∧ Hid (l'.length = d.b.length) ∧ Own wy (.slice ai d.b.length ci) l' ∧ Mod (fun t => (Value.slice ai d.b.length ci).ownBlock = some t) wE wy) (fun i _ => d.b.length - (intOf i).toNat)
        case atStart => exact ⟨0, d.b, rfl, by omega, rfl, hoE, Mod.refl _ _⟩
        case round =>
          clear hoE
          obtain ⟨j, l', rfl, hj, hl', ho, hm5⟩ := hrel
          by_cases hjc : j < d.b.length
          · have ho' := ho
            rw [← hl'.out] at ho'
            obtain ⟨gi, ci', hsh, _, _⟩ := ho'.form (by rw [hl'.out]; omega)
            simp only [Value.slice.injEq, true_and] at hsh
            obtain ⟨rfl, rfl⟩ := hsh
            obtain ⟨q1, q2, q3, q4⟩ := ho'.set j (by rw [hl'.out]; exact hjc) (IntKind.u8.wrap (l'.getD j 0 + 1))
            rw [hl'.out] at q1
            have hki : (j : Int) < (d.b.length : Int) := by omega
            have HL : Hid ((l'.set j (IntKind.u8.wrap (l'.getD j 0 + 1))).length = d.b.length) := by show _ = _; rw [List.length_set, hl'.out]
            have hmx := hm5.trans q2 (V := fun t => (Value.slice (some ⟨gi, 0, none⟩) d.b.length ci).ownBlock = some t) (fun _ _ h => h) (fun i _ h => by simp [Value.ownBlock, h])
            generalize l'.set j (IntKind.u8.wrap (l'.getD j 0 + 1)) = l2 at q1 HL
            generalize l'.getD j 0 = c at q1 q2 q3 hmx
            have Q1 := q1
            have HX := hmx
            clear q2 ho' hmx q1 ho hm5
            go_wp2
            go_roundw
            case rel => exact ⟨j + 1, l2, by go_num, by omega, HL, Q1, HX⟩
            case measure => simp [intOf]; omega
          · have hwX := hwE.mod hm5 (fun h => by have := hilt _ h; omega) (fun g hgg h => by have := hvX2 g hgg; have := hilt g h; omega)
            have hgX := hgE.mod hm5 (fun h => by have := hilt _ h; omega) (fun g hgg h => by have := hvuX2 g hgg; have := hilt g h; omega)
            have hmX := hmwE.fresh hm5 (fun i h => by have := hilt i h; omega)
            clear hm5 ho hwE hgE hmwE hl' hvX2 hvuX2 hilt
            generalize hMe : l ++ enc d.b.length ++ d.b = M at *
            have hpX : p < wr.heap.size := lt_of_block hwX.blk
            have hpuX : pu < wr.heap.size := lt_of_block hgX.blk
            have hvlt := hwX.own.lt
            have hvult := hgX.own.lt
            go_wp2_with fail
            refine (Bytes_any _ _ _ _ hwX hMl.2).mono ?_
            rintro e wY ⟨vo, rfl, ho, hmY, hgo⟩
            have hwY := hwX.mod hmY (fun h => h) (fun _ _ h => h)
            have hgY := hgX.mod hmY (fun h => h) (fun _ _ h => h)
            have hmwY : Mod (fun _ => False) w wY := hmX.trans hmY (fun _ _ h => h) (fun _ _ h => h)
            have hwXs : w.heap.size ≤ wr.heap.size := hmX.size
            generalize wr.heap.size = sX at hpX hpuX hvlt hvult hgo hwXs
            obtain ⟨ac, cc, rfl⟩ := ho.shape
            clear hmY hmX hwX hgX hMe
            go_wp2_with fail
            go_loopw [11] (fun i wy => ∃ (j : Nat) (l' : List Int), i = .int .i64 j ∧ j ≤ M.length ∧ Hid (l'.length = M.length) ∧ Own wy (.slice ac M.length cc) l' ∧ Mod (fun t => (Value.slice ac M.length cc).ownBlock = some t) wY wy) (fun i _ => M.length - (intOf i).toNat)
            case atStart => exact ⟨0, M, rfl, by omega, rfl, ho, Mod.refl _ _⟩
            case round =>
              clear ho
              obtain ⟨j, l', rfl, hj, hl', ho, hm5⟩ := hrel
              by_cases hjc : j < M.length
              · have ho' := ho
                rw [← hl'.out] at ho'
                obtain ⟨gi, ci', hsh, _, _⟩ := ho'.form (by rw [hl'.out]; omega)
                simp only [Value.slice.injEq, true_and] at hsh
                obtain ⟨rfl, rfl⟩ := hsh
                obtain ⟨q1, q2, q3, q4⟩ := ho'.set j (by rw [hl'.out]; exact hjc) (bits .xor .u8 (l'.getD j 0) 5)
                rw [hl'.out] at q1
                have hki : (j : Int) < (M.length : Int) := by omega
                have HL : Hid ((l'.set j (bits .xor .u8 (l'.getD j 0) 5)).length = M.length) := by show _ = _; rw [List.length_set, hl'.out]
                have hmx := hm5.trans q2 (V := fun t => (Value.slice (some ⟨gi, 0, none⟩) M.length cc).ownBlock = some t) (fun _ _ h => h) (fun i _ h => by simp [Value.ownBlock, h])
                generalize l'.set j (bits .xor .u8 (l'.getD j 0) 5) = l2 at q1 HL
                generalize l'.getD j 0 = c at q1 q2 q3 hmx
                have Q1 := q1
                have HX := hmx
                clear q2 ho' hmx q1 ho hm5
                go_wp2
                go_roundw
                case rel => exact ⟨j + 1, l2, by go_num, by omega, HL, Q1, HX⟩
                case measure => simp [intOf]; omega
              · have hwZ := hwY.mod hm5 (fun h => by have := hgo _ h; omega) (fun g hgg h => by have := hvlt g hgg; have := hgo g h; omega)
                have hgZ := hgY.mod hm5 (fun h => by have := hgo _ h; omega) (fun g hgg h => by have := hvult g hgg; have := hgo g h; omega)
                have hmZ := hmwY.fresh hm5 (fun i h => by have := hgo i h; omega)
                clear hm5 ho
                go_wp2
                go_roundw
                case rel => exact ⟨k + 1, _, _, M, by go_num, by omega, hwZ, hgZ, hMl.1, hmZ, hvX, hvuX, hsX⟩
                case measure => simp [intOf]; omega
    · have hfg := hg.far hw hsep
      have hlb : l.length ≤ 140737488355328 := by have := wt_le ds k; omega
      have hmD : Mod (fun _ => False) wr wr.drew := (Mod.refl _ wr).drew
      have hwD := hw.mod hmD (fun h => h) (fun _ _ h => h)
      have hgD := hg.mod hmD (fun h => h) (fun _ _ h => h)
      have hmwD : Mod (fun _ => False) w wr.drew := hm.drew
      have hu0 := hg.c0
      clear hfg hmD hw hg hm
      go_wp2
      go_region_held3 (fun u => u.cell? ⟨pu, 0, none⟩ = some vu) (first | go_keep | exact e3 | exact e2 | exact e1)
        ((first | (go_at_call 20; refine (Bytes_any _ _ _ _ hwD hlb).mono ?_; rintro e w2 ⟨vo, rfl, ho, hm2, _⟩; have hg2 := hgD.mod hm2 (fun h => h) (fun _ _ h => h); have e1 := hg2.c0) | (go_at_call 19; refine (EqBytes_at true (ho.sl hwD.rng) (hg2.own.sl hg2.rng) (by simp)).mono ?_; rintro e w3 ⟨rfl, hm3⟩; have hg3 := hg2.mod hm3 (fun h => h) (fun _ _ h => h); have e2 := hg3.c0) | (go_at_call 21; refine (works_any _).mono ?_; rintro e w4 ⟨rfl, hm4⟩; have hg4 := hg3.mod hm4 (fun h => h) (fun _ _ h => h); have e3 := hg4.c0)))
      go_wp2
      go_ret
      exact ⟨rfl, ((hmwD.trans hm2 (V := fun _ => False) (fun _ _ h => h) (fun _ _ h => h)).trans hm3 (V := fun _ => False) (fun _ _ h => h) (fun _ _ h => h)).trans hm4 (fun _ _ h => h) (fun _ _ h => h)⟩

namespace wordWrites
open Go.ChangeShapes Go.WideShapes Go.ChangeAt Go.RowKit
theorem own : ownKnob Try.prog.godebug = none := by kernel_rfl
theorem laidOut : laidOutB Try.prog = true := by kernel_rfl
theorem contract (H : Type) (enc : TypeId × Value → H) (W : World) (base : Nat) (args : Array Value) (ds gs : List (DataW H)) (before : List MemPlace)
    (hval : ∀ (j : Nat) t v, Try.f3.params[j]? = some t → args[j]? = some v → Value.okWide Try.prog W .any base t v)
    (hW : DataW.Whole enc Try.prog Try.f3.params.toList Rows.wordWritesSpec.vars false W args.toList ds gs before) (hk : Rows.uptoSmall H (ds ++ gs) = true) :
    Calls Try.prog 3 args W fun e W' => ∃ v, e = .returned v ∧ Rows.wordWritesSpec.post enc Try.prog Try.f3 false true false false W args v W' := by
  have hW' := hW
  obtain ⟨p, q, hA0, hV, rfl, hfz, hnd⟩ := hW
  have hA : DataW.TrodAll enc Try.prog W 0 (fun _ => true) true Try.f3.params.toList args.toList ds p := hA0
  rw [Try.params3] at hA hval
  obtain ⟨v0, vs0, d0, ds0, p0, q0, hargs, rfl, rfl, h0, r0⟩ := trodAll_cons hA
  obtain ⟨rfl, rfl, rfl⟩ := trodAll_nil r0
  obtain rfl : args = #[v0] := by cases args; simp_all
  obtain ⟨rfl, rfl⟩ := trodVars_none hV
  have hs0 := okWide_slice Try.underlying22 (hval 0 22 v0 rfl rfl)
  have k0 := h0
  have lt0 : ∀ x ∈ p0, x.block < W.heap.size := by obtain ⟨m, hm⟩ := k0; exact DataW.trod_lt m _ _ _ hm
  obtain ⟨dl, hdeeds, hbulk⟩ := open_deeds h0 hs0
  have hsmall : Rows.uptoBulkAll [d0] ≤ 1048576 := of_decide_eq_true hk
  simp only [Rows.uptoBulkAll] at hsmall
  refine (writes_walk v0 dl W hdeeds (by unfold wt; omega)).mono fun e W' ⟨he, hm⟩ => ?_
  subst he
  have bel : Below W.heap.size W W' := hm.below _ (Nat.le_refl _) (fun _ h => h.elim)
  exact ⟨_, rfl, _, _, _, [], _, [], hW', trodAll_mk1 (shut_bool Try.underlying4 _), (trodAll_cons_mk (Below.trod laidOut (by kernel_rfl) (of_decide_eq_true (by kernel_rfl)) k0 bel lt0) trodAll_mk0), rfl, bel.frame _, fun h => by cases h⟩

set_option maxRecDepth 100000 in
theorem lifted (os : Os) (started : os.Started) (H : Type) (enc : TypeId × Value → H) (F : Stop.Interp) :
    ReturnsInHanded {} Try.checked os 3 .any ((Rows.OpenSpec.upto Rows.wordWritesSpec).pre6 enc Try.prog Try.f3 Rows.wordWritesUptoRow.domain false) (((Rows.OpenSpec.upto Rows.wordWritesSpec).at F).post enc Try.prog Try.f3 false true false false) := by
  refine returnsInHanded_of_cond (C := Try.checked) (s := Rows.OpenSpec.upto Rows.wordWritesSpec) (k := Rows.uptoSmall) rfl own started (by kernel_rfl) Try.func3
    (OpenSpec.witness (enc := enc) (C := Try.checked) (s := Rows.OpenSpec.upto Rows.wordWritesSpec) (k := Rows.uptoSmall) rfl false ⟨#[], #[.slice none 0 0], []⟩ 8 (by kernel_rfl) (by kernel_rfl) (by kernel_rfl)
      (x := ([.nil], [], [])) (by kernel_rfl) rfl (by kernel_rfl)) ?_
  intro W base args ds gs before hval hW _ hk _
  exact contract H enc W base args ds gs before hval hW hk

theorem over : Rows.WordWritesUptoSaid :=
  OpenClaim.holds_of_cond 3 Try.f3 rfl rfl rfl rfl rfl rfl rfl ⟨rfl, rfl, rfl, rfl, rfl⟩ rfl rfl rfl rfl rfl (by kernel_rfl) Try.func3 (by kernel_rfl)
    (of_decide_eq_true (by kernel_rfl)) (by unfold Func.isWrapper; first | (rw [if_pos (by decide +kernel)]; kernel_rfl) | (rw [if_neg (by decide +kernel)]; exact ⟨rfl, rfl⟩))
    (fun os started H enc _ F => lifted os started H enc F)
end wordWrites
theorem wordWritesUpto_holds : Rows.WordWritesUptoSaid := wordWrites.over
end Go.Proofs.Ytfinaabhmdnjfaa
