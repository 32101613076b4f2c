/- WordReads holds: for any bytes and any deeds the law answers true and turns nothing that was there. Conditions: none beyond the form's own reach (a slice of bytes takes at most 2^47 - 4096 bytes). -/
import Derived.Test.YtfinaabhmdnjfaaRb
import Derived.SizedLaws
import Derived.Deep.QuietTactic
import Derived.BigQuiet
namespace Go.Proofs.Ytfinaabhmdnjfaa
open Go.RowKit
theorem Mod.freshR {S : Nat → Prop} {w a b : World} (h : Mod (fun _ => False) w a) (k : Mod S a b) (hS : ∀ i, S i → w.heap.size ≤ i) : Mod (fun _ => False) w b :=
  h.trans k (fun _ _ h => h) (fun i hi hs => by have := hS i hs; omega)
theorem Sl.first {w : World} {v : Value} {l : List Int} (h : Sl w v l) (hl : l ≠ []) : ∃ b off c, v.ownBlock = some b ∧ w.cell? ⟨b, off, none⟩ = some (.int .u8 c) := by
  obtain ⟨ao, cap, rfl, _, _, _, h4⟩ := h.form
  obtain ⟨b, off, rfl, hc⟩ := h4 hl
  have h0 : 0 < l.length := by cases l with | nil => exact absurd rfl hl | cons _ _ => simp
  exact ⟨b, off + 0, _, rfl, hc 0 h0⟩
theorem Sl.ne_rd {w : World} {v x : Value} {l m : List Int} {p : Nat} (h : Sl w v l) (hl : l ≠ []) (hr : Rd w p x m) : ∀ g, v.ownBlock = some g → ¬ g = p := by
  obtain ⟨b, off, c, hb, hc⟩ := h.first hl
  intro g hg e
  rw [hb] at hg
  cases hg
  subst e
  obtain ⟨ao, cap, rfl, _⟩ := hr.sl.form
  simp only [World.cell?, hr.blk] at hc
  match off, hc with
  | 0, hc => simp at hc
  | 1, hc => simp at hc
  | n + 2, hc => simp at hc
theorem Sl.ne_rf {w : World} {v x : Value} {l m : List Int} {p : Nat} (h : Sl w v l) (hl : l ≠ []) (hr : Rf w p x m) : ∀ g, v.ownBlock = some g → ¬ g = p := by
  obtain ⟨b, off, c, hb, hc⟩ := h.first hl
  intro g hg e
  rw [hb] at hg
  cases hg
  subst e
  obtain ⟨ao, cap, rfl, _⟩ := hr.sl.form
  simp only [World.cell?, hr.blk] at hc
  match off, hc with
  | 0, hc => simp at hc
  | n + 1, hc => simp at hc
theorem Left_q {p : Nat} {v : Value} {l : List Int} {w : World} (h : Rd w p v l) (m : Nat) (hm : l.length = m) (n : Nat) :
    Calls Try.prog 30 #[.pointer (some ⟨p, 0, none⟩)] (w.drewN n) fun e w' => e = .returned (.int .i64 m) ∧ w' = w.drewN n :=
  Left_at (h.mod (((Mod.refl (fun _ => False) w).drewN n)) (fun h => h) (fun _ _ h => h)) m hm
theorem Eq_q {u v : Value} {a : List Int} {w : World} (hu : Sl w u a) (hv : Sl w v a) (n : Nat) :
    Calls Try.prog 19 #[u, v] (w.drewN n) fun e w' => e = .returned (.bool true) ∧ ∃ m, w' = (w.drewN n).drewN m :=
  have hm := (Mod.refl (fun _ => False) w).drewN n
  EqBytes_quiet u v a a _ (hu.mod hm (fun _ _ h => h)) (hv.mod hm (fun _ _ h => h)) true (by simp)
set_option maxRecDepth 100000 in
set_option maxHeartbeats 4000000 in
theorem reads_walk (bv lv : Value) (B : List Int) (ds : List Dd) (w : World) (hb : Sl w bv B) (hd : Deeds w lv ds) (hB : B.length ≤ 140737488351232) :
    Calls Try.prog 4 #[bv, lv] w fun e w' => e = .returned (.bool true) ∧ Mod (fun _ => False) w w' := by
  obtain ⟨ab, cb, hbe, _⟩ := hb.form
  obtain ⟨al, cl, rfl, hlm, _⟩ := hd.form
  have HBE : Hid (bv = .slice ab B.length cb) := hbe
  clear hbe
  unfold maxLen at hlm
  go_enter Try.func4, Try.ntmps4
  go_wp2_with fail
  refine (copy_any _ _ _ hb (by omega)).mono ?_
  rintro e w1 ⟨vi, rfl, hoi, hm1, hgi⟩
  have hsi := hoi.sl hb.rng
  go_wp2_with fail
  refine (New_any _ _ _ hsi (by omega)).mono ?_
  rintro e w2 ⟨pr, vr, rfl, hr2, hm2, hpr, hpr2, hvr⟩
  have hm02 : Mod (fun _ => False) w w2 := hm1.trans hm2 (fun _ _ h => h) (fun _ _ h => h)
  go_wp2_with fail
  refine (rNew _ _ _ (hb.mod hm02 (fun _ _ h => h)) (by omega)).mono ?_
  rintro e w3 ⟨ps, rfl, vs, hs3, hm3, hps, hvs⟩
  have hm03 : Mod (fun _ => False) w w3 := hm02.trans hm3 (fun _ _ h => h) (fun _ _ h => h)
  have hm13 : Mod (fun _ => False) w1 w3 := hm2.trans hm3 (fun _ _ h => h) (fun _ _ h => h)
  have hr3 := hr2.mod hm3 (fun h => h) (fun _ _ h => h)
  have hoi3 := hoi.mod hm13 (fun _ _ h => h)
  go_wp2_with fail
  refine (EqBytes_at true (hsi.mod hm13 (fun _ _ h => h)) (hb.mod hm03 (fun _ _ h => h)) (by simp)).mono ?_
  rintro e w4 ⟨rfl, hm4⟩
  have hm04 : Mod (fun _ => False) w w4 := hm03.trans hm4 (fun _ _ h => h) (fun _ _ h => h)
  have hr4 := hr3.mod hm4 (fun h => h) (fun _ _ h => h)
  have hs4 := hs3.mod2 hm4 (fun h => h) (fun _ _ _ h => h)
  have hoi4 := hoi3.mod hm4 (fun _ _ h => h)
  have hilt : ∀ g, vi.ownBlock = some g → w.heap.size ≤ g ∧ g < w1.heap.size := fun g hg => ⟨hgi g hg, hoi.lt g hg⟩
  have hw01 : w.heap.size ≤ w1.heap.size := hm1.size
  have hw12 : w1.heap.size ≤ w2.heap.size := hm2.size
  generalize w1.heap.size = s1 at hilt hpr hvr hw01 hw12
  generalize w2.heap.size = s2 at hpr2 hps hvs hw12
  clear hm1 hm2 hm02 hm3 hm03 hm13 hm4 hr2 hr3 hs3 hoi hoi3 hsi hgi
  obtain ⟨ai, ci, rfl⟩ := hoi4.shape
  go_wp2_with fail
  go_loopw [8] (fun i wr => ∃ (k : Nat) (l' : List Int), i = .int .i64 k ∧ k ≤ B.length ∧ Hid (l'.length = B.length) ∧ Own wr (.slice ai B.length ci) l' ∧ Mod (fun j => (Value.slice ai B.length ci).ownBlock = some j) w4 wr) (fun i _ => B.length - (intOf i).toNat)
  case atStart => exact ⟨0, B, rfl, by omega, rfl, hoi4, Mod.refl _ _⟩
  case round =>
    obtain ⟨k, l', rfl, hk, hl', ho, hm5⟩ := hrel
    by_cases hlt : k < B.length
    · have ho' : Own wr (.slice ai l'.length ci) l' := by rw [hl'.out]; exact ho
      obtain ⟨gi, ci', hsh, _, _⟩ := ho'.form (by rw [hl'.out]; omega)
      simp only [Value.slice.injEq, true_and] at hsh
      obtain ⟨rfl, rfl⟩ := hsh
      obtain ⟨q1, q2, q3, q4⟩ := ho'.set k (by rw [hl'.out]; exact hlt) (IntKind.u8.wrap (l'.getD k 0 + 1))
      rw [hl'.out] at q1
      have hki : (k : Int) < (B.length : Int) := by omega
      have HL : Hid ((l'.set k (IntKind.u8.wrap (l'.getD k 0 + 1))).length = B.length) := by show _ = _; rw [List.length_set, hl'.out]
      have hmx : Mod (fun j => (Value.slice (some ⟨gi, 0, none⟩) B.length ci).ownBlock = some j) w4 (wr.setCell ⟨gi, k, none⟩ (.int .u8 (IntKind.u8.wrap (l'.getD k 0 + 1)))) := hm5.trans q2 (fun _ _ h => h) (fun i _ h => by simp [Value.ownBlock, h])
      generalize l'.set k (IntKind.u8.wrap (l'.getD k 0 + 1)) = l2 at q1 HL
      generalize l'.getD k 0 = c at q1 q2 q3 hmx
      have Q1 := q1
      have HX := hmx
      clear q2 ho' hmx q1 ho hm5
      go_wp2
      go_roundw
      case rel => exact ⟨k + 1, l2, by go_num, by omega, HL, Q1, HX⟩
      case measure => simp [intOf]; omega
    · have hmw : Mod (fun _ => False) w wr := hm04.freshR hm5 (fun i h => (hilt i h).1)
      have hr5 : Rd wr pr vr B := hr4.mod2 hm5 (fun h => by have := hilt _ h; omega) (fun _ g hg h => by have := hvr g hg; have := hilt g h; omega)
      have hs5 : Rf wr ps vs B := hs4.mod2 hm5 (fun h => by have := hilt _ h; omega) (fun _ g hg h => by have := hvs g hg; have := hilt g h; omega)
      have hprw : w.heap.size ≤ pr := by omega
      have hpsw : w.heap.size ≤ ps := by omega
      have hvrw : ∀ g, vr.ownBlock = some g → w.heap.size ≤ g := fun g hg => by have := hvr g hg; omega
      have hvsw : ∀ g, vs.ownBlock = some g → w.heap.size ≤ g := fun g hg => by have := hvs g hg; omega
      have hprs : pr ≠ ps := by omega
      clear hoi4 ho hm5 hilt hpr hpr2 hps hw01 hw12 hvr hvs hr4 hs4 hm04 hl'
      go_wp2_with fail
      clear hk hlt
      go_loopw [9] (fun i wx => ∃ (j : Nat) (v v' : Value) (L : List Int), i = .int .i64 j ∧ j ≤ ds.length ∧ Rd wx pr v L ∧ Rf wx ps v' L ∧ L.length ≤ 140737488351232 ∧ Mod (fun _ => False) w wx ∧ (∀ g, v.ownBlock = some g → w.heap.size ≤ g) ∧ (∀ g, v'.ownBlock = some g → w.heap.size ≤ g)) (fun i _ => ds.length - (intOf i).toNat)
      case atStart => exact ⟨0, vr, vs, B, rfl, by omega, hr5, hs5, hB, hmw, hvrw, hvsw⟩
      case round =>
        clear hr5 hs5 hmw hvrw hvsw
        obtain ⟨j, v, v', L, rfl, hj, hr, hs, hL, hm, hv, hv'⟩ := hrel
        by_cases hlt : j < ds.length
        · obtain ⟨d, hdk⟩ : ∃ d, ds[j]? = some d := ⟨_, List.getElem?_eq_getElem hlt⟩
          obtain ⟨lb, lo, rfl, hcells⟩ := hd.at hdk
          obtain ⟨hsd, ik, iv, isz⟩ := hd.each d (List.mem_of_getElem? hdk)
          clear hdk hsd hd
          obtain ⟨c0, c1, c2, _⟩ := hcells _ hm
          have hne1 : L ≠ [] → ∀ g, v'.ownBlock = some g → ¬ g = pr := fun hne => hs.sl.ne_rd hne hr
          have hne2 : L ≠ [] → ∀ g, v.ownBlock = some g → ¬ g = ps := fun hne => hr.sl.ne_rf hne hs
          have hlt1 : L ≠ [] → ∀ g, v.ownBlock = some g → g < wr.heap.size := fun hne => hr.sl.lt hne
          have hlt2 : L ≠ [] → ∀ g, v'.ownBlock = some g → g < wr.heap.size := fun hne => hs.sl.lt hne
          have hplt : pr < wr.heap.size := lt_of_block hr.blk
          have hslt : ps < wr.heap.size := lt_of_block hs.blk
          have hw0 : w.heap.size ≤ wr.heap.size := hm.size
          generalize hse : wr.heap.size = s at hlt1 hlt2 hplt hslt hw0
          have HSE : Hid (wr.heap.size = s) := hse
          clear hse
          go_wp2_with fail
          refine (Bring3 _ _ ik).mono ?_
          rintro e w' ⟨rfl, rfl⟩
          have hq3 : 0 ≤ d.kind % 3 ∧ d.kind % 3 < 3 := by omega
          generalize d.kind % 3 = q at hq3
          rcases (show q = 0 ∨ q = 1 ∨ q = 2 from by omega) with hq | hq | hq
          all_goals subst hq
          · obtain ⟨⟨x, z, e⟩, hN⟩ : ∃ N, num 0 0 L = N := ⟨_, rfl⟩
            have hA := Get_any _ _ _ _ hr
            rw [hN] at hA
            have HA := hA
            clear hA
            go_wp2_with fail
            refine HA.mono ?_
            rintro e' w2 ⟨rfl, v2, hr2, hm2, hvA⟩
            have hs2 := hs.mod2 hm2 (fun h => hprs h.symm) hne1
            have hB2 := rGet _ _ _ _ hs2
            rw [hN] at hB2
            have HB := hB2
            clear HA hB2 hN
            go_wp2_with fail
            refine HB.mono ?_
            rintro e' w3 ⟨rfl, v3, hs3, hm3', hvB⟩
            have hr3 := hr2.mod2 hm3' (fun h => hprs h) (fun hne g hg => hne2 (by rintro rfl; simp at hne) g (hvA g hg))
            have hm3 : Mod (fun _ => False) w w3 := (hm.freshR hm2 (fun i h => by omega)).freshR hm3' (fun i h => by omega)
            have hv2 : ∀ g, v2.ownBlock = some g → w.heap.size ≤ g := fun g hg => hv g (hvA g hg)
            have hv3 : ∀ g, v3.ownBlock = some g → w.heap.size ≤ g := fun g hg => hv' g (hvB g hg)
          
            clear HB hr2 hm2 hs2 hm3' hvA hvB hm hr hs hne1 hne2 hlt1 hlt2 hcells c0 c1 c2 hv hv' 
            obtain ⟨n3, hn3⟩ : ∃ n3, (L.drop z.toNat).length = n3 := ⟨_, rfl⟩
            have hML : (L.drop z.toNat).length ≤ 140737488351232 := by (first | simpa using hL | (rw [List.length_drop]; omega))
            have hs0 := hs3.c0
            obtain ⟨a3, cap3, he3, _⟩ := hs3.sl.form
            rw [he3, hn3] at hs0
            have HQ : Hid (∀ n, _) := Left_q hr3 n3 hn3
            have HE : Hid (∀ n, _) := Eq_q (w := w3) ((Own.nil w3).sl (by simp)) ((Own.nil w3).sl (by simp))
            clear he3
            go_wp2
            go_quiet (first | (go_at_call 19; exact Calls.quiet_of (HE.out _)) | (go_at_call 30; exact Calls.quiet_of_same (HQ.out _)))
            go_wp2
            go_loop [16] (fun i => i = .int .i64 0) (fun _ => 0)
            case atStart => rfl
            case round =>
              obtain rfl := hrel
              go_wp2
              go_roundw
              case rel => exact ⟨j + 1, v2, v3, L.drop z.toNat, by go_num, by omega, hr3.mod ((Mod.refl (fun _ => False) w3).drewN _) (fun h => h) (fun _ _ h => h), hs3.mod2 ((Mod.refl (fun _ => False) w3).drewN _) (fun h => h) (fun _ _ _ h => h), hML, hm3.drewN _, hv2, hv3⟩
              case measure => simp [intOf]; omega
          · by_cases hE : fixE d.size L = 0
            · have HA := Fixed_ok _ _ _ _ _ hr hE
              have HEE : Hid (fixE d.size L = 0) := hE
              clear hE
              go_wp2_with fail
              refine HA.mono ?_
              rintro e' w2 ⟨rfl, v2, hr2, hm2, hvA⟩
              have hs2 := hs.mod2 hm2 (fun h => hprs h.symm) hne1
              have HB := rFixed_ok _ _ _ _ _ hs2 HEE.out
              have hmw2 : Mod (fun _ => False) w w2 := hm.freshR hm2 (fun i h => by omega)
              obtain ⟨_, _, g2, _⟩ := hcells _ hmw2
              generalize fx (L.take d.size.toNat) = fv at HA HB
              clear HA HEE
              go_wp2_with fail
              refine HB.mono ?_
              rintro e' w3 ⟨rfl, v3, hs3, hm3', hvB⟩
              have hr3 := hr2.mod2 hm3' (fun h => hprs h) (fun hne g hg => hne2 (by rintro rfl; simp at hne) g (hvA g hg))
              have hm3 : Mod (fun _ => False) w w3 := hmw2.freshR hm3' (fun i h => by omega)
              have hv2 : ∀ g, v2.ownBlock = some g → w.heap.size ≤ g := fun g hg => hv g (hvA g hg)
              have hv3 : ∀ g, v3.ownBlock = some g → w.heap.size ≤ g := fun g hg => hv' g (hvB g hg)
              clear HB hr2 hm2 hs2 hm3' hvA hvB hm hr hs hne1 hne2 hlt1 hlt2 hcells c0 c1 c2 hv hv' hmw2 g2
              obtain ⟨n3, hn3⟩ : ∃ n3, (L.drop d.size.toNat).length = n3 := ⟨_, rfl⟩
              have hML : (L.drop d.size.toNat).length ≤ 140737488351232 := by (first | simpa using hL | (rw [List.length_drop]; omega))
              have hs0 := hs3.c0
              obtain ⟨a3, cap3, he3, _⟩ := hs3.sl.form
              rw [he3, hn3] at hs0
              have HQ : Hid (∀ n, _) := Left_q hr3 n3 hn3
              have HE : Hid (∀ n, _) := Eq_q (w := w3) ((Own.nil w3).sl (by simp)) ((Own.nil w3).sl (by simp))
              clear he3
              go_wp2
              go_quiet (first | (go_at_call 19; exact Calls.quiet_of (HE.out _)) | (go_at_call 30; exact Calls.quiet_of_same (HQ.out _)))
              go_wp2
              go_loop [16] (fun i => i = .int .i64 0) (fun _ => 0)
              case atStart => rfl
              case round =>
                obtain rfl := hrel
                go_wp2
                go_roundw
                case rel => exact ⟨j + 1, v2, v3, L.drop d.size.toNat, by go_num, by omega, hr3.mod ((Mod.refl (fun _ => False) w3).drewN _) (fun h => h) (fun _ _ h => h), hs3.mod2 ((Mod.refl (fun _ => False) w3).drewN _) (fun h => h) (fun _ _ _ h => h), hML, hm3.drewN _, hv2, hv3⟩
                case measure => simp [intOf]; omega
            · have HA := Fixed_bad _ _ _ d.size _ hr hE
              have HB := rFixed_bad _ _ _ d.size _ hs hE
              generalize fixE d.size L = e at HA HB
              clear hE
              go_wp2_with fail
              refine HA.mono ?_
              rintro e' w2 ⟨rfl, rfl⟩
              go_wp2_with fail
              refine HB.mono ?_
              rintro e' w3 ⟨rfl, rfl⟩
              have hr3 := hr
              have hs3 := hs
              have hm3 := hm
              have hv2 := hv
              have hv3 := hv'
              clear HA HB hr hs hm hne1 hne2 hlt1 hlt2 hcells c0 c1 c2
              obtain ⟨n3, hn3⟩ : ∃ n3, (L).length = n3 := ⟨_, rfl⟩
              have hML : (L).length ≤ 140737488351232 := by (first | simpa using hL | (rw [List.length_drop]; omega))
              have hs0 := hs3.c0
              obtain ⟨a3, cap3, he3, _⟩ := hs3.sl.form
              rw [he3, hn3] at hs0
              have HQ : Hid (∀ n, _) := Left_q hr3 n3 hn3
              have HE : Hid (∀ n, _) := Eq_q (w := w3) ((Own.nil w3).sl (by simp)) ((Own.nil w3).sl (by simp))
              clear he3
              go_wp2
              go_quiet (first | (go_at_call 19; exact Calls.quiet_of (HE.out _)) | (go_at_call 30; exact Calls.quiet_of_same (HQ.out _)))
              go_wp2
              go_loop [16] (fun i => i = .int .i64 0) (fun _ => 0)
              case atStart => rfl
              case round =>
                obtain rfl := hrel
                go_wp2
                go_roundw
                case rel => exact ⟨j + 1, v, v', L, by go_num, by omega, hr3.mod ((Mod.refl (fun _ => False) w3).drewN _) (fun h => h) (fun _ _ h => h), hs3.mod2 ((Mod.refl (fun _ => False) w3).drewN _) (fun h => h) (fun _ _ _ h => h), hML, hm3.drewN _, hv2, hv3⟩
                case measure => simp [intOf]; omega
          · by_cases hE : octE d.v L = 0
            · have HA := Octets_ok _ _ _ _ _ hr (by omega) hE
              have HEE : Hid (octE d.v L = 0) := hE
              have hrngL := hr.sl.rng
              clear hE
              obtain ⟨zz, hzz⟩ : ∃ zz, (num 0 0 L).2.1.toNat = zz := ⟨_, rfl⟩
              obtain ⟨xx, hxx⟩ : ∃ xx, (num 0 0 L).1.toNat = xx := ⟨_, rfl⟩
              rw [hzz, hxx] at HA
              go_wp2_with fail
              refine HA.mono ?_
              rintro e' w2 ⟨vc, v2, rfl, hoc, hr2, hm2, hgc, hvA⟩
              have hs2 := hs.mod2 hm2 (fun h => hprs h.symm) hne1
              have HB := rOctets_ok _ _ _ _ _ hs2 (by omega) HEE.out
              rw [hzz, hxx] at HB
              have hmw2 : Mod (fun _ => False) w w2 := hm.freshR hm2 (fun i h => by omega)
              obtain ⟨_, g1, _, _⟩ := hcells _ hmw2
              clear HA HEE hzz hxx
              go_wp2_with fail
              refine HB.mono ?_
              rintro e' w3 ⟨vd, v3, rfl, hod, hs3, hm3', hgd, hvB⟩
              have hr3 := hr2.mod2 hm3' (fun h => hprs h) (fun hne g hg => hne2 (by rintro rfl; simp at hne) g (hvA g hg))
              have hm3 : Mod (fun _ => False) w w3 := hmw2.freshR hm3' (fun i h => by omega)
              have hv2 : ∀ g, v2.ownBlock = some g → w.heap.size ≤ g := fun g hg => hv g (hvA g hg)
              have hv3 : ∀ g, v3.ownBlock = some g → w.heap.size ≤ g := fun g hg => hv' g (hvB g hg)
              have hcge : ∀ g, vc.ownBlock = some g → s ≤ g := fun g hg => by have := hgc g hg; rw [HSE.out] at this; exact this
              have hoc3 := hoc.mod hm3' (fun g hg h => by have := hcge g hg; omega)
              have hrC : ∀ c ∈ (L.drop zz).take xx, 0 ≤ c ∧ c ≤ 255 := fun c hc => hrngL c (List.mem_of_mem_drop (List.mem_of_mem_take hc))
              have hl1 : L.drop (zz + xx) ≠ [] → ∀ g, v2.ownBlock = some g → g < s := fun hne g hg => hlt1 (by rintro rfl; simp at hne) g (hvA g hg)
              have hl2 : L.drop (zz + xx) ≠ [] → ∀ g, v3.ownBlock = some g → g < s := fun hne g hg => hlt2 (by rintro rfl; simp at hne) g (hvB g hg)
              have hsc := hoc3.sl hrC
              have hsd := hod.sl hrC
              have hML : (L.drop (zz + xx)).length ≤ 140737488351232 := by rw [List.length_drop]; omega
              obtain ⟨n3, hn3⟩ : ∃ n3, (L.drop (zz + xx)).length = n3 := ⟨_, rfl⟩
              have hs0 := hs3.c0
              obtain ⟨a3, cap3, he3, _⟩ := hs3.sl.form
              rw [he3, hn3] at hs0
              have HQ : Hid (∀ n, _) := Left_q hr3 n3 hn3
              have HE : Hid (∀ n, _) := Eq_q hsc hsd
              generalize hC : (L.drop zz).take xx = C at *
              have hCl : C.length ≤ 140737488351232 := by rw [← hC, List.length_take, List.length_drop]; omega
              generalize hM : L.drop (zz + xx) = M at *
              obtain ⟨ac, cc, rfl⟩ := hoc3.shape
              clear he3 HB hr2 hm2 hs2 hm3' hvA hvB hm hr hs hne1 hne2 hlt1 hlt2 hcells c0 c1 c2 hv hv' hmw2 g1 hod hoc hgc hgd hsd hsc hrngL hrC hC hM
              go_wp2
              go_quiet (first | (go_at_call 19; exact Calls.quiet_of (HE.out _)) | (go_at_call 30; exact Calls.quiet_of_same (HQ.out _)))
              go_wp2
              have hmD := (Mod.refl (fun _ => False) w3).drewN nq
              have hoD := hoc3.mod hmD (fun _ _ h => h)
              go_loopw [16] (fun i wy => ∃ (k : Nat) (l' : List Int), i = .int .i64 k ∧ k ≤ C.length ∧ Hid (l'.length = C.length) ∧ Own wy (.slice ac C.length cc) l' ∧ Mod (fun j => (Value.slice ac C.length cc).ownBlock = some j) (w3.drewN nq) wy) (fun i _ => C.length - (intOf i).toNat)
              case atStart => exact ⟨0, C, rfl, by omega, rfl, hoD, Mod.refl _ _⟩
              case round =>
                clear hoD hoc3
                obtain ⟨k, l', rfl, hk, hl', ho, hm5⟩ := hrel
                by_cases hkc : k < C.length
                · have ho' := ho
                  rw [← hl'.out] at ho'
                  obtain ⟨gi, ci', hsh, _, _⟩ := ho'.form (by rw [hl'.out]; omega)
                  simp only [Value.slice.injEq, true_and] at hsh
                  obtain ⟨rfl, rfl⟩ := hsh
                  obtain ⟨q1, q2, q3, q4⟩ := ho'.set k (by rw [hl'.out]; exact hkc) 9
                  rw [hl'.out] at q1
                  have hki : (k : Int) < (C.length : Int) := by omega
                  have HL : Hid ((l'.set k 9).length = C.length) := by show _ = _; rw [List.length_set, hl'.out]
                  have hmx := hm5.trans q2 (V := fun j => (Value.slice (some ⟨gi, 0, none⟩) C.length cc).ownBlock = some j) (fun _ _ h => h) (fun i _ h => by simp [Value.ownBlock, h])
                  generalize l'.set k 9 = l2 at q1 HL
                  have Q1 := q1
                  have HX := hmx
                  clear q2 ho' hmx q1 ho hm5
                  go_wp2
                  go_roundw
                  case rel => exact ⟨k + 1, l2, by go_num, by omega, HL, Q1, HX⟩
                  case measure => simp [intOf]; omega
                · have hm35 : Mod (fun j => (Value.slice ac C.length cc).ownBlock = some j) w3 _ := hmD.trans hm5 (fun _ _ h => h.elim) (fun _ _ h => h)
                  have hr5 := hr3.mod2 hm35 (fun h => by have := hcge _ h; omega) (fun hne g hg h => by have := hl1 hne g hg; have := hcge g h; omega)
                  have hs5 := hs3.mod2 hm35 (fun h => by have := hcge _ h; omega) (fun hne g hg h => by have := hl2 hne g hg; have := hcge g h; omega)
                  have hmw5 := hm3.freshR hm35 (fun i h => by have := hcge i h; omega)
                  clear hm35 hm5 ho hm3 hr3 hs3 hmD
                  go_wp2
                  go_roundw
                  case rel => exact ⟨j + 1, v2, v3, M, by go_num, by omega, hr5, hs5, hML, hmw5, hv2, hv3⟩
                  case measure => simp [intOf]; omega
            · have HA := Octets_bad _ _ _ d.v _ hr hE
              have HB := rOctets_bad _ _ _ d.v _ hs hE
              generalize octE d.v L = e at HA HB
              clear hE
              go_wp2_with fail
              refine HA.mono ?_
              rintro e' w2 ⟨rfl, rfl⟩
              go_wp2_with fail
              refine HB.mono ?_
              rintro e' w3 ⟨rfl, rfl⟩
              have hr3 := hr
              have hs3 := hs
              have hm3 := hm
              have hv2 := hv
              have hv3 := hv'
              clear HA HB hr hs hm hne1 hne2 hlt1 hlt2 hcells c0 c1 c2
              obtain ⟨n3, hn3⟩ : ∃ n3, (L).length = n3 := ⟨_, rfl⟩
              have hML : (L).length ≤ 140737488351232 := by (first | simpa using hL | (rw [List.length_drop]; omega))
              have hs0 := hs3.c0
              obtain ⟨a3, cap3, he3, _⟩ := hs3.sl.form
              rw [he3, hn3] at hs0
              have HQ : Hid (∀ n, _) := Left_q hr3 n3 hn3
              have HE : Hid (∀ n, _) := Eq_q (w := w3) ((Own.nil w3).sl (by simp)) ((Own.nil w3).sl (by simp))
              clear he3
              go_wp2
              go_quiet (first | (go_at_call 19; exact Calls.quiet_of (HE.out _)) | (go_at_call 30; exact Calls.quiet_of_same (HQ.out _)))
              go_wp2
              go_loop [16] (fun i => i = .int .i64 0) (fun _ => 0)
              case atStart => rfl
              case round =>
                obtain rfl := hrel
                go_wp2
                go_roundw
                case rel => exact ⟨j + 1, v, v', L, by go_num, by omega, hr3.mod ((Mod.refl (fun _ => False) w3).drewN _) (fun h => h) (fun _ _ h => h), hs3.mod2 ((Mod.refl (fun _ => False) w3).drewN _) (fun h => h) (fun _ _ _ h => h), hML, hm3.drewN _, hv2, hv3⟩
                case measure => simp [intOf]; omega
        · go_wp2_with fail
          refine (works_any _).mono ?_
          rintro e w' ⟨rfl, hmz⟩
          go_wp2
          go_ret
          exact ⟨rfl, hm.trans hmz (fun _ _ h => h) (fun _ _ h => h)⟩

namespace wordReads
open Go.ChangeShapes Go.WideShapes Go.ChangeAt Go.RowKit
theorem own : ownKnob Try.prog.godebug = none := by kernel_rfl
theorem laidOut : laidOutB Try.prog = true := by kernel_rfl
theorem bytes5 : Try.prog.bytesOf 5 = 1 := by kernel_rfl
set_option maxRecDepth 100000 in
theorem lifted (os : Os) (started : os.Started) (H : Type) (enc : TypeId × Value → H) :
    ReturnsInHanded {} Try.checked os 4 .any (Rows.wordReadsSpec.pre6 enc Try.prog Try.f4 Rows.wordReadsRow.domain false) (Rows.wordReadsSpec.post enc Try.prog Try.f4 false true false false) := by
  refine returnsInHanded_of_change_sized (C := Try.checked) own started (by kernel_rfl) Try.func4
    (ChangeSpec.witness6 (enc := enc) (C := Try.checked) false ⟨#[], #[.slice none 0 0, .slice none 0 0], []⟩ 8 (by kernel_rfl) (by kernel_rfl) (by kernel_rfl) (by kernel_rfl)) ?_
  intro W base args ds gs before hval0 hW hcnd hsz0 _
  have hval : ∀ (j : Nat) t v, Try.f4.params[j]? = some t → args[j]? = some v → Value.okWide Try.prog W .any base t v := hval0
  have hsz : (DataW.weightsEach Try.prog (Try.f4.params.toList ++ Rows.wordReadsSpec.plain.varTypes Try.prog) (ds ++ gs)).all (· ≤ reachBytes) = true := hsz0
  have hW' := hW
  obtain ⟨p, q, hA0, hV, rfl, hfz, hnd⟩ := hW
  have hA : DataW.TrodAll enc Try.prog W 0 (fun _ => true) true Try.f4.params.toList args.toList ds p := hA0
  rw [Try.params4] at hA hval hsz
  obtain ⟨v0, vs0, d0, ds0, p0, q0, hargs, rfl, rfl, h0, r0⟩ := trodAll_cons hA
  obtain ⟨v1, vs1, d1, ds1, p1, q1, rfl, rfl, rfl, h1, r1⟩ := trodAll_cons r0
  obtain ⟨rfl, rfl, rfl⟩ := trodAll_nil r1
  obtain rfl : args = #[v0, v1] := by cases args; simp_all
  obtain ⟨rfl, rfl⟩ := trodVars_none hV
  have hs0 := okWide_slice Try.underlying29 (hval 0 29 v0 rfl rfl)
  have hs1 := okWide_slice Try.underlying22 (hval 1 22 v1 rfl rfl)
  have k0 := h0
  have k1 := h1
  have lt0 : ∀ x ∈ p0, x.block < W.heap.size := by obtain ⟨m, hm⟩ := k0; exact DataW.trod_lt m _ _ _ hm
  have lt1 : ∀ x ∈ p1, x.block < W.heap.size := by obtain ⟨m, hm⟩ := k1; exact DataW.trod_lt m _ _ _ hm
  obtain ⟨dl, hdeeds, _⟩ := open_deeds h1 hs1
  obtain ⟨B, hB, hBl⟩ : ∃ B, Sl W v0 B ∧ B.length ≤ 140737488351232 := by
    obtain ⟨ao, len, cap, rfl⟩ := hs0
    obtain ⟨fuel, hf⟩ := h0
    obtain ⟨B, hB, hbulk, hx⟩ := sl_of_trod (c := .slice ao len cap) (by simpa [Value.cells] using hf)
    refine ⟨B, hB, ?_⟩
    simp only at hbulk hx
    rcases hx with rfl | ⟨e, s, rfl, hlen⟩
    · simp [Rows.uptoBulk] at hbulk; simp [hbulk]
    · have := sized_slice hsz (j := 0) (t := 29) (e := 5) rfl rfl Try.underlying29
      rw [bytes5] at this
      simp only [reachBytes] at this
      omega
  clear hA0 hval0
  refine (reads_walk v0 v1 B dl W hB hdeeds hBl).mono fun e W' ⟨he, hm⟩ => ?_
  subst he
  have bel : Below W.heap.size W W' := hm.below _ (Nat.le_refl _) (fun _ h => h.elim)
  exact ⟨_, rfl, _, _, _, [], _, [], hW', trodAll_mk1 (shut_bool Try.underlying4 _), (trodAll_cons_mk (Below.trod laidOut (by kernel_rfl) (of_decide_eq_true (by kernel_rfl)) k0 bel lt0) (trodAll_cons_mk (Below.trod laidOut (by kernel_rfl) (of_decide_eq_true (by kernel_rfl)) k1 bel lt1) trodAll_mk0)), rfl, bel.frame _, fun h => by cases h⟩

theorem over : Rows.wordReadsRow.holds Try.pinned (OpenSpec.ofChange Rows.wordReadsSpec) :=
  OpenClaim.holds_of_wide 4 Try.f4 rfl rfl rfl rfl rfl rfl rfl ⟨rfl, rfl, rfl, rfl, rfl⟩ rfl rfl rfl rfl rfl (by kernel_rfl) Try.func4 (by kernel_rfl)
    (of_decide_eq_true (by kernel_rfl)) (by unfold Func.isWrapper; first | (rw [if_pos (by decide +kernel)]; kernel_rfl) | (rw [if_neg (by decide +kernel)]; exact ⟨rfl, rfl⟩))
    (fun os started H enc _ => lifted os started H enc)
end wordReads
theorem wordReads_holds : Rows.WordReadsSaid := wordReads.over
end Go.Proofs.Ytfinaabhmdnjfaa
