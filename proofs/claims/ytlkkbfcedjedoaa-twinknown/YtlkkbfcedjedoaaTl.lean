/- Contract of the laws' works: it answers true, and turns nothing that was there. No conditions. -/
import Derived.Test.YtlkkbfcedjedoaaTk
namespace Go.Proofs.Ytlkkbfcedjedoaa
open Go.RowKit
theorem ok0 {nd lf : Int} {z : Nat} (ac : Bool) (h : okF nd lf 1 0 = true) (hz : 1 ≤ z ∧ z ≤ 3) : OkT 0 (tn0 nd lf z ac) := by
  obtain ⟨h1, h2, _⟩ := okF_parts h
  exact ⟨h1, h2, hz, by simp only [tn0]; omega, fun k => by simp [tn0], by simp [tn0], 0, by simp only [tn0]; omega, rfl⟩
theorem Mod.none {S : Nat → Prop} {a b : World} (h : Mod (fun _ => False) a b) : Mod S a b := h.mono fun _ _ h => h.elim
theorem Mod.and {a b c : World} (h : Mod (fun _ => False) a b) (k : Mod (fun _ => False) b c) : Mod (fun _ => False) a c := h.trans k (fun _ _ h => h) (fun _ _ h => h)
/-- A call that turns blocks that are new alone. -/
theorem Mod.andX {X : Nat → Prop} {a b c : World} (h : Mod (fun _ => False) a b) (k : Mod X b c) (hX : ∀ i, X i → a.heap.size ≤ i) : Mod (fun _ => False) a c := h.trans k (fun _ _ h => h) (fun i hi h => by have := hX i h; omega)
theorem Gone.ge {w w1 : World} {X Y : Nat → Prop} (h : Gone w1 X Y) (hX : ∀ i, X i → w.heap.size ≤ i) (hs : w.heap.size ≤ w1.heap.size) : ∀ i, Y i → w.heap.size ≤ i := fun i hi => by
  rcases h i hi with h1 | h1
  · exact hX i h1
  · omega
/-- frame, of bytes that are none. -/
theorem frame_none (s l n : Int) (hf : okF s l n 0 = true) (w : World) : Calls Try.prog 29 #[.int .i64 s, .int .i64 l, .int .i64 n, .slice none 0 0] w fun e w' => ∃ v', e = .returned v' ∧ Sl w' v' (paD s l n []) ∧ Mod (fun _ => False) w w' ∧ (∀ g, v'.ownBlock = some g → w.heap.size ≤ g) := by
  have _ := hf
  refine (frame_any s l n (.slice none 0 0) [] w ((Own.nil w).sl (by simp))).mono ?_
  rintro e w' ⟨v', rfl, ho, hm, hg⟩
  exact ⟨v', rfl, ho.sl (paD_rng (by simp)), hm, hg⟩
set_option maxRecDepth 100000 in
set_option maxHeartbeats 4000000 in
theorem works_any (w : World) : Calls Try.prog 17 #[] w fun e w' => e = .returned (.bool true) ∧ Mod (fun _ => False) w w' := by
  have hlA := Sl.lit w [171] (by simp [maxLen]) (by simp)
  have H1 := frame_any 1 2 3 _ [171] _ hlA
  have hm1 := (Mod.refl (fun _ => False) w).alloc (.cells (U [171]).toArray 5)
  have e1 : paD 1 2 3 [171] = Sm.sealed (fby 1 2 3 [171]) := (paD_ok rfl).2
  obtain ⟨o1, o2, o3, o4, o5⟩ := op_forth (s := 1) (l := 2) (n := 3) (B := [171]) rfl
  have hl1 := paD_len (s := 1) (l := 2) (n := 3) (B := [171]) (by simp)
  have hr1 := paD_rng (s := 1) (l := 2) (n := 3) (B := [171]) (by simp)
  rw [← e1] at o1 o2 o3 o4 o5
  have eb : paD 1 2 3 [171] = Sm.sealed [1, 2, 3, 1, 171] := e1
  have HE : Hid (paD 1 2 3 [171] = Sm.sealed [1, 2, 3, 1, 171]) := eb
  clear e1 eb hlA
  generalize paD 1 2 3 [171] = P1 at *
  go_enter Try.func17, Try.ntmps17
  go_wp2_with (fail)
  refine H1.mono ?_
  rintro e w1 ⟨v1, rfl, ho1, hm2, hg1⟩
  have hM1 := hm1.and hm2
  have hs1 := ho1.sl hr1
  clear H1 hm1 hm2
  have H2 := tOpen_any v1 P1 w1 hs1 (by omega)
  go_wp2_with (fail)
  refine H2.mono ?_
  rintro e w2 ⟨bv, rfl, hm2, ho2, hg2⟩
  rw [o1, o2, o3, o4]
  rw [o5] at ho2
  obtain ⟨ao, cap, rfl⟩ := ho2.shape
  have hM2 := (hM1.and hm2).alloc (.cells #[.int .i64 1, .int .i64 2, .int .i64 3, .slice ao 1 cap] 24)
  have hmA := hm2.alloc (.cells #[.int .i64 1, .int .i64 2, .int .i64 3, .slice ao 1 cap] 24)
  have hs2 := hs1.mod hmA (fun _ _ h => h)
  have hF2 := Bk.new w2 #[.int .i64 1, .int .i64 2, .int .i64 3, .slice ao 1 cap] 24
  have hb2 := (ho2.mod ((Mod.refl (fun _ => False) w2).alloc (.cells #[.int .i64 1, .int .i64 2, .int .i64 3, .slice ao 1 cap] 24)) (fun _ _ h => h)).sl (by simp)
  clear H2 hm2 hM1 hs1 ho1 ho2 hg2 hmA o1 o2 o3 o4 o5
  go_wp2_with (fail)
  obtain ⟨fb, hfb⟩ : ∃ fb, fb = w2.heap.size := ⟨_, rfl⟩
  rw [← hfb] at hF2 ⊢
  have HFB : Hid (fb = w2.heap.size) := hfb
  clear hfb
  generalize w2.alloc (.cells #[.int .i64 1, .int .i64 2, .int .i64 3, .slice ao 1 cap] 24) = w3 at *
  refine (tNew_ok 4 1 2 true w3 rfl ⟨by omega, by omega⟩).mono ?_
  rintro e w4 ⟨p, X, rfl, hT, hm4, hX⟩
  have hM4 := hM2.and hm4
  have hX4 : ∀ i, X i → w.heap.size ≤ i := fun i h => Nat.le_trans hM2.size (hX i h)
  have hs4 := hs2.mod hm4 (fun _ _ h => h)
  have hb4 := hb2.mod hm4 (fun _ _ h => h)
  have hF4 := hF2.mod hm4 (fun h => h)
  have ok := ok0 (nd := 4) (lf := 1) (z := 2) true rfl ⟨by omega, by omega⟩
  clear hM2 hm4 hX hs2 hb2 hF2
  -- the bytes, sealed
  have hl5 := Sl.lit w4 [1, 2, 3, 1, 171] (by simp [maxLen]) (by simp)
  have H5 := Sm.Seal_any _ _ _ hl5 (by simp)
  have hm5 := (Mod.refl (fun _ => False) w4).alloc (.cells (U [1, 2, 3, 1, 171]).toArray 5)
  have hr5 := Sm.sealed_rng (l := [1, 2, 3, 1, 171]) (by simp)
  rw [← HE.out] at H5 hr5
  clear hl5
  go_wp2_with (fail)
  refine H5.mono ?_
  rintro e w5 ⟨v5, rfl, ho5, hm6, hg5⟩
  have hmB := hm5.and hm6
  have hM5 := hM4.and hmB
  have hs5 := hs4.mod hmB (fun _ _ h => h)
  have hb5 := hb4.mod hmB (fun _ _ h => h)
  have hF5 := hF4.mod hmB (fun h => h)
  have hT5 := hT.mod hmB (fun _ _ h => h)
  have H6 := EqBytes_any v1 v5 P1 P1 w5 hs5 (ho5.sl hr5)
  rw [decide_eq_true rfl] at H6
  clear H5 hm5 hm6 hmB hM4 hs4 hb4 hF4 hT ho5 hg5 hs5
  go_wp2_with (fail)
  refine H6.mono ?_
  rintro e w6 ⟨rfl, hm6⟩
  have hM6 := hM5.and hm6
  have hb6 := hb5.mod hm6 (fun _ _ h => h)
  have hF6 := hF5.mod hm6 (fun h => h)
  have hT6 := hT5.mod hm6 (fun _ _ h => h)
  clear H6 hM5 hb5 hF5 hT5 hm6
  have d0 := hF6.cellv (j := 0) rfl
  have d1 := hF6.cellv (j := 1) rfl
  have d2 := hF6.cellv (j := 2) rfl
  have d3 := hF6.cellv (j := 3) rfl
  have hl7 := Sl.lit w6 [171] (by simp [maxLen]) (by simp)
  have hm7 := (Mod.refl (fun _ => False) w6).alloc (.cells (U [171]).toArray 5)
  have hb7 := hb6.mod hm7 (fun _ _ h => h)
  have H7 := same_any 1 2 3 1 2 3 _ _ _ _ _ hb7 hl7
  rw [decide_eq_true ⟨rfl, rfl, rfl, rfl⟩] at H7
  go_wp2_with (fail)
  refine H7.mono ?_
  rintro e w7 ⟨rfl, hm8⟩
  have hmB := hm7.and hm8
  have hM7 := hM6.and hmB
  have hT7 := hT6.mod hmB (fun _ _ h => h)
  clear H7 hm7 hm8 hmB hM6 hT6 hF6 hb6 hb7 hl7 d0 d1 d2 d3
  -- Wrap
  have hl8 := Sl.lit w7 [9] (by simp [maxLen]) (by simp)
  have hm8 := (Mod.refl (fun _ => False) w7).alloc (.cells (U [9]).toArray 5)
  have hT8 := hT7.mod hm8 (fun _ _ h => h)
  have H8 := tWrap_ok hT8 (N := 0) (by omega) ok _ [9] hl8 (by simp)
  have eW : Hid (Sm.sealed (fby (tn0 4 1 2 true).nd (tn0 4 1 2 true).lf (((tn0 4 1 2 true).se : Int) + 1) [9]) = paD 4 1 1 [9]) := ((paD_ok (s := 4) (l := 1) (n := 1) (B := [9]) rfl).2).symm
  have eO : (tn0 4 1 2 true).ser.over = 3 := by decide
  rw [eW.out, eO] at H8
  have okW := ok.wrap
  have hr8 := paD_rng (s := 4) (l := 1) (n := 1) (B := [9]) (by simp)
  have HF9 : Hid (∀ W : World, Sl (W.alloc (.cells (U [9]).toArray 5)) (.slice (some ⟨W.heap.size, 0, none⟩) 1 1) [9] → Calls Try.prog 29 #[.int .i64 4, .int .i64 1, .int .i64 1, .slice (some ⟨W.heap.size, 0, none⟩) 1 1] (W.alloc (.cells (U [9]).toArray 5)) fun e w' => ∃ v', e = .returned v' ∧ Own w' v' (paD 4 1 1 [9]) ∧ Mod (fun _ => False) (W.alloc (.cells (U [9]).toArray 5)) w') := fun W hW => by
    refine (frame_any 4 1 1 _ [9] _ hW).mono ?_
    rintro e w' ⟨v', rfl, h1, h2, _⟩
    exact ⟨v', rfl, h1, h2⟩
  clear eO hl8 hT7 ok
  generalize paD 4 1 1 [9] = P2 at *
  generalize hA1 : (tn0 4 1 2 true).wrap = A1 at *
  have HA1 : Hid ((tn0 4 1 2 true).wrap = A1) := hA1
  clear hA1
  go_wp2_with (fail)
  refine H8.mono ?_
  rintro e w9 ⟨v9, rfl, ho9, hT9, hm9, hg9⟩
  have hp4 := hX4 p hT8.px
  have hM9 : Mod (fun _ => False) w w9 := (hM7.and hm8).trans hm9 (fun _ _ h => h) (fun i hi h => by omega)
  have hs9 := ho9.sl hr8
  clear H8 hT8 hm8 hM7 hm9 ho9
  have hlA := Sl.lit w9 [9] (by simp [maxLen]) (by simp)
  have HFA := HF9.out w9 hlA
  have hmA := (Mod.refl (fun _ => False) w9).alloc (.cells (U [9]).toArray 5)
  clear HF9 hlA
  go_wp2_with (fail)
  refine HFA.mono ?_
  rintro e wA ⟨vA, rfl, hoA, hmB⟩
  have hmC := hmA.and hmB
  have hMA := hM9.and hmC
  have hsA := hs9.mod hmC (fun _ _ h => h)
  have hTA := hT9.mod hmC (fun _ _ h => h)
  have HB := EqBytes_any v9 vA P2 P2 wA hsA (hoA.sl hr8)
  rw [decide_eq_true rfl] at HB
  clear HFA hmA hmB hmC hM9 hs9 hT9 hoA hsA
  go_wp2_with (fail)
  refine HB.mono ?_
  rintro e wB ⟨rfl, hmB⟩
  have hMB := hMA.and hmB
  have hTB := hTA.mod hmB (fun _ _ h => h)
  clear HB hMA hmB hTA
  go_wp2_with (fail)
  refine (frame_none 5 7 1 rfl wB).mono ?_
  rintro e wf0 ⟨vf0, rfl, hsf0, hmf0, hgf0⟩
  have hMf0 := hMB.and hmf0
  have hTf0 := hTB.mod hmf0 (fun _ _ h => h)
  have HC0 := comes_fr hTf0 (N := 1) (by omega) okW 0 (by rw [← HA1.out]; decide) hsf0 rfl
  rw [show nwB (fun _ => none) 5 7 1 = true by decide] at HC0
  have okc0 := okW.came 0
  clear hTB hgf0 hMB hmf0
  go_wp2_with (fail)
  refine HC0.mono ?_
  rintro e wc0 ⟨Xc0, rfl, hTc0, hmc0, hGc0⟩
  have hMc0 := hMf0.andX hmc0 hX4
  have hXc0 := hGc0.ge hX4 hMf0.size
  clear HC0 hsf0 hMf0 hmc0 hGc0 hTf0 okW hX4
  go_wp2_with (fail)
  refine (frame_none 5 7 1 rfl wc0).mono ?_
  rintro e wf1 ⟨vf1, rfl, hsf1, hmf1, hgf1⟩
  have hMf1 := hMc0.and hmf1
  have hTf1 := hTc0.mod hmf1 (fun _ _ h => h)
  have HC1 := comes_fr hTf1 (N := 2) (by omega) okc0 1 (by rw [← HA1.out]; decide) hsf1 rfl
  rw [show nwB (nwK (fun _ => none) 5 7 1) 5 7 1 = false by decide] at HC1
  have okc1 := okc0.came 1
  clear hTc0 hgf1 hMc0 hmf1
  go_wp2_with (fail)
  refine HC1.mono ?_
  rintro e wc1 ⟨Xc1, rfl, hTc1, hmc1, hGc1⟩
  have hMc1 := hMf1.andX hmc1 hXc0
  have hXc1 := hGc1.ge hXc0 hMf1.size
  clear HC1 hsf1 hMf1 hmc1 hGc1 hTf1 okc0 hXc0
  go_wp2_with (fail)
  refine (frame_none 5 6 2 rfl wc1).mono ?_
  rintro e wf2 ⟨vf2, rfl, hsf2, hmf2, hgf2⟩
  have hMf2 := hMc1.and hmf2
  have hTf2 := hTc1.mod hmf2 (fun _ _ h => h)
  have HC2 := comes_fr hTf2 (N := 3) (by omega) okc1 1 (by rw [← HA1.out]; decide) hsf2 rfl
  rw [show nwB (nwK (nwK (fun _ => none) 5 7 1) 5 7 1) 5 6 2 = false by decide] at HC2
  have okc2 := okc1.came 1
  clear hTc1 hgf2 hMc1 hmf2
  go_wp2_with (fail)
  refine HC2.mono ?_
  rintro e wc2 ⟨Xc2, rfl, hTc2, hmc2, hGc2⟩
  have hMc2 := hMf2.andX hmc2 hXc1
  have hXc2 := hGc2.ge hXc1 hMf2.size
  clear HC2 hsf2 hMf2 hmc2 hGc2 hTf2 okc1 hXc1
  go_wp2_with (fail)
  refine (frame_none 5 8 1 rfl wc2).mono ?_
  rintro e wf3 ⟨vf3, rfl, hsf3, hmf3, hgf3⟩
  have hMf3 := hMc2.and hmf3
  have hTf3 := hTc2.mod hmf3 (fun _ _ h => h)
  have HC3 := comes_fr hTf3 (N := 4) (by omega) okc2 1 (by rw [← HA1.out]; decide) hsf3 rfl
  rw [show nwB (nwK (nwK (nwK (fun _ => none) 5 7 1) 5 7 1) 5 6 2) 5 8 1 = true by decide] at HC3
  have okc3 := okc2.came 1
  clear hTc2 hgf3 hMc2 hmf3
  go_wp2_with (fail)
  refine HC3.mono ?_
  rintro e wc3 ⟨Xc3, rfl, hTc3, hmc3, hGc3⟩
  have hMc3 := hMf3.andX hmc3 hXc2
  have hXc3 := hGc3.ge hXc2 hMf3.size
  clear HC3 hsf3 hMf3 hmc3 hGc3 hTf3 okc2 hXc2
  have HFy := tFaulty hTc3 okc3
  have eF : on ((((A1.came 0).came 1).came 1).came 1).f true ((((A1.came 0).came 1).came 1).came 1).sz = 0 := by rw [← HA1.out]; decide
  rw [eF] at HFy
  go_wp2_with (fail)
  refine HFy.mono ?_
  rintro e wz ⟨rfl, hwz⟩
  rw [hwz]
  go_wp2
  go_ret
  exact ⟨rfl, hMc3⟩
end Go.Proofs.Ytlkkbfcedjedoaa
