/- Contracts of the document's kind and Check, given its Unpack and Places. Conditions: sizes that a slice of bytes has. -/
import Derived.Test.YthiijonmnebjgaaGreatRq
import Derived.Test.YthiijonmnebjgaaGreatRb
import Derived.Test.YthiijonmnebjgaaGreatCv
import Derived.Test.YthiijonmnebjgaaGreatCz
namespace Go.Proofs.YthiijonmnebjgaaGreat
open Go.RowKit
theorem dPlain (k : Int) (o lf i p ps g : Int) (s : Bool) (st rs rr sq : Int) (ao : Option Addr) (cap : Nat) (l : List Int) (w : World) : Calls Tryz.prog 95 #[.agg #[.int .i64 k, .int .i64 o, .int .i64 lf, .int .i64 i, .int .i64 p, .int .i64 ps, .int .i64 g, .bool s, .int .i64 st, .int .i64 rs, .int .i64 rr, .int .i64 sq, .slice ao l.length cap]] w fun e w' => e = .returned (.bool (pln ⟨k, o, lf, i, p, ps, g, s, st, rs, rr, sq, l⟩)) ∧ Mod (fun _ => False) w w' := by
  go_enter Tryz.func95, Tryz.ntmps95
  go_wp2
  all_goals
    go_ret
    refine ⟨?_, (Mod.refl _ _).alloc _⟩
    simp [pln, *]
/-- What the document asks of a message's kind. -/
def dod (m : Ms) : Bool := pln m && nd m.id && !(decide (m.rs = 0) && decide (m.rr = 0)) && decide (0 < m.sq) && in0 m.body
def dkd (m : Ms) : Bool := if m.kind = 5 then dod m else kd0 m
theorem dkd_eq {m : Ms} (h : hn m = true) : dkd m = kd m := by
  unfold dkd kd
  by_cases hk : m.kind = 5
  · rw [if_pos hk, if_pos hk]
    have hc := (hn_parts h).2.2.2.2
    have hcr : ¬ (m.rs = 0 ∧ m.rr = 0) → cr m.rs m.rr = 0 := fun _ => by
      unfold ck at hc
      by_cases hh : nm m.st = true ∧ nm m.sq = true
      · rw [if_pos hh] at hc; exact hc
      · rw [if_neg hh] at hc; omega
    unfold dod od
    by_cases hz : m.rs = 0 ∧ m.rr = 0
    · simp [isr, hz.1, hz.2]
    · have e1 : isr m.rs m.rr = true := by simp [isr, hcr hz]; omega
      have e2 : (!(decide (m.rs = 0) && decide (m.rr = 0))) = true := by
        rw [Bool.not_eq_true', Bool.and_eq_false_iff]
        by_cases h1 : m.rs = 0
        · exact .inr (by simp; exact fun h2 => hz ⟨h1, h2⟩)
        · exact .inl (by simp [h1])
      rw [e1, e2]
  · rw [if_neg hk, if_neg hk]
set_option maxRecDepth 100000 in
set_option maxHeartbeats 4000000 in
theorem kind1 (o lf i p ps g : Int) (s : Bool) (st rs rr sq : Int) (ao : Option Addr) (cap : Nat) (l : List Int) (w : World) : Calls Tryz.prog 70 #[.agg #[.int .i64 1, .int .i64 o, .int .i64 lf, .int .i64 i, .int .i64 p, .int .i64 ps, .int .i64 g, .bool s, .int .i64 st, .int .i64 rs, .int .i64 rr, .int .i64 sq, .slice ao l.length cap]] w fun e w' => e = .returned (.bool (tx ⟨1, o, lf, i, p, ps, g, s, st, rs, rr, sq, l⟩)) ∧ Mod (fun _ => False) w w' := by
  go_enter Tryz.func70, Tryz.ntmps70
  go_wp2
  all_goals
    go_ret
    refine ⟨?_, (Mod.refl _ _).alloc _⟩
    simp [tx, *]
    try omega
set_option maxRecDepth 100000 in
set_option maxHeartbeats 4000000 in
theorem kind2 (o lf i p ps g : Int) (s : Bool) (st rs rr sq : Int) (ao : Option Addr) (cap : Nat) (l : List Int) (w : World) : Calls Tryz.prog 70 #[.agg #[.int .i64 2, .int .i64 o, .int .i64 lf, .int .i64 i, .int .i64 p, .int .i64 ps, .int .i64 g, .bool s, .int .i64 st, .int .i64 rs, .int .i64 rr, .int .i64 sq, .slice ao l.length cap]] w fun e w' => e = .returned (.bool (mkk ⟨2, o, lf, i, p, ps, g, s, st, rs, rr, sq, l⟩)) ∧ Mod (fun _ => False) w w' := by
  have hA := (Mod.refl (fun _ => False) w).alloc (.cells #[.int .i64 2, .int .i64 o, .int .i64 lf, .int .i64 i, .int .i64 p, .int .i64 ps, .int .i64 g, .bool s, .int .i64 st, .int .i64 rs, .int .i64 rr, .int .i64 sq, (.slice ao l.length cap)] 43)
  have hb0 := MB.new w 2 o lf i p ps g s st rs rr sq (.slice ao l.length cap)
  have HP := dPlain 2 o lf i p ps g s st rs rr sq ao cap l
  obtain ⟨c1, hc1⟩ : ∃ c, pln ⟨2, o, lf, i, p, ps, g, s, st, rs, rr, sq, l⟩ = c := ⟨_, rfl⟩
  rw [hc1] at HP
  have hR : mkk ⟨2, o, lf, i, p, ps, g, s, st, rs, rr, sq, l⟩ = (c1 && decide (i = 0) && decide (l.length = 0)) := by rw [mkk, hc1]
  obtain ⟨R, hRR⟩ : ∃ R, mkk ⟨2, o, lf, i, p, ps, g, s, st, rs, rr, sq, l⟩ = R := ⟨_, rfl⟩
  rw [hRR] at hR ⊢
  clear hRR
  go_enter Tryz.func70, Tryz.ntmps70
  go_wp2_with (fail)
  refine (HP _).mono ?_
  rintro e w1 ⟨rfl, hm1⟩
  have hM := hA.trans hm1 (V := fun _ => False) (fun _ _ h => h) (fun _ _ h => h)
  obtain ⟨a0, a1, a2, a3, a4, a5, a6, a7, a8, a9, a10, a11, a12⟩ := (hb0.mod hm1 (fun h => h)).cells
  clear hb0 HP
  cases c1
  · go_wp2
    go_ret
    exact ⟨by rw [hR]; rfl, hM⟩
  · go_wp2
    all_goals
      go_ret
      refine ⟨?_, hM⟩
      rw [hR]
      simp [*]
      try (rw [Bool.eq_iff_iff]; simp)
set_option maxRecDepth 100000 in
set_option maxHeartbeats 4000000 in
theorem kind3 (o lf i p ps g : Int) (s : Bool) (st rs rr sq : Int) (ao : Option Addr) (cap : Nat) (l : List Int) (w : World) : Calls Tryz.prog 70 #[.agg #[.int .i64 3, .int .i64 o, .int .i64 lf, .int .i64 i, .int .i64 p, .int .i64 ps, .int .i64 g, .bool s, .int .i64 st, .int .i64 rs, .int .i64 rr, .int .i64 sq, .slice ao l.length cap]] w fun e w' => e = .returned (.bool (wn ⟨3, o, lf, i, p, ps, g, s, st, rs, rr, sq, l⟩)) ∧ Mod (fun _ => False) w w' := by
  have hA := (Mod.refl (fun _ => False) w).alloc (.cells #[.int .i64 3, .int .i64 o, .int .i64 lf, .int .i64 i, .int .i64 p, .int .i64 ps, .int .i64 g, .bool s, .int .i64 st, .int .i64 rs, .int .i64 rr, .int .i64 sq, (.slice ao l.length cap)] 43)
  have hb0 := MB.new w 3 o lf i p ps g s st rs rr sq (.slice ao l.length cap)
  have HP := dPlain 3 o lf i p ps g s st rs rr sq ao cap l
  obtain ⟨c1, hc1⟩ : ∃ c, pln ⟨3, o, lf, i, p, ps, g, s, st, rs, rr, sq, l⟩ = c := ⟨_, rfl⟩
  rw [hc1] at HP
  have ER := eqKey st rs rr sq 0 0 0 0
  obtain ⟨kz, hkz⟩ : ∃ z, (decide (st = 0) && (decide (rs = 0) && (decide (rr = 0) && decide (sq = 0)))) = z := ⟨_, rfl⟩
  rw [hkz] at ER
  have hR : wn ⟨3, o, lf, i, p, ps, g, s, st, rs, rr, sq, l⟩ = (c1 && decide (i = 0) && decide (l.length = 0) && kz) := by rw [wn, mkk, hc1, ← hkz]
  obtain ⟨R, hRR⟩ : ∃ R, wn ⟨3, o, lf, i, p, ps, g, s, st, rs, rr, sq, l⟩ = R := ⟨_, rfl⟩
  rw [hRR] at hR ⊢
  clear hRR
  go_enter Tryz.func70, Tryz.ntmps70
  go_wp2_with (fail)
  refine (HP _).mono ?_
  rintro e w1 ⟨rfl, hm1⟩
  have hM := hA.trans hm1 (V := fun _ => False) (fun _ _ h => h) (fun _ _ h => h)
  obtain ⟨a0, a1, a2, a3, a4, a5, a6, a7, a8, a9, a10, a11, a12⟩ := (hb0.mod hm1 (fun h => h)).cells
  clear hb0 HP
  cases c1
  · go_wp2
    go_ret
    exact ⟨by rw [hR]; rfl, hM⟩
  · go_wp2
    all_goals
      go_ret
      refine ⟨?_, hM⟩
      rw [hR]
      simp [*]
      try (rw [Bool.eq_iff_iff]; simp)
set_option maxRecDepth 100000 in
set_option maxHeartbeats 4000000 in
theorem kind4 (o lf i p ps g : Int) (s : Bool) (st rs rr sq : Int) (ao : Option Addr) (cap : Nat) (l : List Int) (w : World) (hs : Sl w (.slice ao l.length cap) l) (HPL : ∀ W, Sl W (.slice ao l.length cap) l → Calls Tryz.prog 96 #[.slice ao l.length cap] W fun e w' => ∃ v1, e = .returned (.tuple #[v1, .int .i64 (plE l)]) ∧ Mod (fun _ => False) W w') : Calls Tryz.prog 70 #[.agg #[.int .i64 4, .int .i64 o, .int .i64 lf, .int .i64 i, .int .i64 p, .int .i64 ps, .int .i64 g, .bool s, .int .i64 st, .int .i64 rs, .int .i64 rr, .int .i64 sq, .slice ao l.length cap]] w fun e w' => e = .returned (.bool (ch ⟨4, o, lf, i, p, ps, g, s, st, rs, rr, sq, l⟩)) ∧ Mod (fun _ => False) w w' := by
  have hA := (Mod.refl (fun _ => False) w).alloc (.cells #[.int .i64 4, .int .i64 o, .int .i64 lf, .int .i64 i, .int .i64 p, .int .i64 ps, .int .i64 g, .bool s, .int .i64 st, .int .i64 rs, .int .i64 rr, .int .i64 sq, (.slice ao l.length cap)] 43)
  have hb0 := MB.new w 4 o lf i p ps g s st rs rr sq (.slice ao l.length cap)
  have HP := dPlain 4 o lf i p ps g s st rs rr sq ao cap l
  obtain ⟨c1, hc1⟩ : ∃ c, pln ⟨4, o, lf, i, p, ps, g, s, st, rs, rr, sq, l⟩ = c := ⟨_, rfl⟩
  rw [hc1] at HP
  have hs0 := hs.mod hA (fun _ _ h => h)
  obtain ⟨E, hE⟩ : ∃ E, plE l = E := ⟨_, rfl⟩
  have hR : ch ⟨4, o, lf, i, p, ps, g, s, st, rs, rr, sq, l⟩ = (c1 && decide (i = 0) && (E == 0)) := by rw [ch, hc1, ← hE]
  rw [hE] at HPL
  obtain ⟨R, hRR⟩ : ∃ R, ch ⟨4, o, lf, i, p, ps, g, s, st, rs, rr, sq, l⟩ = R := ⟨_, rfl⟩
  rw [hRR] at hR ⊢
  clear hRR
  go_enter Tryz.func70, Tryz.ntmps70
  go_wp2_with (fail)
  refine (HPL _ hs0).mono ?_
  rintro e w0 ⟨v0, rfl, hm0⟩
  replace hA := hA.trans hm0 (V := fun _ => False) (fun _ _ h => h) (fun _ _ h => h)
  replace hb0 := hb0.mod hm0 (fun h => h)
  obtain ⟨b0, b1, b2, b3, b4, b5, b6, b7, b8, b9, b10, b11, b12⟩ := hb0.cells
  go_wp2_with (fail)
  clear b0 b1 b2 b3 b4 b5 b6 b7 b8 b9 b10 b11 b12
  refine (HP _).mono ?_
  rintro e w1 ⟨rfl, hm1⟩
  have hM := hA.trans hm1 (V := fun _ => False) (fun _ _ h => h) (fun _ _ h => h)
  obtain ⟨a0, a1, a2, a3, a4, a5, a6, a7, a8, a9, a10, a11, a12⟩ := (hb0.mod hm1 (fun h => h)).cells
  clear hb0 HP hm0 hs0 HPL
  cases c1
  · go_wp2
    go_ret
    exact ⟨by rw [hR]; rfl, hM⟩
  · by_cases hi : i = 0
    · subst hi
      by_cases he : E = 0
      · subst he
        go_wp2
        go_ret
        exact ⟨by rw [hR]; rfl, hM⟩
      · have heb : (E == 0) = false := by simp [he]
        go_wp2
        go_ret
        exact ⟨by rw [hR, heb]; rfl, hM⟩
    · have hib : (i == 0) = false := by simp [hi]
      go_wp2
      go_ret
      refine ⟨?_, hM⟩
      rw [hR]
      simp [hi]
set_option maxRecDepth 100000 in
set_option maxHeartbeats 8000000 in
theorem kind5 (o lf i p ps g : Int) (s : Bool) (st rs rr sq : Int) (ao : Option Addr) (cap : Nat) (l : List Int) (w : World) (hs : Sl w (.slice ao l.length cap) l) (HU : ∀ W, Sl W (.slice ao l.length cap) l → Calls Tryz.prog 60 #[.slice ao l.length cap] W (Unp l W)) : Calls Tryz.prog 70 #[.agg #[.int .i64 5, .int .i64 o, .int .i64 lf, .int .i64 i, .int .i64 p, .int .i64 ps, .int .i64 g, .bool s, .int .i64 st, .int .i64 rs, .int .i64 rr, .int .i64 sq, .slice ao l.length cap]] w fun e w' => e = .returned (.bool (dod ⟨5, o, lf, i, p, ps, g, s, st, rs, rr, sq, l⟩)) ∧ Mod (fun _ => False) w w' := by
  have hA := (Mod.refl (fun _ => False) w).alloc (.cells #[.int .i64 5, .int .i64 o, .int .i64 lf, .int .i64 i, .int .i64 p, .int .i64 ps, .int .i64 g, .bool s, .int .i64 st, .int .i64 rs, .int .i64 rr, .int .i64 sq, (.slice ao l.length cap)] 43)
  have hb0 := MB.new w 5 o lf i p ps g s st rs rr sq (.slice ao l.length cap)
  have HP := dPlain 5 o lf i p ps g s st rs rr sq ao cap l
  obtain ⟨c1, hc1⟩ : ∃ c, pln ⟨5, o, lf, i, p, ps, g, s, st, rs, rr, sq, l⟩ = c := ⟨_, rfl⟩
  rw [hc1] at HP
  have hs0 := hs.mod hA (fun _ _ h => h)
  have ER := eqRing rs rr 0 0
  have HNd := dNode i
  have hin := in0_eq l
  obtain ⟨rz, hrz⟩ : ∃ z, (decide (rs = 0) && decide (rr = 0)) = z := ⟨_, rfl⟩
  rw [hrz] at ER
  obtain ⟨c2, hc2⟩ : ∃ z, nd i = z := ⟨_, rfl⟩
  rw [hc2] at HNd
  obtain ⟨z0, hz0⟩ : ∃ z, in0 l = z := ⟨_, rfl⟩
  rw [hz0] at hin
  have hR : dod ⟨5, o, lf, i, p, ps, g, s, st, rs, rr, sq, l⟩ = (c1 && c2 && !rz && decide (0 < sq) && z0) := by simp only [dod, hc1, hc2, hrz, hz0]
  obtain ⟨R, hRR⟩ : ∃ R, dod ⟨5, o, lf, i, p, ps, g, s, st, rs, rr, sq, l⟩ = R := ⟨_, rfl⟩
  rw [hRR] at hR ⊢
  unfold Unp at HU
  obtain ⟨E, hE⟩ : ∃ E, unE l = E := ⟨_, rfl⟩
  have hmk : ∀ k2 o2 lf2 i2 p2 ps2 g2 s2 st2 rs2 rr2 sq2, Ms.mk k2 o2 lf2 i2 p2 ps2 g2 s2 st2 rs2 rr2 sq2 (prM l).body = prM l → (prM l).kind = k2 := fun _ _ _ _ _ _ _ _ _ _ _ _ h => by rw [← h]
  rw [hE] at HU hin
  obtain ⟨kk, hkk⟩ : ∃ z, (prM l).kind = z := ⟨_, rfl⟩
  rw [hkk] at hin hmk
  clear hRR hrz hc2 hz0 hE hkk hc1
  go_enter Tryz.func70, Tryz.ntmps70
  go_wp2_with (fail)
  refine (HU _ hs0).mono ?_
  rintro e w0 ⟨k2, o2, lf2, i2, p2, ps2, g2, s2, st2, rs2, rr2, sq2, bv2, rfl, hm0, hok, hno⟩
  have hk2 : E = 0 → kk = k2 := fun h => hmk _ _ _ _ _ _ _ _ _ _ _ _ (hok h).1
  have hbv : ∃ ao2 n2 cap2, bv2 = .slice ao2 n2 cap2 := by
    by_cases h : E = 0
    · obtain ⟨a, c, hh⟩ := (hok h).2.1.shape
      exact ⟨a, _, c, hh⟩
    · exact ⟨none, 0, 0, (hno h).2.2.2.2.2.2.2.2.2.2.2.2⟩
  obtain ⟨ao2, n2, cap2, rfl⟩ := hbv
  have hD := (Mod.refl (fun _ => False) w0).alloc (.cells #[.int .i64 k2, .int .i64 o2, .int .i64 lf2, .int .i64 i2, .int .i64 p2, .int .i64 ps2, .int .i64 g2, .bool s2, .int .i64 st2, .int .i64 rs2, .int .i64 rr2, .int .i64 sq2, (.slice ao2 n2 cap2)] 43)
  have hb2 := MB.new w0 k2 o2 lf2 i2 p2 ps2 g2 s2 st2 rs2 rr2 sq2 (.slice ao2 n2 cap2)
  replace hA := (hA.trans hm0 (V := fun _ => False) (fun _ _ h => h) (fun _ _ h => h)).trans hD (V := fun _ => False) (fun _ _ h => h) (fun _ _ h => h)
  replace hb0 := (hb0.mod hm0 (fun h => h)).mod hD (fun h => h)
  obtain ⟨b0, b1, b2, b3, b4, b5, b6, b7, b8, b9, b10, b11, b12⟩ := hb0.cells
  clear hok hno hmk hm0 hD HU
  go_wp2_with (fail)
  clear b0 b1 b2 b3 b4 b5 b6 b7 b8 b9 b10 b11 b12
  refine (HP _).mono ?_
  rintro e w1 ⟨rfl, hm1⟩
  have hM := hA.trans hm1 (V := fun _ => False) (fun _ _ h => h) (fun _ _ h => h)
  obtain ⟨a0, a1, a2, a3, a4, a5, a6, a7, a8, a9, a10, a11, a12⟩ := (hb0.mod hm1 (fun h => h)).cells
  have d0 := (hb2.mod hm1 (fun h => h)).cells.1
  clear hb0 HP hs0 hb2
  cases c1
  · go_wp2
    go_ret
    exact ⟨by rw [hR]; rfl, hM⟩
  · go_wp2_with (fail)
    refine (HNd _).mono ?_
    rintro e w5 ⟨rfl, rfl⟩
    cases c2
    · go_wp2
      go_ret
      exact ⟨by rw [hR]; rfl, hM⟩
    · cases rz
      · by_cases hq : 0 < sq
        · have hqb : decide (0 < sq) = true := by simp [hq]
          by_cases he : E = 0
          · subst he
            obtain rfl := hk2 rfl
            by_cases hk5 : kk = 5
            · have hkb : (kk != 5) = false := by simp [hk5]
              rw [hkb] at hin
              have HK : Hid (kk = 5) := hk5
              clear hk5
              go_wp2
              go_ret
              exact ⟨by rw [hR, hin]; simp, hM⟩
            · have hkb : (kk != 5) = true := by simp [hk5]
              rw [hkb] at hin
              go_wp2
              go_ret
              exact ⟨by rw [hR, hin, hqb]; rfl, hM⟩
          · have heb : (E == 0) = false := by simp [he]
            rw [heb] at hin
            go_wp2
            go_ret
            exact ⟨by rw [hR, hin]; simp, hM⟩
        · have hqb : decide (0 < sq) = false := by simp; omega
          go_wp2
          go_ret
          exact ⟨by rw [hR, hqb]; simp, hM⟩
      · go_wp2
        go_ret
        exact ⟨by rw [hR]; simp, hM⟩
set_option maxHeartbeats 1000000 in
theorem kind0 (k : Int) (o lf i p ps g : Int) (s : Bool) (st rs rr sq : Int) (ao : Option Addr) (cap : Nat) (l : List Int) (w : World) (h1 : k ≠ 1) (h2 : k ≠ 2) (h3 : k ≠ 3) (h4 : k ≠ 4) (h5 : k ≠ 5) : Calls Tryz.prog 70 #[.agg #[.int .i64 k, .int .i64 o, .int .i64 lf, .int .i64 i, .int .i64 p, .int .i64 ps, .int .i64 g, .bool s, .int .i64 st, .int .i64 rs, .int .i64 rr, .int .i64 sq, .slice ao l.length cap]] w fun e w' => e = .returned (.bool false) ∧ Mod (fun _ => False) w w' := by
  have e1 : (k == 1) = false := by simp [h1]
  have e2 : (k == 2) = false := by simp [h2]
  have e3 : (k == 3) = false := by simp [h3]
  have e4 : (k == 4) = false := by simp [h4]
  have e5 : (k == 5) = false := by simp [h5]
  clear h1 h2 h3 h4 h5
  go_enter Tryz.func70, Tryz.ntmps70
  go_wp2
  go_ret
  exact ⟨rfl, (Mod.refl _ _).alloc _⟩
theorem kind_any (k : Int) (o lf i p ps g : Int) (s : Bool) (st rs rr sq : Int) (ao : Option Addr) (cap : Nat) (l : List Int) (w : World) (hs : Sl w (.slice ao l.length cap) l) (HU : ∀ W, Sl W (.slice ao l.length cap) l → Calls Tryz.prog 60 #[.slice ao l.length cap] W (Unp l W))
    (HPL : ∀ W, Sl W (.slice ao l.length cap) l → Calls Tryz.prog 96 #[.slice ao l.length cap] W fun e w' => ∃ v1, e = .returned (.tuple #[v1, .int .i64 (plE l)]) ∧ Mod (fun _ => False) W w') :
    Calls Tryz.prog 70 #[.agg #[.int .i64 k, .int .i64 o, .int .i64 lf, .int .i64 i, .int .i64 p, .int .i64 ps, .int .i64 g, .bool s, .int .i64 st, .int .i64 rs, .int .i64 rr, .int .i64 sq, .slice ao l.length cap]] w fun e w' => e = .returned (.bool (dkd ⟨k, o, lf, i, p, ps, g, s, st, rs, rr, sq, l⟩)) ∧ Mod (fun _ => False) w w' := by
  by_cases h1 : k = 1
  · subst h1; exact kind1 o lf i p ps g s st rs rr sq ao cap l w
  by_cases h2 : k = 2
  · subst h2; exact kind2 o lf i p ps g s st rs rr sq ao cap l w
  by_cases h3 : k = 3
  · subst h3; exact kind3 o lf i p ps g s st rs rr sq ao cap l w
  by_cases h4 : k = 4
  · subst h4; exact kind4 o lf i p ps g s st rs rr sq ao cap l w hs HPL
  by_cases h5 : k = 5
  · subst h5; exact kind5 o lf i p ps g s st rs rr sq ao cap l w hs HU
  have hd : dkd ⟨k, o, lf, i, p, ps, g, s, st, rs, rr, sq, l⟩ = false := by simp [dkd, kd0, h1, h2, h3, h4, h5]
  rw [hd]
  exact kind0 k o lf i p ps g s st rs rr sq ao cap l w h1 h2 h3 h4 h5
end Go.Proofs.YthiijonmnebjgaaGreat
