/- Contracts of mark's Rings, and of change's isRing, isRise, isKin. Conditions: numbers of an int. -/
import Derived.Test.YtampdkbcijdpcaaKb
import Derived.Test.YtampdkbcijdpcaaNc
import Derived.Test.YtampdkbcijdpcaaFrx
import Derived.Test.YtampdkbcijdpcaaYa
import Derived.Deep.RegionHeld3
namespace Go.Proofs.Ytampdkbcijdpcaa
open Go.RowKit
def cmpI (a b : Int) : Int := if a < b then -1 else if b < a then 1 else 0
def rgs (q r q' r' : Int) : Int := if cmpI q q' ≠ 0 then cmpI q q' else cmpI r r'
theorem isNaN_w (x : Int) (w : World) : Calls Try.prog 79 #[.int .i64 x] w fun e w' => e = .returned (.bool false) ∧ w' = w := by
  go_enter Try.func79, Try.ntmps79
  go_wp2
  go_ret
  exact ⟨by simp, rfl⟩
set_option maxRecDepth 100000 in
theorem Compare_w (a b : Int) (w : World) : Calls Try.prog 73 #[.int .i64 a, .int .i64 b] w fun e w' => e = .returned (.int .i64 (cmpI a b)) ∧ w' = w := by
  have HA := isNaN_w a w
  have HB := isNaN_w b w
  unfold cmpI
  by_cases h : a < b
  · rw [if_pos h]
    go_enter Try.func73, Try.ntmps73
    go_wp2_with (first | (go_at_call 79; refine HA.mono ?_; rintro e w' ⟨rfl, rfl⟩) | (go_at_call 79; refine HB.mono ?_; rintro e w' ⟨rfl, rfl⟩))
    go_ret
    exact ⟨rfl, rfl⟩
  · rw [if_neg h]
    by_cases h2 : b < a
    · rw [if_pos h2]
      go_enter Try.func73, Try.ntmps73
      go_wp2_with (first | (go_at_call 79; refine HA.mono ?_; rintro e w' ⟨rfl, rfl⟩) | (go_at_call 79; refine HB.mono ?_; rintro e w' ⟨rfl, rfl⟩))
      go_ret
      exact ⟨rfl, rfl⟩
    · rw [if_neg h2]
      go_enter Try.func73, Try.ntmps73
      go_wp2_with (first | (go_at_call 79; refine HA.mono ?_; rintro e w' ⟨rfl, rfl⟩) | (go_at_call 79; refine HB.mono ?_; rintro e w' ⟨rfl, rfl⟩))
      go_ret
      exact ⟨rfl, rfl⟩
set_option maxRecDepth 100000 in
theorem Or_w (x y : Int) (g : Nat) (w : World) (h0 : w.cell? ⟨g, 0, none⟩ = some (.int .i64 x)) (h1 : w.cell? ⟨g, 1, none⟩ = some (.int .i64 y)) : Calls Try.prog 72 #[.slice (some ⟨g, 0, none⟩) 2 2] w fun e w' => e = .returned (.int .i64 (if x ≠ 0 then x else y)) ∧ Mod (fun _ => False) w w' := by
  obtain ⟨z, hz⟩ : ∃ z, z = (if x ≠ 0 then x else y) := ⟨_, rfl⟩
  rw [← hz]
  have HZ : Hid (z = (if x ≠ 0 then x else y)) := hz
  clear hz
  have H0 : Hid (w.cell? ⟨g, 0, none⟩ = some (.int .i64 x)) := h0
  have H1 : Hid (w.cell? ⟨g, 1, none⟩ = some (.int .i64 y)) := h1
  clear h0 h1
  go_enter Try.func72, Try.ntmps72
  go_wp2
  go_loopw [8] (fun i wr => ∃ k : Nat, i = .int .i64 (k : Int) ∧ k ≤ 2 ∧ Hid (Mod (fun _ => False) w wr) ∧ Hid (0 < k → x = 0) ∧ Hid (1 < k → y = 0)) (fun i _ => 2 - (intOf i).toNat)
  case atStart => exact ⟨0, rfl, by omega, Mod.refl _ _, (fun h => by omega), (fun h => by omega)⟩
  case round =>
    obtain ⟨k, rfl, hk, HM, hx, hy⟩ := hrel
    rcases (show k = 0 ∨ k = 1 ∨ k = 2 by omega) with rfl | rfl | rfl
    · have c0 := HM.out.cell H0.out (fun h => h)
      by_cases h : x = 0
      · have HX : Hid (x = 0) := h
        have hb : (x == 0) = true := by simp [h]
        clear h hx hy
        go_wp2
        go_roundw
        case rel => exact ⟨1, by go_num, by omega, HM, (fun _ => HX.out), (fun h => by omega)⟩
        case measure => simp [intOf]
      · have hb : (x == 0) = false := by simp [h]
        have HX : Hid (x ≠ 0) := h
        clear h hx hy
        go_wp2
        go_ret
        exact ⟨by rw [show z = x by rw [HZ.out, if_pos HX.out]]; rfl, HM.out⟩
    · have c1 := HM.out.cell H1.out (fun h => h)
      have HX : Hid (x = 0) := hx.out (by omega)
      by_cases h : y = 0
      · have HY : Hid (y = 0) := h
        have hb : (y == 0) = true := by simp [h]
        clear h hx hy
        go_wp2
        go_roundw
        case rel => exact ⟨2, by go_num, by omega, HM, (fun _ => HX.out), (fun _ => HY.out)⟩
        case measure => simp [intOf]
      · have hb : (y == 0) = false := by simp [h]
        clear h hx hy
        go_wp2
        go_ret
        exact ⟨by rw [show z = y by rw [HZ.out, if_neg (by rw [HX.out]; simp)]]; rfl, HM.out⟩
    · have HX : Hid (x = 0) := hx.out (by omega)
      have HY : Hid (y = 0) := hy.out (by omega)
      clear hx hy
      go_wp2
      go_ret
      exact ⟨by rw [show z = 0 by rw [HZ.out, if_neg (by rw [HX.out]; simp), HY.out]]; rfl, HM.out⟩
set_option maxRecDepth 100000 in
set_option maxHeartbeats 4000000 in
theorem Rings_w (q r q' r' : Int) (w : World) : Calls Try.prog 58 #[.agg #[.int .i64 q, .int .i64 r], .agg #[.int .i64 q', .int .i64 r']] w fun e w' => e = .returned (.int .i64 (rgs q r q' r')) ∧ Mod (fun _ => False) w w' := by
  have HC1 : ∀ W, Calls Try.prog 73 #[.int .i64 q, .int .i64 q'] W fun e w' => e = .returned (.int .i64 (cmpI q q')) ∧ w' = W := fun W => Compare_w q q' W
  have HC2 : ∀ W, Calls Try.prog 73 #[.int .i64 r, .int .i64 r'] W fun e w' => e = .returned (.int .i64 (cmpI r r')) ∧ w' = W := fun W => Compare_w r r' W
  obtain ⟨wb, ewb⟩ : ∃ W, W = (w.alloc (.cells #[.int .i64 q, .int .i64 r] 23)).alloc (.cells #[.int .i64 q', .int .i64 r'] 23) := ⟨_, rfl⟩
  have hM : Mod (fun _ => False) w wb := by rw [ewb]; exact ((Mod.refl (fun _ => False) w).alloc _).alloc _
  have hB1 : Bk wb w.heap.size 23 #[.int .i64 q, .int .i64 r] := by rw [ewb]; exact (Bk.new w _ _).mod ((Mod.refl (fun _ => False) _).alloc _) (fun h => h)
  have hB2 : Bk wb (w.heap.size + 1) 23 #[.int .i64 q', .int .i64 r'] := by rw [ewb]; have := Bk.new (w.alloc (.cells #[.int .i64 q, .int .i64 r] 23)) #[.int .i64 q', .int .i64 r'] 23; simpa using this
  obtain ⟨ka, eka⟩ : ∃ k, k = w.heap.size := ⟨_, rfl⟩
  obtain ⟨kb, ekb⟩ : ∃ k, k = w.heap.size + 1 := ⟨_, rfl⟩
  rw [← eka] at hB1
  rw [← ekb] at hB2
  have HM : Hid (Mod (fun _ => False) w wb) := hM
  have HS : Hid (Bk wb ka 23 #[.int .i64 q, .int .i64 r] ∧ Bk wb kb 23 #[.int .i64 q', .int .i64 r']) := ⟨hB1, hB2⟩
  clear hM hB1 hB2
  go_enter Try.func58, Try.ntmps58
  go_upto_region 1 with (fail)
  rw [← ewb]
  try simp only [World.size_alloc]
  rw [← ekb, ← eka]
  clear ewb eka ekb
  have hmod := (Mod.refl (fun _ => False) wb).drew
  have HF : ∀ W, Mod (fun _ => False) wb W → (W.cell? ⟨ka, 0, none⟩ = some (.int .i64 q) ∧ W.cell? ⟨ka, 1, none⟩ = some (.int .i64 r) ∧ W.cell? ⟨kb, 0, none⟩ = some (.int .i64 q') ∧ W.cell? ⟨kb, 1, none⟩ = some (.int .i64 r')) := fun W hW => ⟨(HS.out.1.mod hW (fun h => h)).cellv (j := 0) rfl, (HS.out.1.mod hW (fun h => h)).cellv (j := 1) rfl, (HS.out.2.mod hW (fun h => h)).cellv (j := 0) rfl, (HS.out.2.mod hW (fun h => h)).cellv (j := 1) rfl⟩
  obtain ⟨x0, x1, x2, x3⟩ := HF _ hmod
  have hBO := (Bk.new wb #[.int .i64 (cmpI q q'), .int .i64 (cmpI r r')] 3).mod ((Mod.refl (fun _ => False) _).drew) (fun h => h)
  have HOR := Or_w _ _ _ _ (hBO.cellv (j := 0) rfl) (hBO.cellv (j := 1) rfl)
  rw [show (if cmpI q q' ≠ 0 then cmpI q q' else cmpI r r') = rgs q r q' r' from rfl] at HOR
  clear hBO
  go_region_held3 (fun U => U.cell? ⟨ka, 0, none⟩ = some (.int .i64 q) ∧ U.cell? ⟨ka, 1, none⟩ = some (.int .i64 r) ∧ U.cell? ⟨kb, 0, none⟩ = some (.int .i64 q') ∧ U.cell? ⟨kb, 1, none⟩ = some (.int .i64 r')) (first | with_reducible exact ⟨x0, x1, x2, x3⟩ | with_reducible exact HF _ hmod | with_reducible exact HF _ (hmod.alloc _) | with_reducible exact HF _ (((Mod.refl (fun _ => False) wb).alloc _).drew) | exact HF _ (hmod.alloc _) | go_keep) (first
    | (go_at_call 73; with_reducible refine (HC1 _).mono ?_; rintro e we ⟨rfl, e1⟩; replace e1 := e1.symm; subst e1)
    | (go_at_call 73; with_reducible refine (HC2 _).mono ?_; rintro e we ⟨rfl, e1⟩; replace e1 := e1.symm; subst e1)
    | (go_at_call 72; refine HOR.mono ?_; rintro e we ⟨rfl, hmx⟩; replace hmod := (((Mod.refl (fun _ => False) wb).alloc _).drew).and hmx; obtain ⟨x0, x1, x2, x3⟩ := HF _ hmod))
  all_goals have HFIN : Hid (Mod (fun _ => False) w _) := HM.out.and hmod
  all_goals go_wp2
  all_goals go_ret
  all_goals exact ⟨rfl, HFIN.out⟩
theorem isRing_w (q r : Int) (w : World) : Calls Try.prog 57 #[.agg #[.int .i64 q, .int .i64 r]] w fun e w' => e = .returned (.bool (isr q r)) ∧ Mod (fun _ => False) w w' := by
  have hA := (Mod.refl (fun _ => False) w).alloc (.cells #[.int .i64 q, .int .i64 r] 23)
  have H := CheckRing q r
  have ER := eqRing q r 0 0
  have hi : isr q r = (!(decide (q = 0) && decide (r = 0)) && (cr q r == 0)) := by
    rw [isr, Bool.eq_iff_iff]
    simp
  rw [hi]
  generalize (decide (q = 0) && decide (r = 0)) = z at ER ⊢
  generalize cr q r = c at H ⊢
  clear hi
  cases z
  · by_cases hc : c = 0
    · subst hc
      go_enter Try.func57, Try.ntmps57
      go_wp2_with (fail)
      refine (H _).mono ?_
      rintro e w1 ⟨rfl, hm1⟩
      go_wp2
      go_ret
      exact ⟨rfl, hA.trans hm1 (V := fun _ => False) (fun _ _ h => h) (fun _ _ h => h)⟩
    · have hcb : (c == 0) = false := by simp [hc]
      rw [hcb]
      go_enter Try.func57, Try.ntmps57
      go_wp2_with (fail)
      refine (H _).mono ?_
      rintro e w1 ⟨rfl, hm1⟩
      go_wp2
      go_ret
      exact ⟨rfl, hA.trans hm1 (V := fun _ => False) (fun _ _ h => h) (fun _ _ h => h)⟩
  · go_enter Try.func57, Try.ntmps57
    go_wp2
    go_ret
    exact ⟨rfl, hA⟩
/-- Whether a ring number is ahead of another one, and both may be. -/
def rise (q r q' r' : Int) : Bool := isr q r && (isr q' r' && decide (rgs q r q' r' < 0))
theorem isRise_w (q r q' r' : Int) (w : World) : Calls Try.prog 36 #[.agg #[.int .i64 q, .int .i64 r], .agg #[.int .i64 q', .int .i64 r']] w fun e w' => e = .returned (.bool (rise q r q' r')) ∧ Mod (fun _ => False) w w' := by
  obtain ⟨wb, ewb⟩ : ∃ W, W = (w.alloc (.cells #[.int .i64 q, .int .i64 r] 23)).alloc (.cells #[.int .i64 q', .int .i64 r'] 23) := ⟨_, rfl⟩
  have hM : Mod (fun _ => False) w wb := by rw [ewb]; exact ((Mod.refl (fun _ => False) w).alloc _).alloc _
  have hB1 : Bk wb w.heap.size 23 #[.int .i64 q, .int .i64 r] := by rw [ewb]; exact (Bk.new w _ _).mod ((Mod.refl (fun _ => False) _).alloc _) (fun h => h)
  have hB2 : Bk wb (w.heap.size + 1) 23 #[.int .i64 q', .int .i64 r'] := by rw [ewb]; have := Bk.new (w.alloc (.cells #[.int .i64 q, .int .i64 r] 23)) #[.int .i64 q', .int .i64 r'] 23; simpa using this
  obtain ⟨ka, eka⟩ : ∃ k, k = w.heap.size := ⟨_, rfl⟩
  obtain ⟨kb, ekb⟩ : ∃ k, k = w.heap.size + 1 := ⟨_, rfl⟩
  rw [← eka] at hB1
  rw [← ekb] at hB2
  have H1 := fun W => isRing_w q r W
  have H2 := fun W => isRing_w q' r' W
  have H3 := fun W => Rings_w q r q' r' W
  have hr : rise q r q' r' = (isr q r && (isr q' r' && decide (rgs q r q' r' < 0))) := rfl
  rw [hr]
  clear hr
  generalize isr q r = i1 at *
  generalize isr q' r' = i2 at *
  generalize rgs q r q' r' = z at *
  have HM : Hid (Mod (fun _ => False) w wb) := hM
  have HS : Hid (Bk wb ka 23 #[.int .i64 q, .int .i64 r] ∧ Bk wb kb 23 #[.int .i64 q', .int .i64 r']) := ⟨hB1, hB2⟩
  have a0 := hB1.cellv (j := 0) rfl
  have a1 := hB1.cellv (j := 1) rfl
  clear hM hB1 hB2
  go_enter Try.func36, Try.ntmps36
  go_upto_region 1 with (fail)
  rw [← ewb]
  try simp only [World.size_alloc]
  rw [← ekb, ← eka]
  clear ewb eka ekb
  go_wp2_with (fail)
  refine (H1 _).mono ?_
  rintro e w1 ⟨rfl, hm1⟩
  clear a0 a1
  cases i1 with
  | false =>
    go_wp2
    go_ret
    exact ⟨rfl, HM.out.and hm1⟩
  | true =>
    have b0 := (HS.out.2.mod hm1 (fun h => h)).cellv (j := 0) rfl
    have b1 := (HS.out.2.mod hm1 (fun h => h)).cellv (j := 1) rfl
    go_wp2_with (fail)
    refine (H2 _).mono ?_
    rintro e w2 ⟨rfl, hm2⟩
    clear b0 b1
    cases i2 with
    | false =>
      go_wp2
      go_ret
      exact ⟨rfl, (HM.out.and hm1).and hm2⟩
    | true =>
      have hm12 := hm1.and hm2
      have a0 := (HS.out.1.mod hm12 (fun h => h)).cellv (j := 0) rfl
      have a1 := (HS.out.1.mod hm12 (fun h => h)).cellv (j := 1) rfl
      have b0 := (HS.out.2.mod hm12 (fun h => h)).cellv (j := 0) rfl
      have b1 := (HS.out.2.mod hm12 (fun h => h)).cellv (j := 1) rfl
      go_wp2_with (fail)
      refine (H3 _).mono ?_
      rintro e w3 ⟨rfl, hm3⟩
      have HFIN : Hid (Mod (fun _ => False) w w3) := (HM.out.and hm12).and hm3
      clear a0 a1 b0 b1
      by_cases hz : z < 0
      · go_wp2
        go_ret
        exact ⟨by simp [hz], HFIN.out⟩
      · go_wp2
        go_ret
        exact ⟨by simp, HFIN.out⟩
/-- Whether there are kin, and all of them are in both crews. -/
def kinP (kin old next : Int) : Bool := decide (kin ≠ 0) && (bits .and .i64 (bits .and .i64 kin old) next == kin)
def kinOK (kin old next : Int) : Bool := (Cr.chk kin == 0) && ((Cr.chk old == 0) && ((Cr.chk next == 0) && kinP kin old next))
set_option maxRecDepth 100000 in
theorem isKin_w (kin old next : Int) (w : World) (h1 : I64 kin) (h2 : I64 old) (h3 : I64 next) : Calls Try.prog 37 #[.int .i64 kin, .int .i64 old, .int .i64 next] w fun e w' => e = .returned (.bool (kinOK kin old next)) ∧ Mod (fun _ => False) w w' := by
  have H1 := fun W => Cr.Check kin W h1
  have H2 := fun W => Cr.Check old W h2
  have H3 := fun W => Cr.Check next W h3
  obtain ⟨wb, ewb⟩ : ∃ W, W = w.alloc (.cells #[.int .i64 kin, .int .i64 old, .int .i64 next] 3) := ⟨_, rfl⟩
  obtain ⟨g, eg⟩ : ∃ k, k = w.heap.size := ⟨_, rfl⟩
  have hM : Mod (fun _ => False) w wb := by rw [ewb]; exact (Mod.refl _ w).alloc _
  have hB : Bk wb g 3 #[.int .i64 kin, .int .i64 old, .int .i64 next] := by rw [ewb, eg]; exact Bk.new w _ _
  have HB : Hid (Bk wb g 3 #[.int .i64 kin, .int .i64 old, .int .i64 next]) := hB
  have HM : Hid (Mod (fun _ => False) w wb) := hM
  obtain ⟨z, hz⟩ : ∃ z, z = kinOK kin old next := ⟨_, rfl⟩
  rw [← hz]
  have HZ : Hid (z = kinOK kin old next) := hz
  clear hM hB hz h1 h2 h3
  go_enter Try.func37, Try.ntmps37
  go_wp2_with (fail)
  rw [← ewb, ← eg]
  clear ewb eg
  go_loopw [14] (fun i wr => ∃ k : Nat, i = .int .i64 (k : Int) ∧ k ≤ 3 ∧ Hid (Mod (fun _ => False) wb wr) ∧ Hid (0 < k → Cr.chk kin = 0) ∧ Hid (1 < k → Cr.chk old = 0) ∧ Hid (2 < k → Cr.chk next = 0)) (fun i _ => 3 - (intOf i).toNat)
  case atStart => exact ⟨0, rfl, by omega, Mod.refl _ _, (fun h => by omega), (fun h => by omega), (fun h => by omega)⟩
  case round =>
    obtain ⟨k, rfl, hk, HMr, hx, hy, hq⟩ := hrel
    rcases (show k = 0 ∨ k = 1 ∨ k = 2 ∨ k = 3 by omega) with rfl | rfl | rfl | rfl
    · have c0 := (HB.out.mod HMr.out (fun h => h)).cellv (j := 0) rfl
      clear hx hy hq
      go_wp2_with (fail)
      refine (H1 _).mono ?_
      rintro e w2 ⟨rfl, e1⟩
      replace e1 := e1.symm
      subst e1
      by_cases h : Cr.chk kin = 0
      · have HX : Hid (Cr.chk kin = 0) := h
        rw [h]
        clear h
        go_wp2
        go_roundw
        case rel => exact ⟨1, by go_num, by omega, HMr, (fun _ => HX.out), (fun h => by omega), (fun h => by omega)⟩
        case measure => simp [intOf]
      · have hb : (Cr.chk kin == 0) = false := by simp [h]
        have HN : Hid (z = false) := by
          show _ = _
          rw [HZ.out, kinOK, hb]
          simp
        clear h
        generalize Cr.chk kin = ck at *
        go_wp2
        go_ret
        exact ⟨by rw [HN.out]; rfl, HM.out.and HMr.out⟩
    · have c0 := (HB.out.mod HMr.out (fun h => h)).cellv (j := 1) rfl
      have HX : Hid (Cr.chk kin = 0) := hx.out (by omega)
      clear hx hy hq
      go_wp2_with (fail)
      refine (H2 _).mono ?_
      rintro e w2 ⟨rfl, e1⟩
      replace e1 := e1.symm
      subst e1
      by_cases h : Cr.chk old = 0
      · have HY : Hid (Cr.chk old = 0) := h
        rw [h]
        clear h
        go_wp2
        go_roundw
        case rel => exact ⟨2, by go_num, by omega, HMr, (fun _ => HX.out), (fun _ => HY.out), (fun h => by omega)⟩
        case measure => simp [intOf]
      · have hb : (Cr.chk old == 0) = false := by simp [h]
        have HN : Hid (z = false) := by
          show _ = _
          rw [HZ.out, kinOK, hb]
          simp
        clear h
        generalize Cr.chk old = ck at *
        go_wp2
        go_ret
        exact ⟨by rw [HN.out]; rfl, HM.out.and HMr.out⟩
    · have c0 := (HB.out.mod HMr.out (fun h => h)).cellv (j := 2) rfl
      have HX : Hid (Cr.chk kin = 0) := hx.out (by omega)
      have HY : Hid (Cr.chk old = 0) := hy.out (by omega)
      clear hx hy hq
      go_wp2_with (fail)
      refine (H3 _).mono ?_
      rintro e w2 ⟨rfl, e1⟩
      replace e1 := e1.symm
      subst e1
      by_cases h : Cr.chk next = 0
      · have HQ : Hid (Cr.chk next = 0) := h
        rw [h]
        clear h
        go_wp2
        go_roundw
        case rel => exact ⟨3, by go_num, by omega, HMr, (fun _ => HX.out), (fun _ => HY.out), (fun _ => HQ.out)⟩
        case measure => simp [intOf]
      · have hb : (Cr.chk next == 0) = false := by simp [h]
        have HN : Hid (z = false) := by
          show _ = _
          rw [HZ.out, kinOK, hb]
          simp
        clear h
        generalize Cr.chk next = ck at *
        go_wp2
        go_ret
        exact ⟨by rw [HN.out]; rfl, HM.out.and HMr.out⟩
    · have HX : Hid (Cr.chk kin = 0 ∧ Cr.chk old = 0 ∧ Cr.chk next = 0) := ⟨hx.out (by omega), hy.out (by omega), hq.out (by omega)⟩
      have HE : Hid (kinOK kin old next = kinP kin old next) := by
        show _ = _
        rw [kinOK, HX.out.1, HX.out.2.1, HX.out.2.2]
        rfl
      clear hx hy hq hk H1 H2 H3
      by_cases h0 : kin = 0
      · have hb : (kin == 0) = true := by simp [h0]
        have HK : Hid (kin = 0) := h0
        clear h0
        go_wp2
        go_ret
        exact ⟨by rw [show z = false by rw [HZ.out, HE.out, kinP, HK.out]; rfl]; rfl, HM.out.and HMr.out⟩
      · have hb : (kin == 0) = false := by simp [h0]
        have HK : Hid (kin ≠ 0) := h0
        clear h0
        have HP : Hid (z = (bits .and .i64 (bits .and .i64 kin old) next == kin)) := by
          show _ = _
          rw [HZ.out, HE.out, kinP, decide_eq_true HK.out, Bool.true_and]
        go_wp2
        go_ret
        exact ⟨by rw [HP.out]; simp [bne, hb], HM.out.and HMr.out⟩
end Go.Proofs.Ytampdkbcijdpcaa
