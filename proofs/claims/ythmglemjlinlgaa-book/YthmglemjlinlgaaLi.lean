/- Bring; works answers true and turns nothing that was there. Conditions: ints. -/
import Derived.Test.YthmglemjlinlgaaLh
import Derived.Test.YthmglemjlinlgaaLw
namespace Go.Proofs.Ythmglemjlinlgaa
open Go.RowKit
theorem bring_val (x : Int) (m : Nat) (h0 : 0 < m) : (if x.tmod (m : Int) < 0 then x.tmod (m : Int) + m else x.tmod (m : Int)) = x % (m : Int) := by
  have hm : (0 : Int) < m := by omega
  rcases Int.lt_or_le x 0 with h | h
  · have e : x.tmod (m : Int) = -((-x) % (m : Int)) := by
      have e := Int.neg_tmod (-x) (m : Int)
      rw [Int.neg_neg, Int.tmod_eq_emod_of_nonneg (by omega : 0 ≤ -x)] at e
      exact e
    have a1 := Int.emod_nonneg (-x) (show (m : Int) ≠ 0 by omega)
    have a2 := Int.emod_lt_of_pos (-x) hm
    have e2 := Int.mul_ediv_add_emod (-x) (m : Int)
    generalize hq : (-x) / (m : Int) = q at e2
    generalize hr : (-x) % (m : Int) = r at *
    rw [e]
    by_cases h1 : r = 0
    · rw [h1]
      have : x = (m : Int) * (-q) := by rw [Int.mul_neg]; omega
      rw [this, Int.mul_emod_right]
      simp
    · rw [if_pos (by omega)]
      have : x = (-r + m) + (m : Int) * (-q - 1) := by rw [Int.mul_sub, Int.mul_neg, Int.mul_one]; omega
      rw [this, Int.add_mul_emod_self_left, Int.emod_eq_of_lt (by omega) (by omega)]
  · rw [Int.tmod_eq_emod_of_nonneg h, if_neg (by have := Int.emod_nonneg x (show (m : Int) ≠ 0 by omega); omega)]
theorem bring_any (x : Int) (m : Nat) (w : World) (h0 : 0 < m) (hm : m ≤ 1152921504606846976) (_h1 : -9223372036854775808 ≤ x) (_h2 : x ≤ 9223372036854775807) : Calls Try.prog 9 #[.int .i64 x, .int .i64 (m : Int)] w fun e w' => e = .returned (.int .i64 (x % (m : Int))) ∧ w' = w := by
  have hv := bring_val x m h0
  have q0 : ¬ ((m : Int) ≤ 0) := by omega
  have q1 : ¬ ((m : Int) = 0) := by omega
  have q2 : ((m : Int) == 0) = false := by simp; omega
  have a1 := Int.emod_nonneg x q1
  have a2 := Int.emod_lt_of_pos x (show (0 : Int) < m by omega)
  generalize x % (m : Int) = v at *
  generalize hr : x.tmod (m : Int) = r at *
  by_cases hneg : r < 0
  · rw [if_pos hneg] at hv
    have b1 : -(m : Int) ≤ r := by omega
    subst hv
    go_enter Try.func9, Try.ntmps9
    go_wp2
    go_ret
    exact ⟨rfl, rfl⟩
  · rw [if_neg hneg] at hv
    subst hv
    go_enter Try.func9, Try.ntmps9
    go_wp2
    go_ret
    exact ⟨rfl, rfl⟩
/-- Bytes of a literal. -/
theorem lit1 (w : World) (c : Int) (h : 0 ≤ c ∧ c ≤ 255) : Sl (w.alloc (.cells #[.int .u8 c] 5)) (.slice (some ⟨w.heap.size, 0, none⟩) 1 1) [c] := by
  have := Sl.lit w [c] (by simp [maxLen]) (by simpa using h)
  simpa [U] using this
theorem sl_nil (w : World) : Sl w (.slice none 0 0) [] := (Own.nil w).sl (by simp)
/-- A lane that was not there at w0. -/
structure Lv (w0 w : World) (p : Nat) (L : List Dg) (s : Int) (F : Nat → Prop) : Prop where
  la : La w p L s F
  new : ∀ k, F k → w0.heap.size ≤ k
  mod : Mod (fun _ => False) w0 w
theorem Lv.on {w0 w w' : World} {p : Nat} {L L' : List Dg} {s s' : Int} {F F' : Nat → Prop} (h : Lv w0 w p L s F) (h' : La w' p L' s' F') (g : Gone w w' F F') : Lv w0 w' p L' s' F' :=
  ⟨h', fun k hk => by
    rcases g.2 k hk with h1 | h1
    · exact h.new k h1
    · exact Nat.le_trans h.mod.size h1, h.mod.trans g.1 (fun _ _ h => h) (fun k hk hF => by have := h.new k hF; omega)⟩
theorem Lv.quiet {w0 w w' : World} {p : Nat} {L : List Dg} {s : Int} {F : Nat → Prop} (h : Lv w0 w p L s F) (hm : Mod (fun _ => False) w w') : Lv w0 w' p L s F :=
  ⟨h.la.mod hm (fun _ _ h => h), h.new, h.mod.and hm⟩
theorem Lv.mk' {w0 w w' : World} {p : Nat} {F : Nat → Prop} (hm : Mod (fun _ => False) w0 w) (h : La w' p [] 0 F) (hm' : Mod (fun _ => False) w w') (hn : ∀ k, F k → w.heap.size ≤ k) : Lv w0 w' p [] 0 F :=
  ⟨h, fun k hk => Nat.le_trans hm.size (hn k hk), hm.and hm'⟩
/-- Bytes that were taken, apart from a lane. -/
structure Kp (w : World) (u : Value) (b : List Int) (F : Nat → Prop) : Prop where
  own : Own w u b
  oct : Oct b
  far : ∀ g, u.ownBlock = some g → ¬ F g
theorem Kp.on {w w' : World} {u : Value} {b : List Int} {F F' : Nat → Prop} (h : Kp w u b F) (g : Gone w w' F F') : Kp w' u b F' :=
  ⟨h.own.mod g.1 h.far, h.oct, fun k hk hF => by
    rcases g.2 k hF with h1 | h1
    · exact h.far k hk h1
    · have := h.own.lt k hk
      omega⟩
theorem Kp.quiet {w w' : World} {u : Value} {b : List Int} {F : Nat → Prop} (h : Kp w u b F) (hm : Mod (fun _ => False) w w') : Kp w' u b F := ⟨h.own.mod hm (fun _ _ h => h), h.oct, h.far⟩
theorem Kp.sl {w : World} {u : Value} {b : List Int} {F : Nat → Prop} (h : Kp w u b F) : Sl w u b := h.own.sl h.oct.1
theorem Tk.kp {w : World} {u : Value} {d : Dg} {F F' : Nat → Prop} (h : Tk w u d F F') : Kp w u d.b F' := ⟨h.own, h.oct, fun g hg => (h.far g hg).2⟩
theorem Gone.same {w w' : World} {F : Nat → Prop} (h : Mod F w w') : Gone w w' F F := ⟨h, fun _ hk => .inl hk⟩
abbrev d1 : Dg := ⟨1, 2, [171]⟩
abbrev d2 : Dg := ⟨2, 1, []⟩
abbrev d3 : Dg := ⟨1, 2, [170]⟩
set_option maxRecDepth 100000 in
set_option maxHeartbeats 4000000 in
theorem works (w : World) : Calls Try.prog 26 #[] w fun e w' => e = .returned (.bool true) ∧ Mod (fun _ => False) w w' := by
  have E1 : pE [] d1 = 0 ∧ pL [] d1 = [d1] := ⟨rfl, rfl⟩
  have E2 : pE [d1] d2 = 0 ∧ pL [d1] d2 = [d1, d2] := ⟨rfl, rfl⟩
  have E3 : dE [d1, d2] 0 = 0 ∧ dL [d1, d2] 0 = [d1, d2, d1] := ⟨rfl, rfl⟩
  have E4 : fE [d1, d2, d1] 2 9 = 9 ∧ fL [d1, d2, d1] 2 9 = [d1, d2, d1] := ⟨rfl, rfl⟩
  have E5 : fE [d1, d2, d1] 2 0 = 0 ∧ fL [d1, d2, d1] 2 0 = [d1, d2, d3] := ⟨rfl, rfl⟩
  have E6 : tE [d1, d2, d3] 2 = 0 ∧ tL [d1, d2, d3] 2 = [d1, d2] ∧ tD [d1, d2, d3] 2 = d3 := ⟨rfl, rfl, rfl⟩
  have E7 : tE [d1, d2] 0 = 0 ∧ tL [d1, d2] 0 = [d2] ∧ tD [d1, d2] 0 = d1 := ⟨rfl, rfl, rfl⟩
  have E8 : rc 6 1 2 = true ∧ rc 6 1 3 = false ∧ rc 6 3 4 = true := by decide
  go_enter Try.func26, Try.ntmps26
  go_wp2_with (fail)
  refine (New_any w).mono ?_
  rintro e w1 ⟨p, F1, rfl, hL, hm1, hn1⟩
  have V1 := Lv.mk' (Mod.refl (fun _ => False) w) hL hm1 hn1
  clear hL hm1 hn1
  go_wp2_with (fail)
  have V1' := V1.quiet ((Mod.refl (fun _ => False) w1).alloc (.cells #[.int .u8 171] 5))
  have H := Put_any (d := d1) V1'.la (lit1 w1 171 (by omega)) (by simp)
  rw [E1.1, E1.2] at H
  refine H.mono ?_
  rintro e w2 ⟨rfl, F2, hL2, hG2⟩
  have V2 := V1'.on hL2 hG2
  clear H V1 V1' hL2 hG2
  go_wp2_with (fail)
  have H := Put_any (d := d2) V2.la (sl_nil w2) (by simp)
  rw [E2.1, E2.2] at H
  refine H.mono ?_
  rintro e w3 ⟨rfl, F3, hL3, hG3⟩
  have V3 := V2.on hL3 hG3
  clear H V2 hL3 hG3
  go_wp2_with (fail)
  have H := Double_any (i := 0) V3.la
  rw [E3.1, E3.2] at H
  refine H.mono ?_
  rintro e w4 ⟨rfl, F4, hL4, hG4⟩
  have V4 := V3.on hL4 hG4
  clear H V3 hL4 hG4
  go_wp2_with (fail)
  have H := Flip_any (i := 2) (t := 9) V4.la (by omega)
  rw [E4.1, E4.2] at H
  refine H.mono ?_
  rintro e w5 ⟨rfl, hL5, hG5⟩
  have V5 := V4.on hL5 (Gone.same hG5)
  clear H V4 hL5 hG5
  go_wp2_with (fail)
  refine (Len_any V5.la).mono ?_
  rintro e w6 ⟨rfl, rfl⟩
  go_wp2_with (fail)
  have H := Flip_any (i := 2) (t := 0) V5.la (by omega)
  rw [E5.1, E5.2] at H
  refine H.mono ?_
  rintro e w7 ⟨rfl, hL7, hG7⟩
  have V7 := V5.on hL7 (Gone.same hG7)
  clear H V5 hL7 hG7
  go_wp2_with (fail)
  have H := Take_any (i := 2) V7.la
  rw [E6.1, E6.2.1, E6.2.2] at H
  refine H.mono ?_
  rintro e w8 ⟨u8, F8, rfl, hL8, hG8, hT8⟩
  have V8 := V7.on hL8 hG8
  have K8 := hT8.kp
  clear H V7 hL8 hG8 hT8
  obtain ⟨ao8, cp8, e8⟩ := K8.own.shape
  subst e8
  go_wp2_with (fail)
  have V8' := V8.quiet ((Mod.refl (fun _ => False) w8).alloc (.cells #[.int .i64 1, .int .i64 2, .slice ao8 1 cp8] 30))
  have K8' := K8.quiet ((Mod.refl (fun _ => False) w8).alloc (.cells #[.int .i64 1, .int .i64 2, .slice ao8 1 cp8] 30))
  have B8 := heap_alloc_new w8 (.cells #[.int .i64 1, .int .i64 2, .slice ao8 1 cp8] 30)
  have H := Take_any (i := 0) V8'.la
  rw [E7.1, E7.2.1, E7.2.2] at H
  refine H.mono ?_
  rintro e w9 ⟨u9, F9, rfl, hL9, hG9, hT9⟩
  have V9 := V8'.on hL9 hG9
  have K9 := hT9.kp
  have K8 := K8'.on hG9
  have B9 := hG9.1.obj B8 (fun hk => by have := V8.la.lt hk; omega)
  clear H hL9 hG9 hT9 K8' B8 V8' V8
  obtain ⟨ao9, cp9, e9⟩ := K9.own.shape
  subst e9
  have c0 : w9.cell? ⟨w8.heap.size, 0, none⟩ = some (.int .i64 1) := by simp [World.cell?, B9]
  have c1 : w9.cell? ⟨w8.heap.size, 1, none⟩ = some (.int .i64 2) := by simp [World.cell?, B9]
  have c2 : w9.cell? ⟨w8.heap.size, 2, none⟩ = some (.slice ao8 1 cp8) := by simp [World.cell?, B9]
  have l8 := lt_of_block B9
  have hne : ¬ w9.heap.size = w8.heap.size := by omega
  go_wp2_with (fail)
  have B10 := heap_alloc_new w9 (.cells #[.int .i64 1, .int .i64 2, .slice ao9 1 cp9] 30)
  have hA : Mod (fun _ => False) w9 (w9.alloc (.cells #[.int .i64 1, .int .i64 2, .slice ao9 1 cp9] 30)) := (Mod.refl _ w9).alloc _
  have hs : (w9.alloc (.cells #[.int .i64 1, .int .i64 2, .slice ao9 1 cp9] 30)).heap.size = w9.heap.size + 1 := by simp
  generalize w9.alloc (.cells #[.int .i64 1, .int .i64 2, .slice ao9 1 cp9] 30) = W at *
  have hA2 := (Mod.refl (fun _ => False) W).alloc (.cells #[.int .u8 170] 5)
  have H := is_self (d := d3) (((K8.quiet hA).quiet hA2).sl) (by have := lit1 W 170 (by omega); rwa [hs] at this)
  refine H.mono ?_
  rintro e w10 ⟨rfl, hm10⟩
  have hB := hA2.and hm10
  have V10 := (V9.quiet hA).quiet hB
  have K10 := (K9.quiet hA).quiet hB
  have B11 := hB.obj B10 (fun h => h)
  have c0 : w10.cell? ⟨w9.heap.size, 0, none⟩ = some (.int .i64 1) := by simp [World.cell?, B11]
  have c1 : w10.cell? ⟨w9.heap.size, 1, none⟩ = some (.int .i64 2) := by simp [World.cell?, B11]
  have c2 : w10.cell? ⟨w9.heap.size, 2, none⟩ = some (.slice ao9 1 cp9) := by simp [World.cell?, B11]
  clear H B10 hA hA2 hm10 hB V9 K9 K8 B9 hs
  go_wp2_with (fail)
  have hA2 := (Mod.refl (fun _ => False) w10).alloc (.cells #[.int .u8 171] 5)
  have H := is_self (d := d1) ((K10.quiet hA2).sl) (lit1 w10 171 (by omega))
  refine H.mono ?_
  rintro e w11 ⟨rfl, hm11⟩
  have V11 := V10.quiet (hA2.and hm11)
  clear H hA2 hm11 V10 K10
  go_wp2_with (fail)
  refine (Len_any V11.la).mono ?_
  rintro e w12 ⟨rfl, rfl⟩
  go_wp2_with (fail)
  refine (Cut_any V11.la 6).mono ?_
  rintro e w13 ⟨rfl, hL13, hG13⟩
  have V13 := V11.on hL13 (Gone.same hG13)
  clear V11 hL13 hG13
  go_wp2_with (fail)
  have H := Reaches_any V13.la 1 2
  rw [E8.1] at H
  refine H.mono ?_
  rintro e w14 ⟨rfl, hm14⟩
  have V14 := V13.quiet hm14
  clear V13 hm14 H
  go_wp2_with (fail)
  have H := Reaches_any V14.la 1 3
  rw [E8.2.1] at H
  refine H.mono ?_
  rintro e w15 ⟨rfl, hm15⟩
  have V15 := V14.quiet hm15
  clear V14 hm15 H
  go_wp2_with (fail)
  have H := Reaches_any V15.la 3 4
  rw [E8.2.2] at H
  refine H.mono ?_
  rintro e w16 ⟨rfl, hm16⟩
  have V16 := V15.quiet hm16
  clear V15 hm16 H
  go_wp2
  go_ret
  exact ⟨rfl, V16.mod⟩
end Go.Proofs.Ythmglemjlinlgaa
