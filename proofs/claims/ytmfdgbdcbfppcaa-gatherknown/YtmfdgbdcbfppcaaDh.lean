/- The laws' own functions: join, hears, may, works. Conditions: numbers of an int. -/
import Derived.Test.YtmfdgbdcbfppcaaDg
namespace Go.Proofs.Ytmfdgbdcbfppcaa
open Go.RowKit Go.Maps Go.WideShapes
theorem join_w (s q k : Int) (w : World) : Calls Try.prog 21 #[.int .i64 s, .int .i64 q, .int .i64 k] w fun e w' => e = .returned (jv s q k) ∧ Mod (fun _ => False) w w' := by
  have HB : Hid (Bk _ _ _ _) := Bk.new w #[.int .i64 0, .int .i64 0, .int .i64 0] 34
  have hA := (Mod.refl (fun _ => False) w).alloc (.cells #[.int .i64 0, .int .i64 0, .int .i64 0] 34)
  go_enter Try.func21, Try.ntmps21
  go_wp2_with (refine wpList_store_row info3c rfl rfl _ _ rfl w.heap.size #[.int .i64 s, .int .i64 q, .int .i64 k] rfl rfl HB.out rfl rfl rfl ?_; intro wF hBF hMF)
  exact bodyPost_ret (resT info3c Try.underlying34 rfl rfl rfl hBF rfl) rfl ⟨rfl, hA.trans hMF (V := fun _ => False) (fun _ _ h => h) (fun q hq h => by omega)⟩
/-- What the laws' hears answers. -/
def hv (n : Int) (J : Int → Option Jo) (s q k : Int) : Int := 10 * h3 s q k + (if h1 n J s q k then 2 else 0) + (if h2 n J s q k then 1 else 0)
theorem hears_post {w : World} {v : Value} {s q k x : Int} {a b : Bool} (hx : x = 0 ∨ x = 1 ∨ x = 2) {R : World → Prop} (H : ∀ W, Mod (fun _ => False) w W → Calls Try.prog 11 #[v, jv s q k] W fun e w' => e = .returned (.tuple #[.bool a, .bool b, .int .i64 x]) ∧ R w') :
    Calls Try.prog 23 #[v, jv s q k] w fun e w' => e = .returned (.int .i64 (10 * x + (if a then 2 else 0) + (if b then 1 else 0))) ∧ R w' := by
  have hA := (Mod.refl (fun _ => False) w).alloc (.cells #[.int .i64 s, .int .i64 q, .int .i64 k] 34)
  have HH := H _ hA
  unfold jv at *
  clear hA H
  rcases hx with rfl | rfl | rfl
  all_goals
    cases a
    all_goals
      cases b
      all_goals
        go_enter Try.func23, Try.ntmps23
        go_wp2_with (go_at_call 11; refine HH.mono ?_; rintro e w2 ⟨rfl, hr⟩)
        go_ret
        exact ⟨rfl, hr⟩
/-- A gathering made since w0. -/
structure Gb (w0 w : World) (p : Nat) (X : Nat → Prop) (n c g : Int) (J : Int → Option Jo) : Prop where
  ga : Ga w p X n c g J
  new : ∀ i, X i → w0.heap.size ≤ i
  mod : Mod (fun _ => False) w0 w
theorem Gb.keep {w0 w w' : World} {p : Nat} {X : Nat → Prop} {n c g : Int} {J : Int → Option Jo} (h : Gb w0 w p X n c g J) (hm : Mod (fun _ => False) w w') : Gb w0 w' p X n c g J := ⟨h.ga.keep hm, h.new, h.mod.and hm⟩
theorem Gb.turn {w0 w w' : World} {p : Nat} {X : Nat → Prop} {n c g c' g' : Int} {J J' : Int → Option Jo} (h : Gb w0 w p X n c g J) (hg : Ga w' p X n c' g' J') (hm : Mod X w w') : Gb w0 w' p X n c' g' J' :=
  ⟨hg, h.new, h.mod.trans hm (V := fun _ => False) (fun _ _ h => h) (fun i hi hx => by have := h.new i hx; omega)⟩
theorem nb_new (n c : Int) (h : okN n c = true) (w0 w : World) (hm : Mod (fun _ => False) w0 w) : Calls Try.prog 8 #[.int .i64 n, .int .i64 c] w fun e w' => ∃ p X, e = .returned (.tuple #[.pointer (some ⟨p, 0, none⟩), .int .i64 0]) ∧ Gb w0 w' p X n c c (fun _ => none) := by
  refine (New_ok n c h w).mono ?_
  rintro e w' ⟨p, X, rfl, hg, hn, hm2⟩
  exact ⟨p, X, rfl, hg, fun i hi => Nat.le_trans hm.size (hn i hi), hm.and hm2⟩
theorem h3_two (s q k : Int) : h3 s q k = 0 ∨ h3 s q k = 1 ∨ h3 s q k = 2 := by unfold h3; split <;> simp
theorem nb_hears {w0 w : World} {p : Nat} {X : Nat → Prop} {n c g : Int} {J : Int → Option Jo} (h : Gb w0 w p X n c g J) (s q k : Int) (hq : I64 q) (x : Int) (hx : hv n J s q k = x) (G' : Int) (hG' : hG n g s q k = G') (J' : Int → Option Jo) (hJ' : hJ n J s q k = J') :
    Calls Try.prog 23 #[.pointer (some ⟨p, 0, none⟩), jv s q k] w fun e w' => e = .returned (.int .i64 x) ∧ Gb w0 w' p X n c G' J' := by
  rw [← hx, ← hG', ← hJ']
  refine hears_post (h3_two s q k) (R := fun w' => Gb w0 w' p X n c (hG n g s q k) (hJ n J s q k)) fun W hm => ?_
  have hk := h.keep hm
  refine (Hear_any hk.ga s q k hq).mono ?_
  rintro e w' ⟨rfl, hg, hm2⟩
  exact ⟨rfl, hk.turn hg hm2⟩
theorem nb_own {w0 w : World} {p : Nat} {X : Nat → Prop} {n c g : Int} {J : Int → Option Jo} (h : Gb w0 w p X n c g J) (x : Int) (hx : (hr n J : Int) = x) : Calls Try.prog 13 #[.pointer (some ⟨p, 0, none⟩)] w fun e w' => e = .returned (jv n x c) ∧ Gb w0 w' p X n c g J := by
  rw [← hx]
  refine (Own_w h.ga).mono ?_
  rintro e w' ⟨rfl, hm⟩
  exact ⟨rfl, h.keep hm⟩
theorem nb_agreed {w0 w : World} {p : Nat} {X : Nat → Prop} {n c g : Int} {J : Int → Option Jo} (h : Gb w0 w p X n c g J) (x : Bool) (hx : ag J (hr n J) = x) : Calls Try.prog 15 #[.pointer (some ⟨p, 0, none⟩)] w fun e w' => e = .returned (.bool x) ∧ Gb w0 w' p X n c g J := by
  rw [← hx]
  refine (Agreed_w h.ga).mono ?_
  rintro e w' ⟨rfl, hm⟩
  exact ⟨rfl, h.keep hm⟩
theorem nb_counter {w0 w : World} {p : Nat} {X : Nat → Prop} {n c g : Int} {J : Int → Option Jo} (h : Gb w0 w p X n c g J) : Calls Try.prog 17 #[.pointer (some ⟨p, 0, none⟩)] w fun e w' => e = .returned (.int .i64 g) ∧ Gb w0 w' p X n c g J := by
  refine (Counter_w h.ga).mono ?_
  rintro e w' ⟨rfl, rfl⟩
  exact ⟨rfl, h⟩
theorem nb_join {w0 w : World} {p : Nat} {X : Nat → Prop} {n c g : Int} {J : Int → Option Jo} (h : Gb w0 w p X n c g J) (s q k : Int) : Calls Try.prog 21 #[.int .i64 s, .int .i64 q, .int .i64 k] w fun e w' => e = .returned (jv s q k) ∧ Gb w0 w' p X n c g J := by
  refine (join_w s q k w).mono ?_
  rintro e w' ⟨rfl, hm⟩
  exact ⟨rfl, h.keep hm⟩
theorem eqJ (s p c s' p' c' : Int) (r : Bool) (hr : (decide (s = s') && (decide (p = p') && decide (c = c'))) = r) : ∀ w : World, (Op.equalIn 10000 34 (.agg #[.int .i64 s, .int .i64 p, .int .i64 c]) (.agg #[.int .i64 s', .int .i64 p', .int .i64 c'])).run Try.prog w = .ok r w := fun w => by rw [eqJoin, hr]
def W0 : Int → Option Jo := fun _ => none
def W1 : Int → Option Jo := upd W0 3 (some ⟨12, 9⟩)
def W2 : Int → Option Jo := upd W1 3 (some ⟨12, 9⟩)
def W3 : Int → Option Jo := upd W2 3 (some ⟨8, 1⟩)
def W4 : Int → Option Jo := upd W3 1 (some ⟨14, 0⟩)
set_option maxRecDepth 100000 in
set_option maxHeartbeats 2000000 in
theorem works_any (w : World) : Calls Try.prog 10 #[] w fun e w' => e = .returned (.bool true) ∧ Mod (fun _ => False) w w' := by
  have HN := nb_new 2 5 (by decide) w w (Mod.refl _ w)
  have E1 := eqJ 2 4 5 2 4 5 true (by decide)
  have E2 := eqJ 2 12 5 2 12 5 true (by decide)
  have E3 := eqJ 2 14 5 2 14 5 true (by decide)
  go_enter Try.func10, Try.ntmps10
  go_wp2_with (fail)
  refine HN.mono ?_
  rintro e w1 ⟨p, X, rfl, h⟩
  clear HN
  go_wp2_with (fail)
  refine (nb_own h 4 (by decide)).mono ?_
  rintro e w2 ⟨rfl, h⟩
  unfold jv
  go_wp2_with (fail)
  refine (nb_join h 2 4 5).mono ?_
  rintro e w2 ⟨rfl, h⟩
  unfold jv
  go_wp2_with (fail)
  refine (nb_agreed h true (by decide)).mono ?_
  rintro e w2 ⟨rfl, h⟩
  go_wp2_with (fail)
  refine (nb_join h 3 12 9).mono ?_
  rintro e w2 ⟨rfl, h⟩
  unfold jv
  go_wp2_with (fail)
  refine (nb_hears h 3 12 9 ⟨by decide, by decide⟩ 3 (by decide +kernel) 9 (by decide +kernel) W1 rfl).mono ?_
  rintro e w2 ⟨rfl, h⟩
  go_wp2_with (fail)
  refine (nb_own h 12 (by decide)).mono ?_
  rintro e w2 ⟨rfl, h⟩
  unfold jv
  go_wp2_with (fail)
  refine (nb_join h 2 12 5).mono ?_
  rintro e w2 ⟨rfl, h⟩
  unfold jv
  go_wp2_with (fail)
  refine (nb_agreed h true (by decide)).mono ?_
  rintro e w2 ⟨rfl, h⟩
  go_wp2_with (fail)
  refine (nb_counter h).mono ?_
  rintro e w2 ⟨rfl, h⟩
  go_wp2_with (fail)
  refine (nb_join h 3 12 9).mono ?_
  rintro e w2 ⟨rfl, h⟩
  unfold jv
  go_wp2_with (fail)
  refine (nb_hears h 3 12 9 ⟨by decide, by decide⟩ 0 (by decide +kernel) 9 (by decide +kernel) W2 rfl).mono ?_
  rintro e w2 ⟨rfl, h⟩
  go_wp2_with (fail)
  refine (nb_join h 3 8 1).mono ?_
  rintro e w2 ⟨rfl, h⟩
  unfold jv
  go_wp2_with (fail)
  refine (nb_hears h 3 8 1 ⟨by decide, by decide⟩ 2 (by decide +kernel) 9 (by decide +kernel) W3 rfl).mono ?_
  rintro e w2 ⟨rfl, h⟩
  go_wp2_with (fail)
  refine (nb_agreed h false (by decide)).mono ?_
  rintro e w2 ⟨rfl, h⟩
  go_wp2_with (fail)
  refine (nb_counter h).mono ?_
  rintro e w2 ⟨rfl, h⟩
  go_wp2_with (fail)
  refine (nb_join h 1 14 0).mono ?_
  rintro e w2 ⟨rfl, h⟩
  unfold jv
  go_wp2_with (fail)
  refine (nb_hears h 1 14 0 ⟨by decide, by decide⟩ 3 (by decide +kernel) 9 (by decide +kernel) W4 rfl).mono ?_
  rintro e w2 ⟨rfl, h⟩
  go_wp2_with (fail)
  refine (nb_own h 14 (by decide)).mono ?_
  rintro e w2 ⟨rfl, h⟩
  unfold jv
  go_wp2_with (fail)
  refine (nb_join h 2 14 5).mono ?_
  rintro e w2 ⟨rfl, h⟩
  unfold jv
  go_wp2_with (fail)
  go_ret
  exact ⟨rfl, h.mod⟩
end Go.Proofs.Ytmfdgbdcbfppcaa
