/- Contracts of the checks, the program's and the document's, and of the law's own key. No conditions. -/
import Derived.Test.YtampdkbcijdpcaaKa
namespace Go.Proofs.Ytampdkbcijdpcaa
open Go.RowKit
/-- Which ring numbers may be. -/
def cr (q r : Int) : Int := if (q = 0 ∧ r = 0) ∨ (0 < q ∧ q ≤ 9007199254740991 ∧ 1 ≤ r ∧ r ≤ 8) then 0 else 2
/-- Which keys may be. -/
def ck (s q r n : Int) : Int := if nm s = true ∧ nm n = true then cr q r else 2
theorem cr_zero {q r : Int} (h : q = 0 ∧ r = 0) : cr q r = 0 := by rw [cr, if_pos (.inl h)]
theorem cr_node {q r : Int} (h0 : ¬ (q = 0 ∧ r = 0)) (h1 : nm q = true) (h2 : 0 < q) : cr q r = if nd r = true then 0 else 2 := by
  simp only [nm, decide_eq_true_eq] at h1
  simp only [cr, nd, decide_eq_true_eq]
  simp [h0, h2, h1.2]
theorem cr_pos {q r : Int} (h0 : ¬ (q = 0 ∧ r = 0)) (h2 : ¬ 0 < q) : cr q r = 2 := by
  rw [cr, if_neg]
  rintro (h | h)
  · exact h0 h
  · exact h2 h.1
theorem cr_num {q r : Int} (h0 : ¬ (q = 0 ∧ r = 0)) (h1 : nm q = false) : cr q r = 2 := by
  rw [cr, if_neg]
  rintro (h | h)
  · exact h0 h
  · simp [nm] at h1
    omega
theorem CheckRing (q r : Int) (w : World) : Calls Try.prog 29 #[.agg #[.int .i64 q, .int .i64 r]] w fun e w' => e = .returned (.int .i64 (cr q r)) ∧ Mod (fun _ => False) w w' := by
  have HM : Mod (fun _ => False) w ((w.alloc (Obj.cells #[Value.int IntKind.i64 q, Value.int IntKind.i64 r] 23)).alloc
      (Obj.cells #[Value.int IntKind.i64 0, Value.int IntKind.i64 0] 23)) := ((Mod.refl _ _).alloc _).alloc _
  have H := isNumber q
  have N := isNode r
  by_cases h0 : q = 0 ∧ r = 0
  · rw [cr_zero h0]
    obtain ⟨rfl, rfl⟩ := h0
    go_enter Try.func29, Try.ntmps29
    go_wp2
    go_ret
    exact ⟨rfl, HM⟩
  · cases h1 : nm q with
    | false =>
      rw [cr_num h0 h1]
      rw [h1] at H
      have hq : ¬ q = 0 := by rintro rfl; exact absurd h1 (by decide)
      clear h1 h0
      go_enter Try.func29, Try.ntmps29
      go_wp2_with (fail)
      refine (H _).mono ?_
      rintro e w' ⟨rfl, rfl⟩
      go_wp2
      go_ret
      exact ⟨rfl, HM⟩
    | true =>
      by_cases h2 : 0 < q
      · rw [cr_node h0 h1 h2]
        rw [h1] at H
        clear h1
        cases h3 : nd r with
        | false =>
          rw [h3] at N
          rw [if_neg (by decide)]
          clear h3
          go_enter Try.func29, Try.ntmps29
          go_wp2_with (fail)
          refine (H _).mono ?_
          rintro e w' ⟨rfl, rfl⟩
          go_wp2_with (fail)
          refine (N _).mono ?_
          rintro e w' ⟨rfl, rfl⟩
          go_wp2
          go_ret
          exact ⟨rfl, HM⟩
        | true =>
          rw [h3] at N
          rw [if_pos rfl]
          clear h3
          go_enter Try.func29, Try.ntmps29
          go_wp2_with (fail)
          refine (H _).mono ?_
          rintro e w' ⟨rfl, rfl⟩
          go_wp2_with (fail)
          refine (N _).mono ?_
          rintro e w' ⟨rfl, rfl⟩
          go_wp2
          go_ret
          exact ⟨rfl, HM⟩
      · rw [cr_pos h0 h2]
        rw [h1] at H
        have hq : q = 0 := by simp [nm] at h1; omega
        subst hq
        have hr : ¬ r = 0 := fun h => h0 ⟨rfl, h⟩
        clear h1 h2 h0
        go_enter Try.func29, Try.ntmps29
        go_wp2_with (fail)
        refine (H _).mono ?_
        rintro e w' ⟨rfl, rfl⟩
        go_wp2
        go_ret
        exact ⟨rfl, HM⟩
theorem RCheckRing (q r : Int) (w : World) : Calls Try.prog 32 #[.agg #[.int .i64 q, .int .i64 r]] w fun e w' => e = .returned (.int .i64 (cr q r)) ∧ Mod (fun _ => False) w w' := by
  have HM : Mod (fun _ => False) w (w.alloc (Obj.cells #[Value.int IntKind.i64 q, Value.int IntKind.i64 r] 23)) := (Mod.refl _ _).alloc _
  have H := number q
  by_cases h0 : q = 0 ∧ r = 0
  · rw [cr_zero h0]
    obtain ⟨rfl, rfl⟩ := h0
    go_enter Try.func32, Try.ntmps32
    go_wp2_with (go_at_call 54; refine (H _).mono ?_; rintro e w' ⟨rfl, rfl⟩)
    go_ret
    exact ⟨rfl, HM⟩
  · rcases (show (q = 0 ∧ ¬ r = 0) ∨ ¬ q = 0 by omega) with ⟨hq, hr⟩ | hq
    · rw [cr_pos h0 (by omega)]
      subst hq
      clear h0
      go_enter Try.func32, Try.ntmps32
      go_wp2_with (go_at_call 54; refine (H _).mono ?_; rintro e w' ⟨rfl, rfl⟩)
      go_ret
      exact ⟨rfl, HM⟩
    · by_cases h2 : 0 < q
      · cases h1 : nm q with
        | false =>
          rw [cr_num h0 h1]
          rw [h1] at H
          clear h1 h0
          go_enter Try.func32, Try.ntmps32
          go_wp2_with (go_at_call 54; refine (H _).mono ?_; rintro e w' ⟨rfl, rfl⟩)
          go_ret
          exact ⟨rfl, HM⟩
        | true =>
          rw [cr_node h0 h1 h2]
          rw [h1] at H
          clear h1 h0
          rcases (show 1 ≤ r ∨ r < 1 by omega) with h3 | h3
          · rcases (show r ≤ 8 ∨ 8 < r by omega) with h4 | h4
            · rw [if_pos (by simp [nd]; omega)]
              go_enter Try.func32, Try.ntmps32
              go_wp2_with (go_at_call 54; refine (H _).mono ?_; rintro e w' ⟨rfl, rfl⟩)
              go_ret
              exact ⟨rfl, HM⟩
            · rw [if_neg (by simp [nd]; omega)]
              go_enter Try.func32, Try.ntmps32
              go_wp2_with (go_at_call 54; refine (H _).mono ?_; rintro e w' ⟨rfl, rfl⟩)
              go_ret
              exact ⟨rfl, HM⟩
          · rw [if_neg (by simp [nd]; omega)]
            go_enter Try.func32, Try.ntmps32
            go_wp2_with (go_at_call 54; refine (H _).mono ?_; rintro e w' ⟨rfl, rfl⟩)
            go_ret
            exact ⟨rfl, HM⟩
      · rw [cr_pos h0 h2]
        have h2' : q ≤ 0 := by omega
        clear h2 h0
        go_enter Try.func32, Try.ntmps32
        go_wp2_with (go_at_call 54; refine (H _).mono ?_; rintro e w' ⟨rfl, rfl⟩)
        go_ret
        exact ⟨rfl, HM⟩
end Go.Proofs.Ytampdkbcijdpcaa
