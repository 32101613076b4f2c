/- Contracts of crew's calls that make no memory. No conditions. -/
import Derived.Test.YtampdkbcijdpcaaNa
import Derived.Deep.QuietTactic
import Derived.BigQuiet
namespace Go.Proofs.Ytampdkbcijdpcaa.Cr
open Go.RowKit
theorem isNode (n : Int) (w : World) : Calls Try.prog 50 #[.int .i64 n] w fun e w' => e = .returned (.bool (node n)) ∧ w' = w := by
  have h : 1 ≤ n ∨ n < 1 := by omega
  rcases h with h | h
  all_goals
    go_enter Try.func50, Try.ntmps50
    go_wp2
    go_ret
    refine ⟨?_, rfl⟩
    simp [node]
    try omega
theorem Has (c n : Int) (w : World) : Calls Try.prog 23 #[.int .i64 c, .int .i64 n] w fun e w' => e = .returned (.bool (has c n)) ∧ w' = w := by
  have H := isNode n w
  cases h : node n with
  | true =>
    have hn : 1 ≤ n ∧ n < 9 := by simpa [node] using h
    have h1 := hn.1
    have h2 := hn.2
    have e := shr_bit c n h1 h2
    have E : Hid ((bits .and .i64 (c / 2 ^ n.toNat) 1 == 1) = has c n) := by rw [Hid, e, has, h, Bool.true_and]
    rw [h] at H
    clear h hn e
    generalize has c n = r at E ⊢
    go_enter Try.func23, Try.ntmps23
    go_wp2_with (go_at_call 50; refine H.mono ?_; rintro e w' ⟨rfl, rfl⟩)
    go_ret
    refine ⟨?_, rfl⟩
    rw [← E.out]
    rfl
  | false =>
    have e : has c n = false := by simp [has, h]
    rw [e]
    rw [h] at H
    clear h e
    go_enter Try.func23, Try.ntmps23
    go_wp2_with (go_at_call 50; refine H.mono ?_; rintro e w' ⟨rfl, rfl⟩)
    go_ret
    exact ⟨rfl, rfl⟩
theorem Check (c : Int) (w : World) (hc : -9223372036854775808 ≤ c ∧ c ≤ 9223372036854775807) : Calls Try.prog 59 #[.int .i64 c] w fun e w' => e = .returned (.int .i64 (chk c)) ∧ w' = w := by
  have E := chk_eq c hc
  clear hc
  cases h : decide (((lo c &&& 510 : Nat) : Int) = c) with
  | true =>
    have e : chk c = 0 := by rw [chk, if_pos (of_decide_eq_true h)]
    rw [h] at E
    rw [e]
    clear h e
    go_enter Try.func59, Try.ntmps59
    go_wp2
    go_ret
    exact ⟨rfl, rfl⟩
  | false =>
    have e : chk c = 2 := by rw [chk, if_neg (of_decide_eq_false h)]
    rw [h] at E
    rw [e]
    clear h e
    go_enter Try.func59, Try.ntmps59
    go_wp2
    go_ret
    exact ⟨rfl, rfl⟩
end Go.Proofs.Ytampdkbcijdpcaa.Cr
