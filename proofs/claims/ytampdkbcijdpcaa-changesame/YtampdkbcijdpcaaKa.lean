/- Contracts of mark's small calls: numbers, nodes, comparisons of two numbers. No conditions. -/
import Derived.Test.YtampdkbcijdpcaaPlb
import Derived.Deep.QuietTactic
import Derived.BigQuiet
namespace Go.Proofs.Ytampdkbcijdpcaa
open Go.RowKit
/-- What may stand on the wire. -/
def nm (n : Int) : Bool := decide (0 ≤ n ∧ n ≤ 9007199254740991)
def nd (n : Int) : Bool := decide (1 ≤ n ∧ n ≤ 8)
theorem isNumber (n : Int) (w : World) : Calls Try.prog 51 #[.int .i64 n] w fun e w' => e = .returned (.bool (nm n)) ∧ w' = w := by
  have h : 0 ≤ n ∨ n < 0 := by omega
  rcases h with h | h
  all_goals
    go_enter Try.func51, Try.ntmps51
    go_wp2
    go_ret
    refine ⟨?_, rfl⟩
    simp [nm]
    try omega
theorem isNode (n : Int) (w : World) : Calls Try.prog 52 #[.int .i64 n] w fun e w' => e = .returned (.bool (nd n)) ∧ w' = w := by
  have h : 1 ≤ n ∨ n < 1 := by omega
  rcases h with h | h
  all_goals
    go_enter Try.func52, Try.ntmps52
    go_wp2
    go_ret
    refine ⟨?_, rfl⟩
    simp [nd]
    try omega
theorem number (n : Int) (w : World) : Calls Try.prog 54 #[.int .i64 n] w fun e w' => e = .returned (.bool (nm n)) ∧ w' = w := by
  have h : 0 ≤ n ∨ n < 0 := by omega
  rcases h with h | h
  all_goals
    go_enter Try.func54, Try.ntmps54
    go_wp2
    go_ret
    refine ⟨?_, rfl⟩
    simp [nm]
    try omega
end Go.Proofs.Ytampdkbcijdpcaa
