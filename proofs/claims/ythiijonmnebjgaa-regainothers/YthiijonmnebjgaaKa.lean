/- Contracts of mark's small calls: numbers, nodes, comparisons of two numbers. No conditions. -/
import Derived.Test.YthiijonmnebjgaaPlb
import Derived.Deep.QuietTactic
import Derived.BigQuiet
namespace Go.Proofs.Ythiijonmnebjgaa
open Go.RowKit
/-- What may stand on the wire. -/
def nm (n : Int) : Bool := decide (0 ≤ n ∧ n ≤ 9007199254740991)
def nd (n : Int) : Bool := decide (1 ≤ n ∧ n ≤ 8)
theorem isNumber (n : Int) (w : World) : Calls Try.prog 29 #[.int .i64 n] w fun e w' => e = .returned (.bool (nm n)) ∧ w' = w := by
  have h : 0 ≤ n ∨ n < 0 := by omega
  rcases h with h | h
  all_goals
    go_enter Try.func29, Try.ntmps29
    go_wp2
    go_ret
    refine ⟨?_, rfl⟩
    simp [nm]
    try omega
theorem isNode (n : Int) (w : World) : Calls Try.prog 30 #[.int .i64 n] w fun e w' => e = .returned (.bool (nd n)) ∧ w' = w := by
  have h : 1 ≤ n ∨ n < 1 := by omega
  rcases h with h | h
  all_goals
    go_enter Try.func30, Try.ntmps30
    go_wp2
    go_ret
    refine ⟨?_, rfl⟩
    simp [nd]
    try omega
theorem pNumber (n : Int) (w : World) : Calls Try.prog 57 #[.int .i64 n] w fun e w' => e = .returned (.bool (nm n)) ∧ w' = w := by
  have h : 0 ≤ n ∨ n < 0 := by omega
  rcases h with h | h
  all_goals
    go_enter Try.func57, Try.ntmps57
    go_wp2
    go_ret
    refine ⟨?_, rfl⟩
    simp [nm]
    try omega
theorem pNode (n : Int) (w : World) : Calls Try.prog 56 #[.int .i64 n] w fun e w' => e = .returned (.bool (nd n)) ∧ w' = w := by
  have h : 1 ≤ n ∨ n < 1 := by omega
  rcases h with h | h
  all_goals
    go_enter Try.func56, Try.ntmps56
    go_wp2
    go_ret
    refine ⟨?_, rfl⟩
    simp [nd]
    try omega
end Go.Proofs.Ythiijonmnebjgaa
