/- Contracts of mark's small calls: numbers, nodes, comparisons of two numbers. No conditions. -/
import Derived.Test.YtifogbhlphofjaaPlb
import Derived.Deep.QuietTactic
import Derived.BigQuiet
namespace Go.Proofs.Ytifogbhlphofjaa
open Go.RowKit
/-- What may stand on the wire. -/
def nm (n : Int) : Bool := decide (0 ≤ n ∧ n ≤ 9007199254740991)
def nd (n : Int) : Bool := decide (1 ≤ n ∧ n ≤ 8)
theorem isNumber (n : Int) (w : World) : Calls Try.prog 71 #[.int .i64 n] w fun e w' => e = .returned (.bool (nm n)) ∧ w' = w := by
  have h : 0 ≤ n ∨ n < 0 := by omega
  rcases h with h | h
  all_goals
    go_enter Try.func71, Try.ntmps71
    go_wp2
    go_ret
    refine ⟨?_, rfl⟩
    simp [nm]
    try omega
theorem isNode (n : Int) (w : World) : Calls Try.prog 75 #[.int .i64 n] w fun e w' => e = .returned (.bool (nd n)) ∧ w' = w := by
  have h : 1 ≤ n ∨ n < 1 := by omega
  rcases h with h | h
  all_goals
    go_enter Try.func75, Try.ntmps75
    go_wp2
    go_ret
    refine ⟨?_, rfl⟩
    simp [nd]
    try omega
theorem number (n : Int) (w : World) : Calls Try.prog 42 #[.int .i64 n] w fun e w' => e = .returned (.bool (nm n)) ∧ w' = w := by
  have h : 0 ≤ n ∨ n < 0 := by omega
  rcases h with h | h
  all_goals
    go_enter Try.func42, Try.ntmps42
    go_wp2
    go_ret
    refine ⟨?_, rfl⟩
    simp [nm]
    try omega
theorem pNumber (n : Int) (w : World) : Calls Try.prog 60 #[.int .i64 n] w fun e w' => e = .returned (.bool (nm n)) ∧ w' = w := by
  have h : 0 ≤ n ∨ n < 0 := by omega
  rcases h with h | h
  all_goals
    go_enter Try.func60, Try.ntmps60
    go_wp2
    go_ret
    refine ⟨?_, rfl⟩
    simp [nm]
    try omega
theorem pNode (n : Int) (w : World) : Calls Try.prog 59 #[.int .i64 n] w fun e w' => e = .returned (.bool (nd n)) ∧ w' = w := by
  have h : 1 ≤ n ∨ n < 1 := by omega
  rcases h with h | h
  all_goals
    go_enter Try.func59, Try.ntmps59
    go_wp2
    go_ret
    refine ⟨?_, rfl⟩
    simp [nd]
    try omega
theorem dNumber (n : Int) (w : World) : Calls Try.prog 37 #[.int .i64 n] w fun e w' => e = .returned (.bool (nm n)) ∧ w' = w := by
  have h : 0 ≤ n ∨ n < 0 := by omega
  rcases h with h | h
  all_goals
    go_enter Try.func37, Try.ntmps37
    go_wp2
    go_ret
    refine ⟨?_, rfl⟩
    simp [nm]
    try omega
theorem dNode (n : Int) (w : World) : Calls Try.prog 36 #[.int .i64 n] w fun e w' => e = .returned (.bool (nd n)) ∧ w' = w := by
  have h : 1 ≤ n ∨ n < 1 := by omega
  rcases h with h | h
  all_goals
    go_enter Try.func36, Try.ntmps36
    go_wp2
    go_ret
    refine ⟨?_, rfl⟩
    simp [nd]
    try omega
end Go.Proofs.Ytifogbhlphofjaa
