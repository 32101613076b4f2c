/- Single operations of a statement that draws its order, for texts that tools/reg.py writes. No conditions. -/
import Derived.Test.YtampdkbcijdpcaaFri
import Derived.Test.YtampdkbcijdpcaaWi
namespace Go.Proofs.Ytampdkbcijdpcaa
open Go.RowKit
section
variable {o : Oper} {w : World} {ρ : Operand → Value} {x y z : Operand} {t : TypeId}
theorem rx_eql (ho : o.op = .binOp .eql 3 x y 3) {c d : Int} (hx : ρ x = .int .i64 c) (hy : ρ y = .int .i64 d) : (execOp ρ o).run Try.prog w = .ok (.value (.bool (c == d))) w := by
  simp [execOp, ho, hx, hy, go_sem]
theorem rx_neq (ho : o.op = .binOp .neq 3 x y 3) {c d : Int} (hx : ρ x = .int .i64 c) (hy : ρ y = .int .i64 d) : (execOp ρ o).run Try.prog w = .ok (.value (.bool (c != d))) w := by
  simp [execOp, ho, hx, hy, go_sem]
theorem rx_neqT {t : TypeId} (ho : o.op = .binOp .neq t x y t) {c d : Int} (hx : ρ x = .int .i64 c) (hy : ρ y = .int .i64 d) : (execOp ρ o).run Try.prog w = .ok (.value (.bool (c != d))) w := by
  simp [execOp, ho, hx, hy, go_sem]
theorem rx_eqlT {t : TypeId} (ho : o.op = .binOp .eql t x y t) {c d : Int} (hx : ρ x = .int .i64 c) (hy : ρ y = .int .i64 d) : (execOp ρ o).run Try.prog w = .ok (.value (.bool (c == d))) w := by
  simp [execOp, ho, hx, hy, go_sem]
theorem rx_neqB (ho : o.op = .binOp .neq 4 x y 4) {c d : Bool} (hx : ρ x = .bool c) (hy : ρ y = .bool d) : (execOp ρ o).run Try.prog w = .ok (.value (.bool (c != d))) w := by
  cases c <;> cases d <;> simp [execOp, ho, hx, hy, go_sem]
theorem rx_lss (ho : o.op = .binOp .lss 3 x y 3) {c d : Int} (hx : ρ x = .int .i64 c) (hy : ρ y = .int .i64 d) : (execOp ρ o).run Try.prog w = .ok (.value (.bool (decide (c < d)))) w := by
  simp [execOp, ho, hx, hy, go_sem]
theorem rx_leq (ho : o.op = .binOp .leq 3 x y 3) {c d : Int} (hx : ρ x = .int .i64 c) (hy : ρ y = .int .i64 d) : (execOp ρ o).run Try.prog w = .ok (.value (.bool (decide (c ≤ d)))) w := by
  simp [execOp, ho, hx, hy, go_sem]
theorem rx_gtr (ho : o.op = .binOp .gtr 3 x y 3) {c d : Int} (hx : ρ x = .int .i64 c) (hy : ρ y = .int .i64 d) : (execOp ρ o).run Try.prog w = .ok (.value (.bool (decide (d < c)))) w := by
  simp [execOp, ho, hx, hy, go_sem]
theorem rx_add (ho : o.op = .binOp .add 3 x y 3) {c d : Int} (hx : ρ x = .int .i64 c) (hy : ρ y = .int .i64 d) : (execOp ρ o).run Try.prog w = .ok (.value (.int .i64 (IntKind.i64.wrap (c + d)))) w := by
  simp [execOp, ho, hx, hy, go_sem]
theorem rx_sub (ho : o.op = .binOp .sub 3 x y 3) {c d : Int} (hx : ρ x = .int .i64 c) (hy : ρ y = .int .i64 d) : (execOp ρ o).run Try.prog w = .ok (.value (.int .i64 (IntKind.i64.wrap (c - d)))) w := by
  simp [execOp, ho, hx, hy, go_sem]
theorem rx_mul (ho : o.op = .binOp .mul 3 x y 3) {c d : Int} (hx : ρ x = .int .i64 c) (hy : ρ y = .int .i64 d) : (execOp ρ o).run Try.prog w = .ok (.value (.int .i64 (IntKind.i64.wrap (c * d)))) w := by
  simp [execOp, ho, hx, hy, go_sem]
theorem rx_rem (ho : o.op = .binOp .rem 3 x y 3) {c d : Int} (hx : ρ x = .int .i64 c) (hy : ρ y = .int .i64 d) (hd : d ≠ 0) : (execOp ρ o).run Try.prog w = .ok (.value (.int .i64 (c.tmod d))) w := by
  simp [execOp, ho, hx, hy, hd, go_sem]
theorem rx_min (ho : o.op = .call { callee := .builtin .min, args := #[x, y], argTypes := #[3, 3] }) {c d : Int} (hx : ρ x = .int .i64 c) (hy : ρ y = .int .i64 d) : (execOp ρ o).run Try.prog w = .ok (.value (.int .i64 (if d < c then d else c))) w := by
  by_cases h : d < c <;> simp [execOp, ho, resolve, invoke, hx, hy, go_sem, h]
theorem rx_max (ho : o.op = .call { callee := .builtin .max, args := #[x, y], argTypes := #[3, 3] }) {c d : Int} (hx : ρ x = .int .i64 c) (hy : ρ y = .int .i64 d) : (execOp ρ o).run Try.prog w = .ok (.value (.int .i64 (if c < d then d else c))) w := by
  by_cases h : c < d <;> simp [execOp, ho, resolve, invoke, hx, hy, go_sem, h]
theorem rx_assign (ho : o.op = .assign x) {v : Value} (hx : ρ x = v) : (execOp ρ o).run Try.prog w = .ok (.value v) w := by simp [execOp, ho, hx]
theorem rx_extract {i : Nat} {u : Array Value} {v : Value} (ho : o.op = .extract x i) (hx : ρ x = .tuple u) (hu : u[i]? = some v) : (execOp ρ o).run Try.prog w = .ok (.value v) w := by
  simp [execOp, ho, hx, hu, go_sem]
theorem rx_build {parts : Array (Nat × Operand)} (ho : o.op = .build t parts) {cells : Array Value} (h : Try.prog.built t (parts.map fun (i, x) => (i, ρ x)).toList = some cells) : (execOp ρ o).run Try.prog w = .ok (.value (.agg cells)) w := by
  simp only [execOp, ho, Sem.run_bind, run_build w t _ cells h, Result.andThen_ok]
  rfl
theorem rx_call3 {f : FuncId} (hcf : ∀ args w, (callFunc f args).run Try.prog w = .ok (.enter f args) w) (hf : ρ (.func f) = .func (.func f) #[] #[]) {ts : Array TypeId} (ho : o.op = .call { callee := .value (.func f), args := #[x, y, z], argTypes := ts }) : (execOp ρ o).run Try.prog w = .ok (.enter f #[ρ x, ρ y, ρ z]) w := by
  simp [execOp, ho, resolve, invoke, hf, go_sem, hcf]
/-- A guard that was met, or not. -/
theorem wanted_if {ops : Array Oper} {a : Act} {o : Oper} {j : Nat} {g : Bool} {d : Tmp} {op : Op} {gg : Option (Nat × Bool)} {ws : List Nat} (E : Is ops j (some d) op gg ws) (h : o.guard = some (j, g)) (hlt : d < a.tmps.size) {c C : Bool} (hv : a.tmps.getD d undef = if C = true then .bool c else undef) : Region.wanted o (yielded ops a.tmps) = (C && (c == g)) := by
  cases C
  · exact wanted_none' E h hlt hv
  · obtain ⟨o', h1, h2, _⟩ := E.ex
    exact wanted_at h h1 h2 hlt hv
theorem wanted_b {ops : Array Oper} {a : Act} {o : Oper} {j : Nat} {g : Bool} {d : Tmp} {op : Op} {gg : Option (Nat × Bool)} {ws : List Nat} (E : Is ops j (some d) op gg ws) (h : o.guard = some (j, g)) (hlt : d < a.tmps.size) {c : Bool} (hv : a.tmps.getD d undef = .bool c) : Region.wanted o (yielded ops a.tmps) = (c == g) := by
  obtain ⟨o', h1, h2, _⟩ := E.ex
  exact wanted_at h h1 h2 hlt hv
end
end Go.Proofs.Ytampdkbcijdpcaa
