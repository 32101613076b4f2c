/- Ring numbers and entries compared, in a statement that draws its order. No conditions. -/
import Derived.Test.YtlekmgjjjniomaaRgd
namespace Go.Proofs.Ytlekmgjjjniomaa
open Go.RowKit
section
variable {o : Oper} {w : World} {ρ : Operand → Value} {x y : Operand}
theorem rx_eqlR (ho : o.op = .binOp .eql 23 x y 23) {q r q' r' : Int} (hx : ρ x = .agg #[.int .i64 q, .int .i64 r]) (hy : ρ y = .agg #[.int .i64 q', .int .i64 r']) : (execOp ρ o).run Try.prog w = .ok (.value (.bool (decide (q = q') && decide (r = r')))) w := by
  by_cases h1 : q = q' <;> by_cases h2 : r = r' <;> simp [execOp, ho, hx, hy, go_sem, h1, h2]
theorem rx_neqR (ho : o.op = .binOp .neq 23 x y 23) {q r q' r' : Int} (hx : ρ x = .agg #[.int .i64 q, .int .i64 r]) (hy : ρ y = .agg #[.int .i64 q', .int .i64 r']) : (execOp ρ o).run Try.prog w = .ok (.value (.bool (!(decide (q = q') && decide (r = r'))))) w := by
  by_cases h1 : q = q' <;> by_cases h2 : r = r' <;> simp [execOp, ho, hx, hy, go_sem, h1, h2]
/-- Two entries, number by number. -/
def eyb (a0 a1 a2 a3 a4 a5 b0 b1 b2 b3 b4 b5 : Int) : Bool := decide (a0 = b0) && (decide (a1 = b1) && (decide (a2 = b2) && (decide (a3 = b3) && (decide (a4 = b4) && decide (a5 = b5)))))
theorem rx_neqE (ho : o.op = .binOp .neq 28 x y 28) {a0 a1 a2 a3 a4 a5 b0 b1 b2 b3 b4 b5 : Int} (hx : ρ x = .agg #[.int .i64 a0, .int .i64 a1, .int .i64 a2, .int .i64 a3, .int .i64 a4, .int .i64 a5]) (hy : ρ y = .agg #[.int .i64 b0, .int .i64 b1, .int .i64 b2, .int .i64 b3, .int .i64 b4, .int .i64 b5]) : (execOp ρ o).run Try.prog w = .ok (.value (.bool (!(eyb a0 a1 a2 a3 a4 a5 b0 b1 b2 b3 b4 b5)))) w := by
  by_cases h0 : a0 = b0
  · by_cases h1 : a1 = b1
    · by_cases h2 : a2 = b2
      · by_cases h3 : a3 = b3
        · by_cases h4 : a4 = b4
          · by_cases h5 : a5 = b5
            · simp [execOp, ho, hx, hy, go_sem, eyb, h0, h1, h2, h3, h4, h5]
            · simp [execOp, ho, hx, hy, go_sem, eyb, h0, h1, h2, h3, h4, h5]
          · simp [execOp, ho, hx, hy, go_sem, eyb, h0, h1, h2, h3, h4]
        · simp [execOp, ho, hx, hy, go_sem, eyb, h0, h1, h2, h3]
      · simp [execOp, ho, hx, hy, go_sem, eyb, h0, h1, h2]
    · simp [execOp, ho, hx, hy, go_sem, eyb, h0, h1]
  · simp [execOp, ho, hx, hy, go_sem, eyb, h0]
end
end Go.Proofs.Ytlekmgjjjniomaa
