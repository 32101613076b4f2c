/- How the laws' arguments read: a key is four ints, two numbers are two numbers of 64 bits. No conditions. -/
import Derived.Test.YtbfgnlpgfjokhaaMem
import Derived.Test.YtbfgnlpgfjokhaaRows
import Derived.ProofKit
import Derived.OpenShut
import Derived.Deep.Slices
import Derived.Deep.Strs
import Derived.SizedLaws
import Derived.Lib.SmallJoins
namespace Go.Proofs.Ytbfgnlpgfjokhaa
open Go.ChangeShapes Go.WideShapes Go.ChangeAt Go.RowKit
variable {H : Type} {enc : TypeId × Value → H} {W : World}
theorem cells3 : Try.prog.cellsOf 3 = 1 := by kernel_rfl
theorem cells23 : Try.prog.cellsOf 23 = 2 := by kernel_rfl
theorem cells25 : Try.prog.cellsOf 25 = 4 := by kernel_rfl
theorem cells33 : Try.prog.cellsOf 33 = 1 := by kernel_rfl
theorem cells34 : Try.prog.cellsOf 34 = 2 := by kernel_rfl
/-- A key's cells. -/
theorem key_cells {n : Nat} {c0 c1 c2 c3 : Value} {x : DataW H × List MemPlace} {sp : Nat → Bool} (h : DataW.trod enc Try.prog W 0 sp true n 25 [c0, c1, c2, c3] = some x) :
    ∃ s q r n : Int, c0 = .int .i64 s ∧ c1 = .int .i64 q ∧ c2 = .int .i64 r ∧ c3 = .int .i64 n ∧ (Lit.int .i64 s).wf = true ∧ (Lit.int .i64 q).wf = true ∧ (Lit.int .i64 r).wf = true ∧ (Lit.int .i64 n).wf = true := by
  obtain ⟨y0, y1, y2, m, hx, _, t0, t1, t2⟩ := Deep.trod_struct3 Try.underlying25 h
  simp only [cells3, cells23, List.drop_zero, List.drop_succ_cons, List.take_succ_cons, List.take_zero] at t0 t1 t2
  obtain ⟨z0, z1, m', _, _, u0, u1⟩ := trod_struct2 Try.underlying23 t1
  simp only [cells3, List.drop_zero, List.drop_succ_cons, List.take_succ_cons, List.take_zero] at u0 u1
  obtain ⟨k0, e0, _, w0⟩ := DataW.trod_int Try.underlying3 t0
  obtain ⟨k1, e1, _, w1⟩ := DataW.trod_int Try.underlying3 u0
  obtain ⟨k2, e2, _, w2⟩ := DataW.trod_int Try.underlying3 u1
  obtain ⟨k3, e3, _, w3⟩ := DataW.trod_int Try.underlying3 t2
  simp at e0 e1 e2 e3
  exact ⟨k0, k1, k2, k3, e0, e1, e2, e3, w0, w1, w2, w3⟩
theorem open_key {r : Reach} {base : Nat} {v : Value} {d : DataW H} {p : List MemPlace} (hv : Value.okWide Try.prog W r base 25 v) (h : DataW.Trod enc Try.prog W 0 (fun _ => true) true 25 v d p) :
    ∃ s q r n : Int, v = .agg #[.int .i64 s, .int .i64 q, .int .i64 r, .int .i64 n] := by
  obtain ⟨cs, rfl, hsz⟩ := okWide_struct Try.underlying25 hv
  obtain ⟨c0, c1, c2, c3, rfl⟩ := Joins.array4 (hsz.trans cells25)
  obtain ⟨fuel, hf⟩ := h
  obtain ⟨s, q, r, n, rfl, rfl, rfl, rfl, _⟩ := key_cells (by simpa [Value.cells] using hf)
  exact ⟨s, q, r, n, rfl⟩
theorem open_two {r : Reach} {base : Nat} {v : Value} {d : DataW H} {p : List MemPlace} (hv : Value.okWide Try.prog W r base 34 v) (h : DataW.Trod enc Try.prog W 0 (fun _ => true) true 34 v d p) :
    ∃ a b : Int, v = .agg #[.int .u64 a, .int .u64 b] ∧ (0 ≤ a ∧ a < 18446744073709551616) ∧ (0 ≤ b ∧ b < 18446744073709551616) := by
  obtain ⟨cs, rfl, hsz⟩ : ∃ cs, v = .agg cs ∧ cs.size = Try.prog.cellsOf 34 := by
    simp only [Value.okWide, Try.underlying34] at hv
    obtain ⟨cs, h1, h2, _⟩ := hv
    exact ⟨cs, h1, h2⟩
  obtain ⟨c0, c1, rfl⟩ := Joins.array2 (hsz.trans cells34)
  obtain ⟨fuel, hf⟩ := h
  cases fuel with
  | zero => simp [DataW.trod] at hf
  | succ n =>
    unfold DataW.trod at hf
    rw [Try.underlying34] at hf
    have r2 : List.range 2 = [0, 1] := rfl
    simp [r2, cells33, Value.cells] at hf
    obtain ⟨_, hf⟩ := hf
    cases h0 : DataW.trod enc Try.prog W 0 (fun _ => true) true n 33 [c0] with
    | none => simp [h0] at hf
    | some y0 =>
      cases h1 : DataW.trod enc Try.prog W 0 (fun _ => true) true n 33 [c1] with
      | none => simp [h0, h1] at hf
      | some y1 =>
        obtain ⟨k0, e0, _, w0⟩ := DataW.trod_int Try.underlying33 h0
        obtain ⟨k1, e1, _, w1⟩ := DataW.trod_int Try.underlying33 h1
        simp at e0 e1
        subst e0 e1
        have b0 := bounds_u64 w0
        have b1 := bounds_u64 w1
        exact ⟨k0, k1, rfl, by omega, by omega⟩
theorem own : ownKnob Try.prog.godebug = none := by kernel_rfl
theorem laidOut : laidOutB Try.prog = true := by kernel_rfl
end Go.Proofs.Ytbfgnlpgfjokhaa
