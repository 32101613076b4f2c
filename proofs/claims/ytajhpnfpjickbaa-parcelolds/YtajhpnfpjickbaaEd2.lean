/- How data as an argument read, with a bound on their body. No conditions. -/
import Derived.Test.YtajhpnfpjickbaaEd
namespace Go.Proofs.Ytajhpnfpjickbaa
open Go.ChangeShapes Go.WideShapes Go.ChangeAt Go.RowKit
variable {H : Type} {enc : TypeId × Value → H} {W : World}
set_option maxRecDepth 100000 in
theorem open_data2 {r : Reach} {base : Nat} {v : Value} {d : DataW H} {p : List MemPlace} (hv : Value.okWide Try.prog W r base 49 v) (h : DataW.Trod enc Try.prog W 0 (fun _ => true) true 49 v d p) :
    ∃ (dq dr ds dn dt k o lf i pt ps g : Int) (s : Bool) (st rs rr sq : Int) (ao : Option Addr) (cap : Nat) (l : List Int), v = .agg #[.int .i64 dq, .int .i64 dr, .int .i64 ds, .int .i64 dn, .int .i64 dt, .int .i64 k, .int .i64 o, .int .i64 lf, .int .i64 i, .int .i64 pt, .int .i64 ps, .int .i64 g, .bool s, .int .i64 st, .int .i64 rs, .int .i64 rr, .int .i64 sq, .slice ao l.length cap] ∧ Sl W (.slice ao l.length cap) l ∧
      ((-9223372036854775808 ≤ dq ∧ dq ≤ 9223372036854775807) ∧ (-9223372036854775808 ≤ dr ∧ dr ≤ 9223372036854775807) ∧ (-9223372036854775808 ≤ ds ∧ ds ≤ 9223372036854775807) ∧ (-9223372036854775808 ≤ dn ∧ dn ≤ 9223372036854775807) ∧ (-9223372036854775808 ≤ dt ∧ dt ≤ 9223372036854775807)) ∧ (∀ B, (d.weights Try.prog 49).all (· ≤ B) = true → l.length ≤ B) := by
  obtain ⟨cs, rfl, hsz⟩ := okWide_struct Try.underlying49 hv
  obtain ⟨c0, c1, c2, c3, c4, c5, c6, c7, c8, c9, c10, c11, c12, c13, c14, c15, c16, c17, rfl⟩ := array18 (hsz.trans cellsD)
  obtain ⟨fuel, hf⟩ := h
  obtain ⟨y0, y1, y2, y3, y4, m, hx, t0, t1, t2, t3, t4⟩ := trod_struct5 Try.underlying49 (by simpa [Value.cells] using hf)
  simp only [cells3, cellsR, cellsM, List.drop_zero, List.drop_succ_cons, List.take_succ_cons, List.take_zero] at t0 t1 t2 t3 t4
  obtain ⟨q, r, rfl, rfl, wq, wr⟩ := ring_cells t0
  obtain ⟨k1, e1, _, w1⟩ := DataW.trod_int Try.underlying3 t1
  obtain ⟨k2, e2, _, w2⟩ := DataW.trod_int Try.underlying3 t2
  obtain ⟨k3, e3, _, w3⟩ := DataW.trod_int Try.underlying3 t3
  simp at e1 e2 e3
  obtain ⟨k, o, lf, i, pt, ps, g, s, st, rs, rr, sq, l, ⟨rfl, rfl, rfl, rfl, rfl, rfl, rfl, rfl, rfl, rfl, rfl, rfl⟩, hs, hr, parts, d9, hd, h9, hb⟩ := msg_cells t4
  obtain ⟨ao, cap, rfl, _⟩ := hs.form
  subst e1 e2 e3
  refine ⟨q, r, k1, k2, k3, k, o, lf, i, pt, ps, g, s, st, rs, rr, sq, ao, cap, l, rfl, hs, ⟨i64_of_wf wq, i64_of_wf wr, i64_of_wf w1, i64_of_wf w2, i64_of_wf w3⟩, fun B hB => ?_⟩
  rcases hb with ⟨_, rfl⟩ | ⟨e, s', rfl, he⟩
  · simp
  · have hx1 : d = .agg [y0.1, y1.1, y2.1, y3.1, y4.1] := hx
    rw [hx1, weights_agg Try.prog Try.underlying49] at hB
    have hin : (e.length + s'.length) * Try.prog.bytesOf 5 ∈ y4.1.weights Try.prog 28 := by
      rw [hd, weights_agg Try.prog Try.underlying28]
      exact DataW.weights_mem_each (t := 26) (j := 9) rfl h9 _ (by simp [DataW.weights, Try.underlying26])
    have := List.all_eq_true.1 hB _ (DataW.weights_mem_each (t := 28) (j := 4) rfl (d := y4.1) rfl _ hin)
    rw [bytes5] at this
    simp at this
    omega
end Go.Proofs.Ytajhpnfpjickbaa
