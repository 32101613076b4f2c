/- How the laws' arguments read: a slice of pairs of ints, three ints. No conditions. -/
import Derived.Test.YtfacjnpljhgigaaZa
import Derived.Test.YtfacjnpljhgigaaRows
import Derived.ProofKit
import Derived.OpenShut
import Derived.Deep.Slices
import Derived.SizedLaws
import Derived.Lib.SmallJoins
namespace Go.Proofs.Ytfacjnpljhgigaa
open Go.ChangeShapes Go.WideShapes Go.ChangeAt Go.RowKit
theorem add_at (b off j : Nat) : (⟨b, off, none⟩ : Addr).add j = ⟨b, off + j, none⟩ := by
  simp [Addr.add]
theorem i64_of_wf {n : Int} (h : (Lit.int .i64 n).wf = true) : I64 n := by
  have := bounds_i64 h
  unfold I64
  omega
/-- A slice of pairs. -/
structure Pairs (w : World) (val : Value) (ds : List (Int × Int)) : Prop where
  form : ∃ ao cap, val = .slice ao ds.length cap ∧ ds.length ≤ maxLen ∧
    (ds ≠ [] → ∃ b off, ao = some ⟨b, off, none⟩ ∧ ∀ i d, ds[i]? = some d → w.cell? ⟨b, off + i * 2, none⟩ = some (.int .i64 d.1) ∧ w.cell? ⟨b, off + i * 2 + 1, none⟩ = some (.int .i64 d.2))
  each : ∀ d ∈ ds, I64 d.1 ∧ I64 d.2
section
variable {H : Type} {enc : TypeId × Value → H} {W : World}
theorem cellsInt : Try.prog.cellsOf 3 = 1 := by kernel_rfl
theorem cellsTwo : Try.prog.cellsOf 27 = 2 := by kernel_rfl
theorem cellsThree : Try.prog.cellsOf 29 = 3 := by kernel_rfl
theorem trod_two {fuel : Nat} {c0 c1 : Value} {x : DataW H × List MemPlace} (h : DataW.trod enc Try.prog W 0 (fun _ => true) true fuel 27 [c0, c1] = some x) :
    ∃ n y0 y1, DataW.trod enc Try.prog W 0 (fun _ => true) true n 3 [c0] = some y0 ∧ DataW.trod enc Try.prog W 0 (fun _ => true) true n 3 [c1] = some y1 := by
  match fuel, h with
  | 0, h => simp [DataW.trod] at h
  | n + 1, h =>
    refine ⟨n, ?_⟩
    unfold DataW.trod at h
    rw [Try.underlying27] at h
    simp [show List.range 2 = [0, 1] from rfl, cellsInt] at h
    replace h := h.2
    revert h
    generalize DataW.trod enc Try.prog W 0 (fun _ => true) true n 3 [c0] = a
    generalize DataW.trod enc Try.prog W 0 (fun _ => true) true n 3 [c1] = b
    intro h
    cases a <;> cases b <;> simp at h ⊢
theorem trod_three {fuel : Nat} {c0 c1 c2 : Value} {x : DataW H × List MemPlace} (h : DataW.trod enc Try.prog W 0 (fun _ => true) true fuel 29 [c0, c1, c2] = some x) :
    ∃ n y0 y1 y2, DataW.trod enc Try.prog W 0 (fun _ => true) true n 3 [c0] = some y0 ∧ DataW.trod enc Try.prog W 0 (fun _ => true) true n 3 [c1] = some y1 ∧ DataW.trod enc Try.prog W 0 (fun _ => true) true n 3 [c2] = some y2 := by
  match fuel, h with
  | 0, h => simp [DataW.trod] at h
  | n + 1, h =>
    refine ⟨n, ?_⟩
    unfold DataW.trod at h
    rw [Try.underlying29] at h
    simp [show List.range 3 = [0, 1, 2] from rfl, cellsInt] at h
    replace h := h.2
    revert h
    generalize DataW.trod enc Try.prog W 0 (fun _ => true) true n 3 [c0] = a
    generalize DataW.trod enc Try.prog W 0 (fun _ => true) true n 3 [c1] = b
    generalize DataW.trod enc Try.prog W 0 (fun _ => true) true n 3 [c2] = c
    intro h
    cases a <;> cases b <;> cases c <;> simp at h ⊢
theorem open_three {r : Reach} {base : Nat} {v : Value} {d : DataW H} {p : List MemPlace} (hv : Value.okWide Try.prog W r base 29 v) (h : DataW.Trod enc Try.prog W 0 (fun _ => true) true 29 v d p) :
    ∃ a b c : Int, v = .agg #[.int .i64 a, .int .i64 b, .int .i64 c] ∧ I64 a ∧ I64 b ∧ I64 c := by
  obtain ⟨cs, rfl, hsz⟩ : ∃ cs, v = .agg cs ∧ cs.size = Try.prog.cellsOf 29 := by
    simp only [Value.okWide, Try.underlying29] at hv
    obtain ⟨cs, h1, h2, _⟩ := hv
    exact ⟨cs, h1, h2⟩
  obtain ⟨c0, c1, c2, rfl⟩ := Joins.array3 (hsz.trans cellsThree)
  obtain ⟨fuel, hf⟩ := h
  obtain ⟨n, y0, y1, y2, t0, t1, t2⟩ := trod_three (by simpa [Value.cells] using hf)
  obtain ⟨k0, e0, _, w0⟩ := DataW.trod_int Try.underlying3 t0
  obtain ⟨k1, e1, _, w1⟩ := DataW.trod_int Try.underlying3 t1
  obtain ⟨k2, e2, _, w2⟩ := DataW.trod_int Try.underlying3 t2
  simp at e0 e1 e2
  subst e0 e1 e2
  exact ⟨k0, k1, k2, rfl, i64_of_wf w0, i64_of_wf w1, i64_of_wf w2⟩
theorem open_pairs {v : Value} {d : DataW H} {p : List MemPlace} (h : DataW.Trod enc Try.prog W 0 (fun _ => true) true 25 v d p) (hv : ∃ ao len cap, v = .slice ao len cap) :
    ∃ ds : List (Int × Int), Pairs W v ds := by
  obtain ⟨ao0, len0, cap0, rfl⟩ := hv
  obtain ⟨fuel, hf⟩ := h
  rcases Deep.open_slice Try.underlying25 hf with ⟨hcs, hx⟩ | ⟨a, len, cap, m, n, D, Pl, hcs, _, hl, hm, hmm, hx, hel⟩
  · simp [Value.cells] at hcs
    obtain ⟨rfl, rfl, rfl⟩ := hcs
    exact ⟨[], ⟨⟨none, 0, rfl, by simp [maxLen], fun h => absurd rfl h⟩, by simp⟩⟩
  · simp [Value.cells] at hcs
    obtain ⟨rfl, rfl, rfl⟩ := hcs
    simp only [if_true] at hmm
    subst hmm
    rw [cellsTwo] at hel
    have one : ∀ i, ∃ x : Int × Int, i < len0 → (W.cell? (a.add (i * 2)) = some (.int .i64 x.1) ∧ W.cell? (a.add (i * 2 + 1)) = some (.int .i64 x.2)) ∧ (I64 x.1 ∧ I64 x.2) := by
      intro i
      by_cases hi : i < len0
      · obtain ⟨cs, hcells, ht⟩ := hel i (by omega)
        obtain ⟨_, hlen, hc⟩ := World.cells?_some hcells
        match cs, hlen with
        | [c0, c1], _ =>
          obtain ⟨n2, y0, y1, t0, t1⟩ := trod_two ht
          obtain ⟨k0, e0, r0, w0⟩ := DataW.trod_int Try.underlying3 t0
          obtain ⟨k1, e1, r1, w1⟩ := DataW.trod_int Try.underlying3 t1
          simp at e0 e1
          subst e0 e1
          refine ⟨(k0, k1), fun _ => ⟨?_, ⟨i64_of_wf w0, i64_of_wf w1⟩⟩⟩
          have q0 := hc 0 (by omega)
          have q1 := hc 1 (by omega)
          simp only [Deep.add_add] at q0 q1
          simp at q0 q1
          exact ⟨q0, q1⟩
      · exact ⟨(0, 0), fun h => absurd h hi⟩
    obtain ⟨f, hfx⟩ := Classical.axiomOfChoice one
    have hdl : ((List.range len0).map f).length = len0 := by simp
    refine ⟨(List.range len0).map f, ⟨⟨some a, m, by rw [hdl], by rw [hdl]; omega, fun hne => ?_⟩, ?_⟩⟩
    · have h0 : 0 < len0 := by
        rcases Nat.eq_zero_or_pos len0 with h | h
        · subst h; simp at hne
        · exact h
      obtain ⟨b, off, spot⟩ := a
      have hc0 := (hfx 0 h0).1.1
      have hspot : spot = none := by simpa [Addr.add] using World.cell?_spot hc0
      subst hspot
      refine ⟨b, off, rfl, fun i d hd => ?_⟩
      have hi : i < len0 := by
        rcases Nat.lt_or_ge i len0 with h | h
        · exact h
        · rw [List.getElem?_eq_none (by rw [hdl]; exact h)] at hd; cases hd
      have ed : d = f i := by simpa [hi] using hd.symm
      subst ed
      have := (hfx i hi).1
      simpa only [add_at, Nat.add_assoc] using this
    · intro d hd
      obtain ⟨i, hi, rfl⟩ := List.mem_map.1 hd
      exact (hfx i (List.mem_range.1 hi)).2
end
theorem Pairs.at {w : World} {ao : Option Addr} {cap : Nat} {ds : List (Int × Int)} (h : Pairs w (.slice ao ds.length cap) ds) {k : Nat} {d : Int × Int} (hk : ds[k]? = some d) :
    ∃ b off, ao = some ⟨b, off, none⟩ ∧ ∀ w', Mod (fun _ => False) w w' → w'.cell? ⟨b, off + k * 2, none⟩ = some (.int .i64 d.1) ∧ w'.cell? ⟨b, off + k * 2 + 1, none⟩ = some (.int .i64 d.2) := by
  obtain ⟨ao', cap', e, _, h4⟩ := h.form
  simp only [Value.slice.injEq, true_and] at e
  obtain ⟨rfl, rfl⟩ := e
  obtain ⟨b, off, rfl, hc⟩ := h4 (by rintro rfl; simp at hk)
  refine ⟨b, off, rfl, fun w' hm => ?_⟩
  obtain ⟨c0, c1⟩ := hc k d hk
  exact ⟨hm.cell c0 (fun h => h), hm.cell c1 (fun h => h)⟩
theorem own : ownKnob Try.prog.godebug = none := by kernel_rfl
theorem laidOut : laidOutB Try.prog = true := by kernel_rfl
end Go.Proofs.Ytfacjnpljhgigaa
