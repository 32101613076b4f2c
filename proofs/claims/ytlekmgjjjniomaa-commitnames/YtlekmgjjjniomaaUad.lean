/- The arguments of CommitSteps: how long a commit's entries can be. -/
import Derived.Test.YtlekmgjjjniomaaUi
import Derived.Test.YtlekmgjjjniomaaUac
namespace Go.Proofs.Ytlekmgjjjniomaa
open Go.RowKit
section
variable {H : Type} {enc : TypeId × Value → H} {W : World}
open Go.ChangeShapes Go.WideShapes Go.ChangeAt
theorem bytesE : Try.prog.bytesOf 28 = 48 := by kernel_rfl
theorem trodS4w {P : Program} {w : World} {base : Nat} {spare : Nat → Bool} {held : Bool} {t : TypeId} {f0 f1 f2 f3 : Field} {fuel : Nat} {cs : List Value} {x : DataW H × List MemPlace} (ht : P.underlying t = some (.struct #[f0, f1, f2, f3])) (h : DataW.trod enc P w base spare held fuel t cs = some x) :
    ∃ (y0 y1 y2 y3 : DataW H × List MemPlace) (n : Nat), x.1 = .agg [y0.1, y1.1, y2.1, y3.1] ∧ DataW.trod enc P w base spare held n f3.type ((cs.drop f3.offset).take (P.cellsOf f3.type)) = some y3 := by
  obtain ⟨xs, n, _, rfl, hl, hlen, hf⟩ := DataW.trod_struct ht h
  match xs, hlen with
  | [y0, y1, y2, y3], _ => exact ⟨y0, y1, y2, y3, n, rfl, by simpa using hf 3 f3 rfl⟩
theorem weights_aggE (P : Program) {t : TypeId} {fs : Array Field} (hu : P.underlying t = some (.struct fs)) (parts : List (DataW H)) : (DataW.agg parts).weights P t = DataW.weightsEach P (fs.toList.map (·.type)) parts := by
  rw [DataW.weights, hu]
theorem slE_weight {fuel : Nat} {ao : Option Addr} {nn cap : Nat} {x : DataW H × List MemPlace} (h : DataW.trod enc Try.prog W 0 (fun _ => true) true fuel 24 [.slice ao nn cap] = some x) (B : Nat) (hB : ∀ k ∈ x.1.weights Try.prog 24, k ≤ B) : nn * 48 ≤ B := by
  rcases Deep.open_slice Try.underlying24 h with ⟨hcs, hx⟩ | ⟨a, len, cap, m, n, D, Pl, hcs, _, hl, hm, hmm, hx, hel⟩
  · cases hcs
    simp
  · cases hcs
    subst hx
    have := hB (((List.map D (List.range nn)).length + (List.map (fun j => D (nn + j)) (List.range (m - nn))).length) * Try.prog.bytesOf 28) (by simp [DataW.weights, Try.underlying24])
    rw [bytesE] at this
    simp at this
    omega
set_option maxRecDepth 100000 in
theorem commit_len {v : Value} {c : Cm} {d : DataW H} {p : List MemPlace} (hc : Cv W v c) (h : DataW.Trod enc Try.prog W 0 (fun _ => true) true 26 v d p) (B : Nat) (hB : ∀ k ∈ d.weights Try.prog 26, k ≤ B) : c.es.length * 48 ≤ B := by
  obtain ⟨ao, cap, rfl, _⟩ := hc.form
  obtain ⟨fuel, hf⟩ := h
  obtain ⟨y0, y1, y2, y3, n, hx, t3⟩ := trodS4w Try.underlying26 (by simpa [Value.cells] using hf)
  simp only [cellsL, List.drop_zero, List.drop_succ_cons, List.take_succ_cons, List.take_zero] at t3
  simp only at hx
  subst hx
  refine slE_weight t3 B fun k hk => hB k ?_
  rw [weights_aggE Try.prog Try.underlying26]
  exact DataW.weights_mem_each (t := 24) (j := 3) rfl rfl k hk
end
end Go.Proofs.Ytlekmgjjjniomaa
