/- Arrays of joins in a block; gatherings that hear the same. No conditions. -/
import Derived.Test.YtmfdgbdcbfppcaaDi
import Derived.Deep.DeepCutAuto
namespace Go.Proofs.Ytmfdgbdcbfppcaa
open Go.RowKit
/-- A block of N joins. -/
structure Aj (w : World) (q : Nat) (t : TypeId) (N : Nat) (F : Nat → J3) : Prop where
  at' : ∃ xs, Bk w q t xs ∧ xs.size = N * 3 ∧ ∀ i, i < N → xs[i * 3]? = some (.int .i64 (F i).s) ∧ xs[i * 3 + 1]? = some (.int .i64 (F i).p) ∧ xs[i * 3 + 2]? = some (.int .i64 (F i).c)
section
variable {w : World} {q : Nat} {t : TypeId} {N : Nat} {F : Nat → J3}
theorem Aj.cell0 (h : Aj w q t N F) {i : Nat} (hi : i < N) : w.cell? ⟨q, i * 3, none⟩ = some (.int .i64 (F i).s) := by
  obtain ⟨xs, hb, _, hx⟩ := h.at'
  exact hb.cellv (hx i hi).1
theorem Aj.cell1 (h : Aj w q t N F) {i : Nat} (hi : i < N) : w.cell? ⟨q, i * 3 + 1, none⟩ = some (.int .i64 (F i).p) := by
  obtain ⟨xs, hb, _, hx⟩ := h.at'
  exact hb.cellv (hx i hi).2.1
theorem Aj.cell2 (h : Aj w q t N F) {i : Nat} (hi : i < N) : w.cell? ⟨q, i * 3 + 2, none⟩ = some (.int .i64 (F i).c) := by
  obtain ⟨xs, hb, _, hx⟩ := h.at'
  exact hb.cellv (hx i hi).2.2
theorem Aj.frz (h : Aj w q t N F) (j : Nat) : w.frozen? ⟨q, j, none⟩ = false := by
  obtain ⟨xs, hb, _⟩ := h.at'
  exact hb.frz j
theorem Aj.lt (h : Aj w q t N F) : q < w.heap.size := by
  obtain ⟨xs, hb, _⟩ := h.at'
  exact hb.lt
theorem Aj.mod {S : Nat → Prop} {w' : World} (h : Aj w q t N F) (hm : Mod S w w') (hq : ¬ S q) : Aj w' q t N F := by
  obtain ⟨xs, hb, r⟩ := h.at'
  exact ⟨xs, hb.mod hm hq, r⟩
theorem Aj.store (h : Aj w q t N F) {i : Nat} (hi : i < N) (x : J3) : Aj (((w.setCell ⟨q, i * 3, none⟩ (.int .i64 x.s)).setCell ⟨q, i * 3 + 1, none⟩ (.int .i64 x.p)).setCell ⟨q, i * 3 + 2, none⟩ (.int .i64 x.c)) q t N (fun j => if j = i then x else F j) := by
  obtain ⟨xs, hb, hs, hx⟩ := h.at'
  refine ⟨_, ((hb.set (i * 3) _).set (i * 3 + 1) _).set (i * 3 + 2) _, by simp [hs], fun j hj => ?_⟩
  simp only [Array.getElem?_setIfInBounds, Array.size_setIfInBounds, hs]
  by_cases e : j = i
  · subst e
    have l0 : j * 3 < N * 3 := by omega
    have l1 : j * 3 + 1 < N * 3 := by omega
    have l2 : j * 3 + 2 < N * 3 := by omega
    simp [l0, l1, l2]
  · obtain ⟨y0, y1, y2⟩ := hx j hj
    have n0 : ∀ a b : Nat, a < 3 → b < 3 → ¬ i * 3 + a = j * 3 + b := fun a b ha hb => by omega
    have m0 : ∀ b : Nat, b < 3 → ¬ i * 3 = j * 3 + b := fun b hb => by omega
    have m1 : ∀ a : Nat, a < 3 → ¬ i * 3 + a = j * 3 := fun a ha => by omega
    have m2 : ¬ i * 3 = j * 3 := by omega
    refine ⟨?_, ?_, ?_⟩
    · rw [if_neg (m1 2 (by omega)), if_neg (m1 1 (by omega)), if_neg m2, y0, if_neg e]
    · rw [if_neg (n0 2 1 (by omega) (by omega)), if_neg (n0 1 1 (by omega) (by omega)), if_neg (m0 1 (by omega)), y1, if_neg e]
    · rw [if_neg (n0 2 2 (by omega) (by omega)), if_neg (n0 1 2 (by omega) (by omega)), if_neg (m0 2 (by omega)), y2, if_neg e]
theorem Aj.stored (q i : Nat) (x : J3) (w : World) : Mod (fun k => k = q) w (((w.setCell ⟨q, i * 3, none⟩ (.int .i64 x.s)).setCell ⟨q, i * 3 + 1, none⟩ (.int .i64 x.p)).setCell ⟨q, i * 3 + 2, none⟩ (.int .i64 x.c)) :=
  (((Mod.refl (fun k => k = q) w).setCell _ _ (.inl rfl)).setCell _ _ (.inl rfl)).setCell _ _ (.inl rfl)
end
def z3 : J3 := ⟨0, 0, 0⟩
theorem Aj.new (w : World) (t : TypeId) (N : Nat) (xs : Array Value) (h : xs = Array.replicate (N * 3) (.int .i64 0)) : Aj (w.alloc (.cells xs t)) w.heap.size t N (fun _ => z3) := by
  subst h
  refine ⟨_, Bk.new w _ t, by simp, fun i hi => ?_⟩
  simp [z3, Array.getElem?_replicate]
  omega
end Go.Proofs.Ytmfdgbdcbfppcaa
