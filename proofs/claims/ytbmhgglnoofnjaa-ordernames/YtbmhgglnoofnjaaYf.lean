/- Contracts of a window's Gaps and numbersAbove. Conditions: numbers of an int; as many data as a map can have. -/
import Derived.Test.YtbmhgglnoofnjaaYe
import Derived.OpenShut
namespace Go.Proofs.Ytbmhgglnoofnjaa
open Go.RowKit Go.Maps
theorem Bk.cellz {w : World} {b : Nat} {t : TypeId} {u : Value} {r : List Value} (h : Bk w b t (u :: r).toArray) : w.cell? ⟨b, 0, none⟩ = some u := h.cellv (j := 0) (by simp)
theorem wf_i64y {n : Int} (h : (Lit.int .i64 n).wf = true) : -9223372036854775808 ≤ n ∧ n ≤ 9223372036854775807 := by
  have := bounds_i64 h
  omega

theorem keyI {key : Value} {z : Lit} (h : keyOf Try.prog 3 key = some z) : ∃ x, key = .int .i64 x ∧ z = kl x ∧ I64 x := by
  obtain ⟨x, rfl, rfl, hwf⟩ := Maps.keyOf_int_inv Try.underlying3 h
  refine ⟨x, rfl, rfl, ?_⟩
  have := wf_i64y hwf
  unfold I64
  omega
/-- The numbers met so far. -/
def Met' (D : DataW Value) (left : Lit → Bool) (s : Int) (zs : List Int) : Prop := zs.Nodup ∧ ∀ x, x ∈ zs ↔ (s < x ∧ I64 x ∧ Maps.has D (kl x) = true ∧ left (kl x) = false)
theorem Met'.start (D : DataW Value) (s : Int) : Met' D (Maps.has D) s [] := ⟨List.nodup_nil, fun x => by cases Maps.has D (kl x) <;> simp⟩
theorem Met'.step {D : DataW Value} {left : Lit → Bool} {s : Int} {zs : List Int} (h : Met' D left s zs) {x : Int} {y : DataW Value} (hx : I64 x) (hlk : left (kl x) = true) (hat : ∀ zd, D.atKey (kl x) zd = y) (hs : s < x) : Met' D (fun z => left z && !z.sameKey (kl x)) s (zs ++ [x]) := by
  have hhas : Maps.has D (kl x) = true := has_true_of_atKey hat
  have hnew : x ∉ zs := fun hx => by have := ((h.2 x).1 hx).2.2.2; rw [hlk] at this; cases this
  refine ⟨List.nodup_append.2 ⟨h.1, by simp, fun a ha b hb => by simp at hb; subst hb; exact fun e => hnew (e ▸ ha)⟩, fun y => ?_⟩
  by_cases hy : y = x
  · subst hy
    rw [show Maps.has D (kl y) = true from hhas]
    simp [Lit.sameKey, kl, hs, hx]
  · simp [h.2 y, hy, Lit.sameKey, kl]
theorem Met'.skip {D : DataW Value} {left : Lit → Bool} {s : Int} {zs : List Int} (h : Met' D left s zs) {x : Int} (hs : ¬ s < x) : Met' D (fun z => left z && !z.sameKey (kl x)) s zs := by
  refine ⟨h.1, fun y => ?_⟩
  rw [h.2 y]
  by_cases hy : y = x
  · subst hy; simp [hs]
  · simp [hy, Lit.sameKey, kl]
theorem ranges_mod {S : Nat → Prop} {w w' : World} {B r N : Nat} {D : DataW Value} {left : Lit → Bool} {cnt : Nat} (h : w.ranges Try.prog 3 hE B r N D left cnt) (hm : Mod S w w') (hB : ¬ S B) (hr : ¬ S r) : w'.ranges Try.prog 3 hE B r N D left cnt := by
  obtain ⟨es, clock, since, seen, c0, hb, F, hs, hD, hi, rest⟩ := h
  exact ⟨es, clock, since, seen, c0, hm.obj hb hB, F, hs, hD, hm.obj hi hr, rest⟩
theorem row_ne_iterI {w : World} {v : Value} {l : List Int} {B r N : Nat} {D : DataW Value} {left : Lit → Bool} {cnt : Nat} (h : Cr.Own w v l) (hr : w.ranges Try.prog 3 hE B r N D left cnt) : v.ownBlock ≠ some r ∧ v.ownBlock ≠ some B := by
  obtain ⟨es, clock, since, seen, c0, hb, _, _, _, hi, _⟩ := hr
  constructor
  · intro e
    obtain ⟨cur, hc⟩ := h.kind e
    rw [hc] at hi
    cases hi
  · intro e
    obtain ⟨cur, hc⟩ := h.kind e
    rw [hc] at hb
    cases hb
end Go.Proofs.Ytbmhgglnoofnjaa
