/- A statement that draws its order and ends with a store of what was answered, for texts that tools/reg.py writes. No conditions. -/
import Derived.Test.YtampdkbcijdpcaaRgc
namespace Go.Proofs.Ytampdkbcijdpcaa
open Go.RowKit
/-- Memory around a store that ends a statement: of what was answered, into a block that is there or was made. -/
structure IS (Sx : Nat → Prop) (S dA : Nat) (ty : TypeId) (PR : World → Value → Prop) (w0 : World) (listed : Array Bool) (y : Act) (w : World) : Prop where
  mod : Mod Sx w0 w
  pre : listed.getD S false = false → Mod (fun _ => False) w0 w
  post : listed.getD S false = true → ∃ z cells, y.tmps.getD dA undef = .pointer (some ⟨z, 0, none⟩) ∧ Bk w z ty cells ∧ PR w (.agg cells)
theorem IS.keep {Sx : Nat → Prop} {S dA : Nat} {ty : TypeId} {PR : World → Value → Prop} {w0 w : World} {listed : Array Bool} {y : Act} (h : IS Sx S dA ty PR w0 listed y w) {i d : Nat} (hi : i < listed.size) (hS : i ≠ S) (hd : d ≠ dA) (v : Value) : IS Sx S dA ty PR w0 (listed.setIfInBounds i true) (y.put (some d) v) w :=
  ⟨h.mod, fun h1 => h.pre (by rw [getD_set hi, if_neg hS] at h1; exact h1), fun h1 => by
    rw [put_other hd]
    exact h.post (by rw [getD_set hi, if_neg hS] at h1; exact h1)⟩
theorem IS.call {Sx : Nat → Prop} {S dA : Nat} {ty : TypeId} {PR : World → Value → Prop} {w0 w w' : World} {listed : Array Bool} {y y' : Act} (h : IS Sx S dA ty PR w0 listed y w) {i : Nat} (hi : i < listed.size) (hS : i ≠ S) (hl : listed.getD S false = false) (hm : Mod (fun _ => False) w w') : IS Sx S dA ty PR w0 (listed.setIfInBounds i true) y' w' :=
  ⟨(h.mod.trans hm (fun _ _ h => h) (fun _ _ h => h.elim)), fun _ => (h.pre hl).trans hm (fun _ _ h => h) (fun _ _ h => h), fun h1 => by rw [getD_set hi, if_neg hS, hl] at h1; cases h1⟩
theorem not_cont {L : List (Nat × Value)} {D : List (Option Tmp)} {t : Nat} (hD : D.filterMap id = L.map (·.1)) (ht : ∀ p ∈ L, p.1 ≠ t) : D.contains (some t) = false := by
  rw [Bool.eq_false_iff]
  intro h
  have h1 : some t ∈ D := by simpa using h
  have h2 : t ∈ D.filterMap id := List.mem_filterMap.2 ⟨some t, h1, rfl⟩
  rw [hD] at h2
  obtain ⟨p, hp, e⟩ := List.mem_map.1 h2
  exact ht p hp e
end Go.Proofs.Ytampdkbcijdpcaa
