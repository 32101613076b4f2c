/- Contracts of the reader's calls: number, Get, Octets, Fixed, Left, for every slice of bytes and every reader. No conditions beyond sizes that a slice of bytes has. -/
import Derived.Test.YtampdkbcijdpcaaWb
namespace Go.Proofs.Ytampdkbcijdpcaa
open Go.RowKit
/-- A slice cut at its front. -/
theorem Sl.drop {w : World} {ao : Option Addr} {cap : Nat} {l : List Int} (h : Sl w (.slice ao l.length cap) l) (k : Nat) (hk : k ≤ l.length) :
    Sl w (.slice (if cap = k then ao else ao.map (·.add (k * 1))) (l.length - k) (cap - k)) (l.drop k) := by
  obtain ⟨ao', cap', e, h1, h2, h3, h4⟩ := h.form
  simp only [Value.slice.injEq, true_and] at e
  obtain ⟨rfl, rfl⟩ := e
  refine ⟨⟨_, _, by rw [List.length_drop], by rw [List.length_drop]; omega, by omega, ?_, ?_⟩, fun c hc => h.rng c (List.mem_of_mem_drop hc)⟩
  · split
    · intro _; omega
    · intro e; cases ao with
      | none => have := h3 rfl; omega
      | some a => simp at e
  · intro hl
    have hk2 : k < l.length := by
      rcases Nat.lt_or_ge k l.length with h | h
      · exact h
      · exact absurd (List.drop_eq_nil_of_le h) hl
    obtain ⟨b, off, rfl, hc⟩ := h4 (by intro e; subst e; simp at hk2)
    rw [if_neg (by omega)]
    refine ⟨b, off + k, by simp [add_at], fun j hj => ?_⟩
    rw [List.length_drop] at hj
    have := hc (k + j) (by omega)
    rw [Nat.add_assoc, this]
    simp [List.getElem?_drop]
theorem Sl.drop_blk {ao : Option Addr} {cap n k m : Nat} : ∀ g, (Value.slice (if cap = k then ao else ao.map (·.add (k * 1))) n m).ownBlock = some g → (Value.slice ao n cap).ownBlock = some g := by
  intro g hg
  split at hg
  · cases ao with
    | none => simp [Value.ownBlock] at hg
    | some a => simpa [Value.ownBlock] using hg
  · cases ao with
    | none => simp [Value.ownBlock] at hg
    | some a =>
      have : (a.add (k * 1)).block = a.block := by unfold Addr.add; split <;> rfl
      simp only [Value.ownBlock, Option.map_some, this] at hg
      exact hg
/-- A reader that has read k bytes. -/
theorem Rd.stored {w : World} {p cap : Nat} {ao : Option Addr} {l : List Int} (h : Rd w p (.slice ao l.length cap) l) (k : Nat) (hk : k ≤ l.length) (v' : Value)
    (hv : v' = .slice (if cap = k then ao else ao.map (·.add (k * 1))) (l.length - k) (cap - k)) :
    Rd (w.setCell ⟨p, 1, none⟩ v') p v' (l.drop k) ∧ Mod (fun i => i = p) w (w.setCell ⟨p, 1, none⟩ v') ∧ (∀ g, v'.ownBlock = some g → (Value.slice ao l.length cap).ownBlock = some g) := by
  have hm : Mod (fun i => i = p) w (w.setCell ⟨p, 1, none⟩ v') := (Mod.refl _ w).setCell _ _ (.inl rfl)
  have hb : ∀ g, v'.ownBlock = some g → (Value.slice ao l.length cap).ownBlock = some g := by
    intro g hg
    subst hv
    have := Sl.drop_blk g hg
    cases ao with
    | none => simp [Value.ownBlock] at this
    | some a => simpa [Value.ownBlock] using this
  refine ⟨⟨two_setCell h.blk, ?_, fun e => h.ne (hb _ e)⟩, hm, hb⟩
  subst hv
  exact (h.sl.drop k hk).mod hm (fun g hg e => h.ne (e ▸ hb g hg))
/-- What Octets answers for an error. -/
def octE (most : Int) (l : List Int) : Int :=
  if (num 0 0 l).2.2 ≠ 0 then (num 0 0 l).2.2 else if most < (num 0 0 l).1 then 5 else if (l.length : Int) - (num 0 0 l).2.1 < (num 0 0 l).1 then 3 else 0
/-- A slice cut at both ends. -/
theorem Sl.cut {w : World} {ao : Option Addr} {cap : Nat} {l : List Int} (h : Sl w (.slice ao l.length cap) l) (k m : Nat) (hk : k ≤ m) (hm : m ≤ l.length) :
    Sl w (.slice (if cap = k then ao else ao.map (·.add (k * 1))) (m - k) (cap - k)) ((l.drop k).take (m - k)) := by
  have h2 := h.drop k (by omega)
  obtain ⟨ao', cap', e, g1, g2, g3, g4⟩ := h2.form
  simp only [Value.slice.injEq] at e
  obtain ⟨e1, e2, e3⟩ := e
  subst e1 e3
  have hl : ((l.drop k).take (m - k)).length = m - k := by simp; omega
  refine ⟨⟨_, _, by rw [hl], by rw [hl]; omega, g2, g3, ?_⟩, fun c hc => h2.rng c (List.mem_of_mem_take hc)⟩
  intro hne
  obtain ⟨b, off, e, hc⟩ := g4 (by intro e; rw [e] at hne; simp at hne)
  refine ⟨b, off, e, fun j hj => ?_⟩
  rw [hl] at hj
  rw [hc j (by simp; omega)]
  simp [hj]
/-- What Fixed answers for an error. -/
def fixE (size : Int) (l : List Int) : Int :=
  if size < 1 ∨ 8 < size then 2 else if (l.length : Int) < size then 3 else if 9223372036854775807 < fx (l.take size.toNat) then 9 else 0
end Go.Proofs.Ytampdkbcijdpcaa
