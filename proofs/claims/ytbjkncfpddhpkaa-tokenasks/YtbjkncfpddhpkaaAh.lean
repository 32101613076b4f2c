/- TokenSettles: what is said of the rounds, in plain words. No conditions. -/
import Derived.Test.YtbjkncfpddhpkaaAg
namespace Go.Proofs.Ytbjkncfpddhpkaa
open Go.RowKit
/-- How it stands ahead of visit i among n nodes, all of which have all. -/
structure Pl (n sq : Int) (i : Nat) (ar lw : Int) (lf sf : Nat → Int) : Prop where
  low : lw ≤ n
  way : i = 0 ∨ (lw = 0 ∧ ar = sq) ∨ (i : Int) < lw
  lft : ∀ j : Nat, (j : Int) < n → n + j < i → lf j = sq
  saf : ∀ j : Nat, (j : Int) < n → 2 * n + j < i → sf j = sq
  top : ∀ j, sf j ≤ sq
theorem Pl.start {n sq ar lw : Int} (h : lw ≤ n) (hs : 0 ≤ sq) (_hn : 0 < n) : Pl n sq 0 ar lw (fun _ => 0) (fun _ => 0) :=
  ⟨h, .inl rfl, fun j _ h => by omega, fun j _ h => by omega, fun _ => hs⟩
/-- The node of visit i. -/
theorem node_at {n i k : Nat} (hn : 0 < n) (hk : k = i % n) : k < n ∧ (i < n → k = i) ∧ (n ≤ i → i < 2 * n → k = i - n) ∧ (2 * n ≤ i → i < 3 * n → k = i - 2 * n) ∧ (3 * n ≤ i → i < 4 * n → k = i - 3 * n) := by
  have h1 : k < n := by rw [hk]; exact Nat.mod_lt _ hn
  have h2 := Nat.div_add_mod i n
  rw [← hk] at h2
  refine ⟨h1, fun h => ?_, fun h h' => ?_, fun h h' => ?_, fun h h' => ?_⟩
  · rw [hk, Nat.mod_eq_of_lt h]
  · have : i / n = 1 := by rw [Nat.div_eq_iff hn]; omega
    rw [this] at h2
    omega
  · have : i / n = 2 := by rw [Nat.div_eq_iff hn]; omega
    rw [this] at h2
    omega
  · have : i / n = 3 := by rw [Nat.div_eq_iff hn]; omega
    rw [this] at h2
    omega
theorem vAL {n sq ar lw : Int} {i k : Nat} (hk : (k : Int) < n) (har : ar ≤ sq) (hki : (i : Int) < n → (k : Int) = i) (h : i = 0 ∨ (lw = 0 ∧ ar = sq) ∨ (i : Int) < lw) (hlw : lw ≤ n) (h0 : 0 ≤ lw) :
    ((vL sq (1 + k) sq ar lw = 0 ∧ vA sq (1 + k) sq ar lw = sq) ∨ ((i + 1 : Nat) : Int) < vL sq (1 + k) sq ar lw) ∧ vL sq (1 + k) sq ar lw ≤ n ∧ vA sq (1 + k) sq ar lw ≤ sq ∧ 0 ≤ vL sq (1 + k) sq ar lw ∧ (0 ≤ ar → 0 ≤ sq → 0 ≤ vA sq (1 + k) sq ar lw) := by
  unfold vA vL
  by_cases c : sq < ar ∨ lw = 1 + (k : Int) ∨ lw = 0
  · rw [if_pos c, if_pos c]
    have : min sq sq = sq := by omega
    rw [this, if_pos rfl]
    refine ⟨.inl ⟨rfl, rfl⟩, by omega, by omega, by omega, fun _ h => h⟩
  · rw [if_neg c, if_neg c]
    simp only [not_or] at c
    refine ⟨.inr ?_, hlw, har, h0, fun h _ => h⟩
    rcases h with h | h | h
    · subst h
      have := hki (by omega)
      omega
    · omega
    · have := hki (by omega)
      omega
theorem Pl.step {n : Nat} {sq ar lw : Int} {i k : Nat} {lf sf : Nat → Int} (h : Pl n sq i ar lw lf sf) (hn : 0 < n) (hi : i < 4 * n) (hk : k = i % n) (har : ar ≤ sq) (h0 : 0 ≤ lw) :
    Pl n sq (i + 1) (vA sq (1 + k) sq ar lw) (vL sq (1 + k) sq ar lw) (fun j => if j = k then vA sq (1 + k) sq ar lw else lf j)
      (if 2 * n ≤ i then (fun j => if j = k then max (sf k) (min (lf k) ar) else sf j) else sf) := by
  obtain ⟨k1, k2, k3, k4, k5⟩ := node_at hn hk
  obtain ⟨v1, v2, v3, v4, _⟩ := vAL (n := n) (sq := sq) (ar := ar) (lw := lw) (i := i) (k := k) (by omega) har (fun h => by have := k2 (by omega); omega) h.way h.low h0
  have v5 : n ≤ i → vA sq (1 + k) sq ar lw = sq := fun hni => by
    rcases v1 with v1 | v1
    · exact v1.2
    · omega
  have w5 : n ≤ i → ar = sq := fun hni => by
    rcases h.way with h1 | h1 | h1
    · omega
    · exact h1.2
    · have := h.low
      omega
  refine ⟨v2, .inr v1, fun j hj hji => ?_, fun j hj hji => ?_, fun j => ?_⟩
  · show (if j = k then _ else _) = _
    split
    · exact v5 (by omega)
    · rename_i hjk
      exact h.lft j hj (by
        rcases (show i < 2 * n ∨ (2 * n ≤ i ∧ i < 3 * n) ∨ 3 * n ≤ i by omega) with a | a | a
        · have := k3 (by omega) a
          omega
        · omega
        · omega)
  · rw [if_pos (by omega)]
    show (if j = k then _ else _) = _
    split
    · rename_i hjk
      have e1 : lf k = sq := h.lft k (by omega) (by omega)
      have e2 := w5 (by omega)
      have e3 := h.top k
      rw [e1, e2]
      omega
    · rename_i hjk
      exact h.saf j hj (by
        rcases (show i < 3 * n ∨ 3 * n ≤ i by omega) with a | a
        · have := k4 (by omega) a
          omega
        · omega)
  · split
    · show (if j = k then _ else _) ≤ _
      split
      · have e3 := h.top k
        omega
      · exact h.top j
    · exact h.top j
theorem Pl.done {n : Nat} {sq ar lw : Int} {lf sf : Nat → Int} (h : Pl n sq (4 * n) ar lw lf sf) : ∀ j, j < n → sf j = sq := fun j hj => h.saf j (by omega) (by omega)
end Go.Proofs.Ytbjkncfpddhpkaa
