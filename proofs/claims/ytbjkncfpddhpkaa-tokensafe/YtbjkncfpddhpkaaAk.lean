/- TokenSafe: what is said of the visits, in plain words. No conditions. -/
import Derived.Test.YtbjkncfpddhpkaaAi
namespace Go.Proofs.Ytbjkncfpddhpkaa
open Go.RowKit
theorem node_ne {n i d : Nat} (h0 : 0 < d) (hd : d < n) : (i + d) % n ≠ i % n := fun e => by
  have := Nat.sub_mod_eq_zero_of_mod_eq e
  rw [Nat.add_sub_cancel_left, Nat.mod_eq_of_lt hd] at this
  omega
theorem node_all {n i j : Nat} (hj : j < n) : ∃ m, m < n ∧ (i + m) % n = j := by
  have hc : i % n < n := Nat.mod_lt _ (by omega)
  rcases Nat.lt_or_ge j (i % n) with h | h
  · refine ⟨j + n - i % n, by omega, ?_⟩
    rw [← Nat.mod_add_mod, show i % n + (j + n - i % n) = j + n by omega, Nat.add_mod_right, Nat.mod_eq_of_lt hj]
  · refine ⟨j - i % n, by omega, ?_⟩
    rw [← Nat.mod_add_mod, show i % n + (j - i % n) = j by omega, Nat.mod_eq_of_lt hj]
/-- How it stands ahead of visit i among n nodes. -/
structure Sf (n i : Nat) (sq A L : Int) (aru lf : Nat → Int) : Prop where
  a0 : 0 ≤ A ∧ A ≤ sq
  le : ∀ j, j < n → lf j ≤ aru j ∧ 0 ≤ aru j ∧ aru j ≤ sq
  win : ∀ m m', m ≤ m' → m' < n → min (lf ((i + m) % n)) A ≤ lf ((i + m') % n)
  low : L ≠ 0 → ∃ m, m < n ∧ (((i + m) % n : Nat) : Int) + 1 = L ∧ ∀ m', m ≤ m' → m' < n → lf ((i + m') % n) = A
  zero : L = 0 → A = sq
theorem Sf.start {n : Nat} (hn : 0 < n) {lf : Nat → Int} (h : ∀ j, j < n → lf j = -1) : Sf n 0 0 0 0 (fun _ => 0) lf := ⟨by omega, fun j hj => by
    have := h j hj
    show lf j ≤ 0 ∧ (0 : Int) ≤ 0 ∧ (0 : Int) ≤ 0
    omega, fun m m' _ _ => by
    have h1 := h ((0 + m) % n) (Nat.mod_lt _ hn)
    have h2 := h ((0 + m') % n) (Nat.mod_lt _ hn)
    rw [h1, h2]
    omega, fun h => absurd rfl h, fun _ => rfl⟩
/-- A node has more. -/
theorem Sf.rise {n i : Nat} {sq A L : Int} {aru lf : Nat → Int} (h : Sf n i sq A L aru lf) (k : Nat) (a : Int) (h1 : k < n → aru k ≤ a) (h2 : a ≤ sq) : Sf n i sq A L (fun j => if j = k then a else aru j) lf :=
  ⟨h.a0, fun j hj => by
    have := h.le j hj
    show lf j ≤ (if j = k then a else aru j) ∧ 0 ≤ (if j = k then a else aru j) ∧ (if j = k then a else aru j) ≤ sq
    split
    · rename_i e
      subst e
      have := h1 hj
      omega
    · omega, h.win, h.low, h.zero⟩
theorem Sf.safe {n i : Nat} {sq A L : Int} {aru lf : Nat → Int} (h : Sf n i sq A L aru lf) {j : Nat} (hj : j < n) : min (lf (i % n)) A ≤ aru j := by
  obtain ⟨m, hm, e⟩ := node_all (i := i) hj
  have h1 := h.win 0 m (Nat.zero_le _) hm
  rw [e] at h1
  have := (h.le j hj).1
  exact Int.le_trans h1 this
theorem Sf.step {n i : Nat} {sq sq' A L a : Int} {aru lf : Nat → Int} (h : Sf n i sq A L aru lf) (hn : 0 < n) (hsq : sq ≤ sq') (h1 : aru (i % n) ≤ a) (h2 : a ≤ sq') :
    Sf n (i + 1) sq' (vA a (1 + ((i % n : Nat) : Int)) sq' A L) (vL a (1 + ((i % n : Nat) : Int)) sq' A L) (fun j => if j = i % n then a else aru j) (fun j => if j = i % n then vA a (1 + ((i % n : Nat) : Int)) sq' A L else lf j) := by
  have hc : i % n < n := Nat.mod_lt _ hn
  obtain ⟨q1, q2⟩ := h.a0
  have hle := h.le
  have ha0 := (hle _ hc).2.1
  have hmin : min a sq' = a := by omega
  -- the new order of nodes
  have hold : ∀ m, m + 1 < n → (i + 1 + m) % n ≠ i % n ∧ i + 1 + m = i + (m + 1) := fun m hm => ⟨by rw [show i + 1 + m = i + (m + 1) by omega]; exact node_ne (by omega) hm, by omega⟩
  have hnew : ∀ m, m + 1 = n → (i + 1 + m) % n = i % n := fun m hm => by rw [show i + 1 + m = i + n by omega, Nat.add_mod_right]
  by_cases hcase : a < A ∨ L = 1 + ((i % n : Nat) : Int) ∨ L = 0
  · have eA : vA a (1 + ((i % n : Nat) : Int)) sq' A L = a := by unfold vA; rw [if_pos hcase]; exact hmin
    have eL : vL a (1 + ((i % n : Nat) : Int)) sq' A L = if a = sq' then 0 else 1 + ((i % n : Nat) : Int) := by unfold vL; rw [if_pos hcase, hmin]
    rw [eA, eL]
    refine ⟨⟨by omega, h2⟩, fun j hj => ?_, fun m m' hm hm' => ?_, fun hL => ?_, fun hL => ?_⟩
    · have := hle j hj
      show (if j = i % n then a else lf j) ≤ (if j = i % n then a else aru j) ∧ 0 ≤ (if j = i % n then a else aru j) ∧ (if j = i % n then a else aru j) ≤ sq'
      split <;> omega
    · show min (if (i + 1 + m) % n = i % n then a else lf ((i + 1 + m) % n)) a ≤ (if (i + 1 + m') % n = i % n then a else lf ((i + 1 + m') % n))
      rcases (show m' + 1 = n ∨ m' + 1 < n by omega) with e | e
      · rw [if_pos (hnew m' e)]
        omega
      · obtain ⟨e1, e2⟩ := hold m' e
        obtain ⟨f1, f2⟩ := hold m (by omega)
        rw [if_neg e1, if_neg f1, e2, f2]
        have hw := h.win (m + 1) (m' + 1) (by omega) e
        by_cases haA : a < A
        · omega
        · by_cases hL0 : L = 0
          · have z := h.zero hL0
            have b1 : lf ((i + (m + 1)) % n) ≤ A := by
              have := hle ((i + (m + 1)) % n) (Nat.mod_lt _ hn)
              omega
            omega
          · have hLc : L = 1 + ((i % n : Nat) : Int) := by omega
            obtain ⟨m0, g1, g2, g3⟩ := h.low hL0
            have : m0 = 0 := by
              rcases Nat.eq_zero_or_pos m0 with z | z
              · exact z
              · have := node_ne (i := i) z g1
                omega
            subst this
            have b1 := g3 (m + 1) (by omega) (by omega)
            have b2 := g3 (m' + 1) (by omega) (by omega)
            omega
    · by_cases e : a = sq'
      · rw [if_pos e] at hL; exact absurd rfl hL
      · rw [if_neg e]
        refine ⟨n - 1, by omega, ?_, fun m' g1 g2 => ?_⟩
        · rw [hnew (n - 1) (by omega)]
          omega
        · show (if (i + 1 + m') % n = i % n then a else lf ((i + 1 + m') % n)) = a
          rw [if_pos (hnew m' (by omega))]
    · by_cases e : a = sq'
      · exact e
      · rw [if_neg e] at hL; omega
  · have eA : vA a (1 + ((i % n : Nat) : Int)) sq' A L = A := by unfold vA; rw [if_neg hcase]
    have eL : vL a (1 + ((i % n : Nat) : Int)) sq' A L = L := by unfold vL; rw [if_neg hcase]
    rw [eA, eL]
    have k1 : ¬ a < A := fun e => hcase (.inl e)
    have k2 : L ≠ 1 + ((i % n : Nat) : Int) := fun e => hcase (.inr (.inl e))
    have k3 : L ≠ 0 := fun e => hcase (.inr (.inr e))
    refine ⟨⟨q1, by omega⟩, fun j hj => ?_, fun m m' hm hm' => ?_, fun _ => ?_, fun hL => absurd hL k3⟩
    · have := hle j hj
      show (if j = i % n then A else lf j) ≤ (if j = i % n then a else aru j) ∧ 0 ≤ (if j = i % n then a else aru j) ∧ (if j = i % n then a else aru j) ≤ sq'
      split <;> omega
    · show min (if (i + 1 + m) % n = i % n then A else lf ((i + 1 + m) % n)) A ≤ (if (i + 1 + m') % n = i % n then A else lf ((i + 1 + m') % n))
      rcases (show m' + 1 = n ∨ m' + 1 < n by omega) with e | e
      · rw [if_pos (hnew m' e)]
        omega
      · obtain ⟨e1, e2⟩ := hold m' e
        obtain ⟨f1, f2⟩ := hold m (by omega)
        rw [if_neg e1, if_neg f1, e2, f2]
        exact h.win (m + 1) (m' + 1) (by omega) e
    · obtain ⟨m0, g1, g2, g3⟩ := h.low k3
      have hm0 : m0 ≠ 0 := fun e => by
        subst e
        rw [Nat.add_zero] at g2
        omega
      refine ⟨m0 - 1, by omega, ?_, fun m' p1 p2 => ?_⟩
      · rw [show i + 1 + (m0 - 1) = i + m0 by omega]
        exact g2
      · show (if (i + 1 + m') % n = i % n then A else lf ((i + 1 + m') % n)) = A
        rcases (show m' + 1 = n ∨ m' + 1 < n by omega) with e | e
        · rw [if_pos (hnew m' e)]
        · obtain ⟨e1, e2⟩ := hold m' e
          rw [if_neg e1, e2]
          exact g3 (m' + 1) (by omega) e
end Go.Proofs.Ytbjkncfpddhpkaa
