/- Plain: numbers read one behind the other, one more at the end. No conditions. -/
import Derived.Test.YthiijonmnebjgaaGreatPn
namespace Go.Proofs.YthiijonmnebjgaaGreat
theorem getD_app {a b : List Int} {k : Nat} (h : k < a.length) : (a ++ b).getD k 0 = a.getD k 0 := by
  rw [List.getD_eq_getElem?_getD, List.getElem?_append_left h, ← List.getD_eq_getElem?_getD]
theorem rd_split : ∀ (m n : Nat) (l : List Int), rde m l = 0 → rde (m + n) l = rde n (rdr m l) ∧ rdv (m + n) l = rdv m l ++ rdv n (rdr m l) ∧ rdr (m + n) l = rdr n (rdr m l)
  | 0, n, l, _ => by simp [rdv, rdr]
  | m + 1, n, l, h => by
    rw [show m + 1 + n = (m + n) + 1 by omega]
    unfold rde at h
    by_cases hx : (num 0 0 l).2.2 = 0
    · rw [if_pos hx] at h
      obtain ⟨h1, h2, h3⟩ := rd_split m n _ h
      refine ⟨?_, ?_, ?_⟩
      · rw [rde, if_pos hx, h1, rdr, if_pos hx]
      · rw [rdv, if_pos hx, h2, rdv, if_pos hx, rdr, if_pos hx]; rfl
      · rw [rdr, if_pos hx, h3, rdr, if_pos hx]
    · rw [if_neg hx] at h; exact absurd h hx
theorem rd_ok {k : Nat} {l : List Int} (h : rde k l = 0) (hx : (num 0 0 (rdr k l)).2.2 = 0) : rde (k + 1) l = 0 ∧ rdv (k + 1) l = rdv k l ++ [(num 0 0 (rdr k l)).1] ∧ rdr (k + 1) l = (rdr k l).drop (num 0 0 (rdr k l)).2.1.toNat := by
  obtain ⟨h1, h2, h3⟩ := rd_split k 1 l h
  rw [h1, h2, h3]
  simp [rde, rdv, rdr, hx]
theorem rd_bad {k : Nat} {l : List Int} (h : rde k l = 0) (hx : (num 0 0 (rdr k l)).2.2 ≠ 0) (n : Nat) : rde (k + 1 + n) l = (num 0 0 (rdr k l)).2.2 := by
  obtain ⟨h1, _, _⟩ := rd_split k (1 + n) l h
  rw [Nat.add_assoc, h1, Nat.add_comm 1 n, rde, if_neg hx]
/-- The document's way through twelve numbers. -/
theorem pr_bad {k : Nat} {l : List Int} (hk : k < 12) (h : rde k l = 0) (h7 : 7 < k → (rdv k l).getD 7 0 ≤ 1) (hx : (num 0 0 (rdr k l)).2.2 ≠ 0) : prE l = (num 0 0 (rdr k l)).2.2 := by
  unfold prE
  by_cases h8 : k < 8
  · have := rd_bad h hx (7 - k)
    rw [show k + 1 + (7 - k) = 8 by omega] at this
    rw [if_pos (by rw [this]; exact hx), this]
  · obtain ⟨j, rfl⟩ : ∃ j, k = 8 + j := ⟨k - 8, by omega⟩
    have h0 : rde 8 l = 0 := by
      by_cases e : rde 8 l = 0
      · exact e
      · exfalso
        have : ∀ (m n : Nat) (l : List Int), rde m l ≠ 0 → rde (m + n) l ≠ 0 := by
          intro m
          induction m with
          | zero => intro n l h; exact absurd rfl h
          | succ m ih =>
            intro n l h
            rw [show m + 1 + n = (m + n) + 1 by omega]
            unfold rde at h ⊢
            by_cases hx : (num 0 0 l).2.2 = 0
            · rw [if_pos hx] at h ⊢; exact ih n _ h
            · rw [if_neg hx] at h ⊢; exact h
        exact this 8 j l e h
    obtain ⟨s1, s2, s3⟩ := rd_split 8 j l h0
    rw [s1] at h
    rw [s3] at hx ⊢
    have hl := rdv_len 8 l h0
    have h7' := h7 (by omega)
    rw [s2, getD_app (by omega)] at h7'
    have := rd_bad h hx (3 - j)
    rw [show j + 1 + (3 - j) = 4 by omega] at this
    rw [if_neg (by rw [h0]; simp), if_neg (by omega), if_pos (by rw [this]; exact hx), this]
theorem pr_seven {l : List Int} (h : rde 7 l = 0) (hx : (num 0 0 (rdr 7 l)).2.2 = 0) (h1 : 1 < (num 0 0 (rdr 7 l)).1) : prE l = 4 := by
  obtain ⟨a, b, _⟩ := rd_ok h hx
  unfold prE
  have hl := rdv_len 7 l h
  rw [if_neg (by rw [a]; simp), if_pos]
  rw [b, List.getD_eq_getElem?_getD, List.getElem?_append_right (by omega)]
  simpa [hl] using h1
theorem pr_twelve {l : List Int} (h : rde 12 l = 0) (h7 : (rdv 12 l).getD 7 0 ≤ 1) : rde 8 l = 0 ∧ rde 4 (rdr 8 l) = 0 ∧ rdr 4 (rdr 8 l) = rdr 12 l ∧ (rdv 8 l) ++ rdv 4 (rdr 8 l) = rdv 12 l ∧ (rdv 8 l).getD 7 0 ≤ 1 := by
  have h0 : rde 8 l = 0 := by
    by_cases e : rde 8 l = 0
    · exact e
    · exfalso
      have : ∀ (m n : Nat) (l : List Int), rde m l ≠ 0 → rde (m + n) l ≠ 0 := by
        intro m
        induction m with
        | zero => intro n l h; exact absurd rfl h
        | succ m ih =>
          intro n l h
          rw [show m + 1 + n = (m + n) + 1 by omega]
          unfold rde at h ⊢
          by_cases hx : (num 0 0 l).2.2 = 0
          · rw [if_pos hx] at h ⊢; exact ih n _ h
          · rw [if_neg hx] at h ⊢; exact h
      exact this 8 4 l e h
  obtain ⟨s1, s2, s3⟩ := rd_split 8 4 l h0
  have hl := rdv_len 8 l h0
  refine ⟨h0, by rw [← s1]; exact h, s3.symm, s2.symm, ?_⟩
  have h7' := h7
  rw [show (12 : Nat) = 8 + 4 from rfl, s2, getD_app (by omega)] at h7'
  exact h7'
theorem pr_end {l : List Int} (h : rde 12 l = 0) (h7 : (rdv 12 l).getD 7 0 ≤ 1) : prE l = octE 160 (rdr 12 l) := by
  obtain ⟨a, b, c, _, e⟩ := pr_twelve h h7
  unfold prE
  rw [if_neg (by rw [a]; simp), if_neg (by omega), if_neg (by rw [b]; simp), c]
end Go.Proofs.YthiijonmnebjgaaGreat
