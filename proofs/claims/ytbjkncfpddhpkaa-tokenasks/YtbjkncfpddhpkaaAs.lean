/- TokenAsks in plain words: what a token asks for behind a visit and behind what is there. No conditions. -/
import Derived.Test.YtbjkncfpddhpkaaAr
namespace Go.Proofs.Ytbjkncfpddhpkaa
open Go.RowKit
theorem addL_ge (l : List Int) (x : Int) (h : l.length ≤ 16) : l.length ≤ (addL l x).length := by
  unfold addL
  split
  · omega
  · rw [List.length_take, insL_len]
    omega
theorem addL_mem (l : List Int) (x z : Int) (h : z ∈ addL l x) : z ∈ l ∨ z = x := by
  unfold addL at h
  split at h
  · exact .inl h
  · rcases (insL_mem x z l).1 (List.mem_of_mem_take h) with e | e
    · exact .inr e
    · exact .inl e
theorem addL_keep (l : List Int) (x z : Int) (h16 : l.length ≤ 16) (h : (addL l x).length < 16) (hz : z ∈ l ∨ z = x) : z ∈ addL l x := by
  unfold addL at h ⊢
  split
  · rename_i hc
    rw [if_pos hc] at h
    rcases hz with hz | rfl
    · exact hz
    · rcases hc with hc | hc
      · simpa using hc
      · have := List.countP_le_length (p := fun y => decide (y < z)) (l := l)
        omega
  · rename_i hc
    rw [if_neg hc, List.length_take, insL_len] at h
    rw [List.take_of_length_le (by rw [insL_len]; omega)]
    exact (insL_mem x z l).2 hz.symm
theorem lsk_cons (sq : Int) (l : List Int) (g : Int) (G : List Int) : lsk sq l (g :: G) = lsk sq (if win g 1 sq = true then addL l g else l) G := rfl
theorem lsk_ge (sq : Int) : ∀ (G l : List Int), l.length ≤ 16 → l.length ≤ (lsk sq l G).length
  | [], l, _ => Nat.le_refl _
  | g :: G, l, h => by
    rw [lsk_cons]
    split
    · exact Nat.le_trans (addL_ge l g h) (lsk_ge sq G _ (addL_len l g h))
    · exact lsk_ge sq G l h
theorem lsk_mem (sq : Int) : ∀ (G l : List Int) (z : Int), z ∈ lsk sq l G → z ∈ l ∨ (z ∈ G ∧ win z 1 sq = true)
  | [], l, z, h => .inl h
  | g :: G, l, z, h => by
    rw [lsk_cons] at h
    split at h
    · rename_i hw
      rcases lsk_mem sq G _ z h with h1 | h1
      · rcases addL_mem l g z h1 with h2 | rfl
        · exact .inl h2
        · exact .inr ⟨by simp, hw⟩
      · exact .inr ⟨by simp [h1.1], h1.2⟩
    · rcases lsk_mem sq G l z h with h1 | h1
      · exact .inl h1
      · exact .inr ⟨by simp [h1.1], h1.2⟩
theorem lsk_keep (sq : Int) : ∀ (G l : List Int) (z : Int), l.length ≤ 16 → (lsk sq l G).length < 16 → (z ∈ l ∨ (z ∈ G ∧ win z 1 sq = true)) → z ∈ lsk sq l G
  | [], l, z, _, _, h => by
    rcases h with h | h
    · exact h
    · simp at h
  | g :: G, l, z, h16, hl, h => by
    rw [lsk_cons] at hl ⊢
    by_cases hw : win g 1 sq = true
    · rw [if_pos hw] at hl ⊢
      have h2 : (addL l g).length < 16 := Nat.lt_of_le_of_lt (lsk_ge sq G _ (addL_len l g h16)) hl
      refine lsk_keep sq G _ z (addL_len l g h16) hl ?_
      rcases h with h | ⟨h, hz⟩
      · exact .inl (addL_keep l g z h16 h2 (.inl h))
      · rcases List.mem_cons.1 h with rfl | h
        · exact .inl (addL_keep l z z h16 h2 (.inr rfl))
        · exact .inr ⟨h, hz⟩
    · rw [if_neg hw] at hl ⊢
      refine lsk_keep sq G l z h16 hl ?_
      rcases h with h | ⟨h, hz⟩
      · exact .inl h
      · rcases List.mem_cons.1 h with rfl | h
        · exact absurd hz hw
        · exact .inr ⟨h, hz⟩
theorem asc_of (last : Int) : ∀ (l : List Int) (least : Int), l.Pairwise (· < ·) → (∀ x ∈ l, least ≤ x ∧ x ≤ last) → asc last least l = true
  | [], _, _, _ => rfl
  | v :: r, least, hs, hr => by
    rw [List.pairwise_cons] at hs
    simp only [asc, win, Bool.and_eq_true, decide_eq_true_eq]
    refine ⟨hr v (by simp), asc_of last r (v + 1) hs.2 fun x hx => ⟨by have := hs.1 x hx; omega, (hr x (by simp [hx])).2⟩⟩
/-- Another row that may be asked for. -/
theorem okT_askof {rs rr hp sq ar lw st ix : Int} {l A : List Int} (h : okT ⟨rs, rr, hp, sq, ar, lw, st, ix, l⟩ = true) (h1 : A.length ≤ 16) (h2 : A.Pairwise (· < ·)) (h3 : ∀ x ∈ A, 1 ≤ x ∧ x ≤ sq) : okT ⟨rs, rr, hp, sq, ar, lw, st, ix, A⟩ = true := by
  rw [okT_eq] at h ⊢
  simp only [Bool.and_eq_true, cask, decide_eq_true_eq] at h ⊢
  obtain ⟨a1, a2, a3, a4, a5, a6, a7, _⟩ := h
  exact ⟨a1, a2, a3, a4, a5, a6, a7, h1, asc_of sq A 1 h2 h3⟩
theorem lsk_ok {rs rr hp sq ar lw st ix : Int} {l G : List Int} (h : okT ⟨rs, rr, hp, sq, ar, lw, st, ix, l⟩ = true) : okT ⟨rs, rr, hp, sq, ar, lw, st, ix, lsk sq l G⟩ = true ∧ (lsk sq l G).length ≤ 16 ∧ (lsk sq l G).Pairwise (· < ·) ∧ ∀ x ∈ lsk sq l G, 1 ≤ x ∧ x ≤ sq := by
  obtain ⟨h1, h2, h3, _⟩ := okT_ask h
  have hl := lsk_len sq G l h1
  have hs := lsk_sorted sq G l h2
  have hr : ∀ x ∈ lsk sq l G, 1 ≤ x ∧ x ≤ sq := fun x hx => by
    rcases lsk_mem sq G l x hx with h4 | ⟨_, h4⟩
    · exact h3 x h4
    · simpa [win] using h4
  exact ⟨okT_askof h hl hs hr, hl, hs, hr⟩
theorem fil_ok {rs rr hp sq ar lw st ix : Int} {A : List Int} (p : Int → Bool) (h : okT ⟨rs, rr, hp, sq, ar, lw, st, ix, A⟩ = true) : okT ⟨rs, rr, hp, sq, ar, lw, st, ix, A.filter p⟩ = true := by
  obtain ⟨h1, h2, h3, _⟩ := okT_ask h
  exact okT_askof h (Nat.le_trans (List.length_filter_le _ _) h1) (h2.sublist List.filter_sublist) fun x hx => h3 x (List.mem_filter.1 hx).1
theorem fil_has (A H : List Int) {x : Int} (hx : x ∈ A) : (A.filter fun x => !H.contains x).contains x = !H.contains x := by
  rw [Bool.eq_iff_iff]
  simp only [List.contains_iff_mem, List.mem_filter]
  constructor
  · exact fun h => h.2
  · exact fun h => ⟨hx, h⟩
end Go.Proofs.Ytbjkncfpddhpkaa
