/- Plain mathematics: what was written in seven bits a byte, or in so many bytes, is read as it was; and what is read, written, is the bytes that were read. Conditions: as each statement says. -/
import Derived.Test.YtampdkbcijdpcaaWf
namespace Go.Proofs.Ytampdkbcijdpcaa

/-- What is read of bytes, written, is those bytes. -/
theorem num_back : ∀ (l : List Int) (s i : Nat), i ≤ 7 → (∀ c ∈ l, 0 ≤ c ∧ c ≤ 255) → (num s i l).2.2 = 0 →
    ∃ y, (num s i l).1 = ((s + y * 128 ^ i : Nat) : Int) ∧ encF (8 - i) y = l.take ((num s i l).2.1.toNat - i) ∧ (0 < i → 0 < y)
  | [], s, i, _, _, h => by simp [num] at h
  | c :: r, s, i, hi, hr, h => by
    have hc := hr c (by simp)
    unfold num at h ⊢
    by_cases h1 : c < 128
    · rw [if_pos h1] at h ⊢
      by_cases h2 : 0 < i ∧ c = 0
      · rw [if_pos h2] at h; simp at h
      · rw [if_neg h2] at h ⊢
        by_cases h3 : 9007199254740991 < s + (c.toNat % 128) * 128 ^ i
        · rw [if_pos h3] at h; simp at h
        · rw [if_neg h3]
          have e : c.toNat % 128 = c.toNat := by omega
          refine ⟨c.toNat, by rw [e], ?_, by omega⟩
          obtain ⟨f, hf⟩ : ∃ f, 8 - i = f + 1 := ⟨7 - i, by omega⟩
          have e2 : ((i + 1 : Nat) : Int).toNat - i = 1 := by omega
          rw [hf, encF, if_neg (by omega)]
          dsimp only
          rw [e2]
          simp [Int.toNat_of_nonneg hc.1]
    · rw [if_neg h1] at h ⊢
      by_cases h7 : i = 7
      · rw [if_pos h7] at h; simp at h
      · rw [if_neg h7] at h ⊢
        obtain ⟨y, hx, he, hy⟩ := num_back r (s + (c.toNat % 128) * 128 ^ i) (i + 1) (by omega) (fun c' hc' => hr c' (by simp [hc'])) h
        have hz := num_val r (s + (c.toNat % 128) * 128 ^ i) (i + 1)
        have hz1 : ((i + 1 : Nat) : Int) + 1 ≤ (num (s + (c.toNat % 128) * 128 ^ i) (i + 1) r).2.1 := by
          rcases hz with hz | hz
          · exact hz.2.2.2
          · rw [h] at hz; omega
        generalize num (s + (c.toNat % 128) * 128 ^ i) (i + 1) r = N at hx he hz1
        have hy0 := hy (by omega)
        refine ⟨c.toNat % 128 + 128 * y, ?_, ?_, by omega⟩
        · rw [hx]
          congr 1
          rw [Nat.pow_succ, Nat.add_mul, Nat.add_assoc]
          congr 2
          rw [Nat.mul_comm (128 ^ i) 128, Nat.mul_comm 128 y, Nat.mul_assoc]
        · have hf : 8 - i = (8 - (i + 1)) + 1 := by omega
          have hk : N.2.1.toNat - i = (N.2.1.toNat - (i + 1)) + 1 := by omega
          rw [hf, encF, if_pos (by omega), hk, List.take_succ_cons]
          have e1 : (c.toNat % 128 + 128 * y) / 128 = y := by omega
          have e2 : (((c.toNat % 128 + 128 * y) % 128 + 128 : Nat) : Int) = c := by omega
          rw [e1, e2, he]

/-- What is written is read as it was, whatever stands behind it. -/
theorem num_enc : ∀ (f i s y : Nat) (r : List Int), f + i = 8 → 0 < f → y < 128 ^ f → (0 < i → 0 < y) → s + y * 128 ^ i ≤ 9007199254740991 →
    num s i (encF f y ++ r) = (((s + y * 128 ^ i : Nat) : Int), ((i + (encF f y).length : Nat) : Int), 0)
  | 0, _, _, _, _, _, h, _, _, _ => by omega
  | f + 1, i, s, y, r, hf, _, hy, hp, hm => by
    unfold encF
    by_cases h : 128 ≤ y
    · obtain ⟨g, hg, hy', hg0⟩ := pow_step h hy
      obtain rfl : g = f := by omega
      rw [if_pos h, List.cons_append, num, if_neg (by omega), if_neg (by omega)]
      have e1 : (((y % 128 + 128 : Nat) : Int).toNat % 128) = y % 128 := by omega
      have e2 : s + y % 128 * 128 ^ i + y / 128 * 128 ^ (i + 1) = s + y * 128 ^ i := by
        rw [Nat.pow_succ, Nat.add_assoc]
        congr 1
        rw [Nat.mul_comm (128 ^ i) 128, ← Nat.mul_assoc, ← Nat.add_mul]
        congr 1
        omega
      rw [e1, num_enc g (i + 1) (s + y % 128 * 128 ^ i) (y / 128) r (by omega) hg0 hy' (fun _ => by omega) (by rw [e2]; exact hm), e2, List.length_cons]
      refine Prod.ext rfl (Prod.ext ?_ rfl)
      show ((i + 1 + (encF g (y / 128)).length : Nat) : Int) = ((i + ((encF g (y / 128)).length + 1) : Nat) : Int)
      omega
    · rw [if_neg h, List.cons_append, num, if_pos (by omega), if_neg (by omega)]
      have e1 : ((y : Int).toNat % 128) = y := by omega
      rw [e1, if_neg (by omega)]
      rfl
theorem num_enc0 (x : Nat) (r : List Int) (hx : x ≤ 9007199254740991) : num 0 0 (enc x ++ r) = ((x : Int), (((enc x).length : Nat) : Int), 0) := by
  have := num_enc 8 0 0 x r rfl (by omega) (by omega) (by omega) (by omega)
  simpa [enc] using this

end Go.Proofs.Ytampdkbcijdpcaa
