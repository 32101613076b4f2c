/- Sieves as plain: which numbers were fresh, the greatest one, and the last 64 as bits. No conditions. -/
import Derived.Test.YtlkkbfcedjedoaaMem
import Derived.Laws.Bits64
namespace Go.Proofs.Ytlkkbfcedjedoaa
open Go.RowKit
/-- F: the numbers that were fresh; t: the greatest one; s: the bits. -/
structure Kn (t : Int) (s : Nat) (F : Int → Bool) : Prop where
  t0 : 0 ≤ t
  t1 : t ≤ 9223372036854775807
  s1 : s % 2 = 1
  s2 : s < 18446744073709551616
  kn : ∀ n : Int, 1 ≤ n → t - n < 64 → F n = (decide (n ≤ t) && s.testBit (t - n).toNat)
/-- Whether n is fresh. -/
def fr (t : Int) (F : Int → Bool) (n : Int) : Bool := decide (t - n < 64) && !F n
/-- What was fresh behind it. -/
def see (F : Int → Bool) (n : Int) (b : Bool) : Int → Bool := fun m => F m || (decide (m = n) && b)
theorem see_not (F : Int → Bool) (n : Int) : see F n false = F := by
  funext m
  simp [see]
/-- The bits, when n becomes the greatest. -/
def up (t : Int) (s : Nat) (n : Int) : Nat := s * 2 ^ min (n - t).toNat 64 % 18446744073709551616 ||| 1
theorem Kn.zero : Kn 0 1 (fun _ => false) := ⟨by omega, by omega, rfl, by omega, fun n h _ => by
  have : ¬ n ≤ 0 := by omega
  simp [this]⟩
theorem Kn.hi {t : Int} {s : Nat} {F : Int → Bool} (h : Kn t s F) {n : Int} (hn : t < n) : F n = false := by
  have := h.t0
  rw [h.kn n (by omega) (by omega)]
  have : ¬ n ≤ t := by omega
  simp [this]
theorem fr_hi {t : Int} {s : Nat} {F : Int → Bool} (h : Kn t s F) {n : Int} (hn : t < n) : fr t F n = true := by
  unfold fr
  rw [h.hi hn]
  simp
  omega
theorem up_lt (t : Int) (s : Nat) (n : Int) : up t s n < 18446744073709551616 := by
  have := Nat.or_lt_two_pow (x := s * 2 ^ min (n - t).toNat 64 % 18446744073709551616) (y := 1) (n := 64) (by omega) (by omega)
  unfold up
  omega
theorem up_bit (t : Int) (s : Nat) (n : Int) (i : Nat) (hi : i < 64) : (up t s n).testBit i = ((decide ((n - t).toNat ≤ i) && s.testBit (i - (n - t).toNat)) || decide (i = 0)) := by
  unfold up
  rw [Nat.testBit_or, show 18446744073709551616 = 2 ^ 64 by decide, Nat.testBit_mod_two_pow, Nat.testBit_mul_two_pow]
  have e1 : Nat.testBit 1 i = decide (i = 0) := by
    rw [show (1 : Nat) = 2 ^ 0 by decide, Nat.testBit_two_pow]
    by_cases h : i = 0 <;> simp [h]
    omega
  rw [e1]
  simp only [hi, decide_true, Bool.true_and]
  by_cases h : (n - t).toNat ≤ 64
  · rw [Nat.min_eq_left h]
  · rw [Nat.min_eq_right (by omega)]
    have h1 : ¬ 64 ≤ i := by omega
    have h2 : ¬ (n - t).toNat ≤ i := by omega
    simp [h1, h2]
theorem Kn.rise {t : Int} {s : Nat} {F : Int → Bool} (h : Kn t s F) {n : Int} (hn : t < n) (hm : n ≤ 9223372036854775807) : Kn n (up t s n) (see F n true) := by
  have h0 := h.t0
  refine ⟨by omega, hm, ?_, up_lt _ _ _, fun m hm1 hm2 => ?_⟩
  · have := up_bit t s n 0 (by omega)
    rw [Nat.testBit_zero] at this
    simpa using this
  · by_cases hmn : m ≤ n
    · rw [up_bit t s n (n - m).toNat (by omega)]
      simp only [see, hmn, decide_true, Bool.true_and, Bool.and_true]
      by_cases e : m = n
      · subst e
        simp
      · have h3 : ¬ (n - m).toNat = 0 := by omega
        simp only [e, h3, decide_false, Bool.or_false]
        by_cases hmt : m ≤ t
        · rw [h.kn m hm1 (by omega)]
          have h4 : (n - t).toNat ≤ (n - m).toNat := by omega
          have h5 : (n - m).toNat - (n - t).toNat = (t - m).toNat := by omega
          simp only [hmt, h4, h5, decide_true, Bool.true_and]
        · rw [h.hi (by omega)]
          have h4 : ¬ (n - t).toNat ≤ (n - m).toNat := by omega
          simp only [h4, decide_false, Bool.false_and]
    · have e : ¬ m = n := by omega
      simp only [see, hmn, e, decide_false, Bool.false_and, Bool.or_false]
      exact h.hi (by omega)
theorem Kn.fill {t : Int} {s : Nat} {F : Int → Bool} (h : Kn t s F) {n : Int} (h1 : 1 ≤ n) (hn : n ≤ t) (hd : t - n < 64) :
    fr t F n = !s.testBit (t - n).toNat ∧ Kn t (s ||| 2 ^ (t - n).toNat) (see F n (fr t F n)) := by
  have e0 : F n = s.testBit (t - n).toNat := by
    rw [h.kn n h1 hd]
    simp [hn]
  have e1 : fr t F n = !s.testBit (t - n).toNat := by
    unfold fr
    rw [e0]
    simp [hd]
  refine ⟨e1, h.t0, h.t1, ?_, ?_, fun m hm1 hm2 => ?_⟩
  · have := Nat.testBit_or s (2 ^ (t - n).toNat) 0
    have h3 := h.s1
    simp only [Nat.testBit_zero, h3] at this
    simpa using this
  · have := Nat.or_lt_two_pow (x := s) (y := 2 ^ (t - n).toNat) (n := 64) (by have := h.s2; omega) (Nat.pow_lt_pow_right (by omega) (by omega))
    omega
  · rw [see, h.kn m hm1 hm2, Nat.testBit_or, Nat.testBit_two_pow, e1]
    by_cases e : m = n
    · subst e
      simp [hn]
    · have : ¬ (t - n).toNat = (t - m).toNat ∨ ¬ m ≤ t := by omega
      rcases this with h3 | h3 <;> simp [e, h3]
theorem fr_far {t : Int} {F : Int → Bool} {n : Int} (h : ¬ t - n < 64) : fr t F n = false := by simp [fr, h]
/-- Bits of numbers below 2^64. -/
theorem or_u64 (a b : Nat) (ha : a < 18446744073709551616) (hb : b < 18446744073709551616) : bits .or .u64 (a : Int) (b : Int) = ((a ||| b : Nat) : Int) := by
  have hx : a ||| b < 2 ^ 64 := Nat.or_lt_two_pow (by omega) (by omega)
  have h1 : (BitVec.ofInt 64 (a : Int)).toNat = a := by
    rw [BitVec.ofInt_natCast, BitVec.toNat_ofNat]; exact Nat.mod_eq_of_lt (by omega)
  have h2 : (BitVec.ofInt 64 (b : Int)).toNat = b := by
    rw [BitVec.ofInt_natCast, BitVec.toNat_ofNat]; exact Nat.mod_eq_of_lt (by omega)
  show IntKind.u64.wrap ((BitVec.ofInt 64 (a : Int) ||| BitVec.ofInt 64 (b : Int)).toNat : Int) = _
  rw [BitVec.toNat_or, h1, h2, IntKind.wrap_u64]
  omega
theorem and_u64 (a b : Nat) (ha : a < 18446744073709551616) (hb : b < 18446744073709551616) : bits .and .u64 (a : Int) (b : Int) = ((a &&& b : Nat) : Int) := by
  have hx : a &&& b ≤ a := Nat.and_le_left
  have h1 : (BitVec.ofInt 64 (a : Int)).toNat = a := by
    rw [BitVec.ofInt_natCast, BitVec.toNat_ofNat]; exact Nat.mod_eq_of_lt (by omega)
  have h2 : (BitVec.ofInt 64 (b : Int)).toNat = b := by
    rw [BitVec.ofInt_natCast, BitVec.toNat_ofNat]; exact Nat.mod_eq_of_lt (by omega)
  show IntKind.u64.wrap ((BitVec.ofInt 64 (a : Int) &&& BitVec.ofInt 64 (b : Int)).toNat : Int) = _
  rw [BitVec.toNat_and, h1, h2, IntKind.wrap_u64]
  omega
theorem shl_u64 (s : Nat) (t n : Int) : IntKind.u64.wrap ((s : Int) * 2 ^ min (n - t).toNat 64) = ((s * 2 ^ min (n - t).toNat 64 % 18446744073709551616 : Nat) : Int) := by
  rw [IntKind.wrap_u64]
  simp
theorem up_u64 (s : Nat) (t n : Int) : bits .or .u64 (IntKind.u64.wrap ((s : Int) * 2 ^ min (n - t).toNat 64)) 1 = (up t s n : Int) := by
  rw [shl_u64]
  exact or_u64 _ 1 (Nat.mod_lt _ (by omega)) (by omega)
theorem bit_u64 (d : Nat) (h : d < 64) : IntKind.u64.wrap ((1 : Int) * 2 ^ min d 64) = ((2 ^ d : Nat) : Int) := by
  have : 2 ^ d < 2 ^ 64 := Nat.pow_lt_pow_right (by omega) h
  rw [IntKind.wrap_u64, Nat.min_eq_left (by omega), Int.one_mul]
  have e : ((2 : Int) ^ d) = ((2 ^ d : Nat) : Int) := by simp
  rw [e]
  generalize 2 ^ d = q at this
  omega
theorem and_bit (s d : Nat) (hs : s < 18446744073709551616) (h : d < 64) : (bits .and .u64 (s : Int) ((2 ^ d : Nat) : Int) == 0) = !s.testBit d := by
  have hp : 2 ^ d < 2 ^ 64 := Nat.pow_lt_pow_right (by omega) h
  rw [and_u64 _ _ hs (by omega)]
  cases hb : s.testBit d with
  | false =>
    have : s &&& 2 ^ d = 0 := Nat.eq_of_testBit_eq fun i => by
      rw [Nat.testBit_and, Nat.testBit_two_pow, Nat.zero_testBit]
      by_cases e : d = i
      · subst e; simp [hb]
      · simp [e]
    simp [this]
  | true =>
    have : (s &&& 2 ^ d).testBit d = true := by
      rw [Nat.testBit_and, hb]
      simp
    have h0 : ¬ s &&& 2 ^ d = 0 := by
      intro e
      rw [e] at this
      simp at this
    simp only [Bool.not_true, beq_eq_false_iff_ne, ne_eq]
    omega
end Go.Proofs.Ytlkkbfcedjedoaa
