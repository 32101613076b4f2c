/- Plain: what shifts and bits make of a key's numbers, and that two numbers give the key back. No conditions. -/
import Derived.Test.YtbfgnlpgfjokhaaKc
import Derived.Laws.BitsAllLaws
namespace Go.Proofs.Ytbfgnlpgfjokhaa
open Go.RowKit
theorem ck_two (s q r n : Int) : ck s q r n = 0 ∨ ck s q r n = 2 := by
  unfold ck cr
  split <;> (try split) <;> simp
theorem ck_zero {s q r n : Int} (h : ck s q r n = 0) : (0 ≤ s ∧ s ≤ 9007199254740991) ∧ (0 ≤ n ∧ n ≤ 9007199254740991) ∧ ((q = 0 ∧ r = 0) ∨ (0 < q ∧ q ≤ 9007199254740991 ∧ 1 ≤ r ∧ r ≤ 8)) := by
  unfold ck at h
  split at h
  · rename_i h1
    simp only [nm, decide_eq_true_eq] at h1
    unfold cr at h
    split at h
    · rename_i h2
      exact ⟨h1.1, h1.2, h2⟩
    · cases h
  · cases h
theorem ck_mk {s q r n : Int} (h1 : 0 ≤ s ∧ s ≤ 9007199254740991) (h2 : 0 ≤ n ∧ n ≤ 9007199254740991) (h3 : (q = 0 ∧ r = 0) ∨ (0 < q ∧ q ≤ 9007199254740991 ∧ 1 ≤ r ∧ r ≤ 8)) : ck s q r n = 0 := by
  rw [ck, if_pos ⟨by simpa [nm] using h1, by simpa [nm] using h2⟩, cr, if_pos h3]
/-- Pack: its error and its two numbers. -/
def pe (s q r n : Int) : Int := if ck s q r n = 0 then (if s < 1099511627776 ∧ q < 1099511627776 ∧ n < 68719476736 then 0 else 9) else 2
def ph (s q : Int) : Int := s * 65536 + q / 16777216
def pl (q r n : Int) : Int := q % 16777216 * 1099511627776 + r * 68719476736 + n
def px (s q r n : Int) : Int := if pe s q r n = 0 then ph s q else 0
def py (s q r n : Int) : Int := if pe s q r n = 0 then pl q r n else 0
/-- Unpack: the key, and its error. -/
def us (a : Int) : Int := a / 65536
def uq (a b : Int) : Int := a % 65536 * 16777216 + b / 1099511627776
def ur (b : Int) : Int := b / 68719476736 % 16
def un (b : Int) : Int := b % 68719476736
def ue (a b : Int) : Int := if a < 72057594037927936 ∧ ck (us a) (uq a b) (ur b) (un b) = 0 then 0 else 2
def vs (a b : Int) : Int := if ue a b = 0 then us a else 0
def vq (a b : Int) : Int := if ue a b = 0 then uq a b else 0
def vr (a b : Int) : Int := if ue a b = 0 then ur b else 0
def vn (a b : Int) : Int := if ue a b = 0 then un b else 0
theorem or_nat {a b : Nat} (i : Nat) (hb : b < 2 ^ i) (h : 2 ^ i * a + b < 18446744073709551616) : bits .or .u64 ((2 ^ i * a : Nat) : Int) (b : Int) = ((2 ^ i * a + b : Nat) : Int) := by
  rw [u64_or_nat _ _ (by omega) (by omega), Nat.two_pow_add_eq_or_of_lt hb]
theorem and_nat (x : Nat) (i : Nat) (hi : i < 64) (h : x < 18446744073709551616) : bits .and .u64 (x : Int) ((2 ^ i - 1 : Nat) : Int) = ((x % 2 ^ i : Nat) : Int) := by
  have h2 : 2 ^ i ≤ 2 ^ 63 := Nat.pow_le_pow_right (by omega) (by omega)
  rw [u64_and_nat _ _ h (by omega), Nat.and_two_pow_sub_one_eq_mod]
theorem ph_eq {s q : Int} (hs : 0 ≤ s ∧ s < 1099511627776) (hq : 0 ≤ q ∧ q < 1099511627776) : bits .or .u64 (s * 65536) (q / 16777216) = ph s q := by
  obtain ⟨S, rfl⟩ := Int.eq_ofNat_of_zero_le hs.1
  obtain ⟨Q, rfl⟩ := Int.eq_ofNat_of_zero_le hq.1
  have := or_nat (a := S) (b := Q / 16777216) 16 (by omega) (by omega)
  have e1 : ((2 ^ 16 * S : Nat) : Int) = (S : Int) * 65536 := by omega
  have e2 : ((Q / 16777216 : Nat) : Int) = (Q : Int) / 16777216 := by omega
  rw [e1, e2] at this
  rw [this, ph]
  omega
theorem wrap_u64 (x : Int) : IntKind.u64.wrap x = x % 18446744073709551616 := by
  simp [IntKind.wrap, IntKind.signed, IntKind.bits]
theorem pl_eq {q r n : Int} (hq : 0 ≤ q ∧ q < 1099511627776) (hr : 0 ≤ r ∧ r ≤ 8) (hn : 0 ≤ n ∧ n < 68719476736) :
    bits .or .u64 (bits .or .u64 (IntKind.u64.wrap (q * 1099511627776)) (IntKind.u64.wrap (r * 68719476736))) n = pl q r n := by
  obtain ⟨Q, rfl⟩ := Int.eq_ofNat_of_zero_le hq.1
  obtain ⟨R, rfl⟩ := Int.eq_ofNat_of_zero_le hr.1
  obtain ⟨N, rfl⟩ := Int.eq_ofNat_of_zero_le hn.1
  have e1 : IntKind.u64.wrap ((Q : Int) * 1099511627776) = ((2 ^ 40 * (Q % 16777216) : Nat) : Int) := by rw [wrap_u64]; omega
  have e2 : IntKind.u64.wrap ((R : Int) * 68719476736) = ((R * 68719476736 : Nat) : Int) := by rw [wrap_u64]; omega
  rw [e1, e2, or_nat 40 (by omega) (by omega)]
  have e3 : 2 ^ 40 * (Q % 16777216) + R * 68719476736 = 2 ^ 36 * (16 * (Q % 16777216) + R) := by omega
  rw [e3, or_nat 36 (by omega) (by omega), pl]
  omega
theorem lw40 {x : Int} (h : 0 ≤ x ∧ x < 18446744073709551616) : wrap64 (bits .and .u64 x 1099511627775) = x % 1099511627776 := by
  obtain ⟨X, rfl⟩ := Int.eq_ofNat_of_zero_le h.1
  have := and_nat X 40 (by omega) (by omega)
  rw [show (((2 ^ 40 - 1 : Nat)) : Int) = 1099511627775 by decide] at this
  rw [this]
  unfold wrap64
  omega
theorem lw36 {x : Int} (h : 0 ≤ x ∧ x < 18446744073709551616) : wrap64 (bits .and .u64 x 68719476735) = x % 68719476736 := by
  obtain ⟨X, rfl⟩ := Int.eq_ofNat_of_zero_le h.1
  have := and_nat X 36 (by omega) (by omega)
  rw [show (((2 ^ 36 - 1 : Nat)) : Int) = 68719476735 by decide] at this
  rw [this]
  unfold wrap64
  omega
theorem lw4 {x : Int} (h : 0 ≤ x ∧ x < 18446744073709551616) : wrap64 (bits .and .u64 x 15) = x % 16 := by
  obtain ⟨X, rfl⟩ := Int.eq_ofNat_of_zero_le h.1
  have := and_nat X 4 (by omega) (by omega)
  rw [show (((2 ^ 4 - 1 : Nat)) : Int) = 15 by decide] at this
  rw [this]
  unfold wrap64
  omega
theorem uq_or {a b : Int} (ha : 0 ≤ a ∧ a < 18446744073709551616) (hb : 0 ≤ b ∧ b < 18446744073709551616) : bits .or .u64 (IntKind.u64.wrap (a * 16777216)) (b / 1099511627776) = a % 1099511627776 * 16777216 + b / 1099511627776 := by
  obtain ⟨A, rfl⟩ := Int.eq_ofNat_of_zero_le ha.1
  obtain ⟨B, rfl⟩ := Int.eq_ofNat_of_zero_le hb.1
  have e1 : IntKind.u64.wrap ((A : Int) * 16777216) = ((2 ^ 24 * (A % 1099511627776) : Nat) : Int) := by rw [wrap_u64]; omega
  have e2 : (B : Int) / 1099511627776 = ((B / 1099511627776 : Nat) : Int) := by omega
  rw [e1, e2, or_nat 24 (by omega) (by omega)]
  omega
end Go.Proofs.Ytbfgnlpgfjokhaa
