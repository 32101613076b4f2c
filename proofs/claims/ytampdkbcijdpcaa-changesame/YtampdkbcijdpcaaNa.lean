/- Crews as plain numbers below 512: which nodes, the list, the count, the next one; what bits make of any int. No conditions. -/
import Derived.Test.YtampdkbcijdpcaaMi
namespace Go.Proofs.Ytampdkbcijdpcaa.Cr
open Go.RowKit

/-- The nine lowest bits. -/
def lo (c : Int) : Nat := (c % 512).toNat
theorem lo_lt (c : Int) : lo c < 512 := by unfold lo; omega
theorem lo_int (c : Int) : (lo c : Int) = c % 512 := by unfold lo; omega
/-- Whether n is a node, and in m. -/
def hs (m n : Nat) : Bool := Nat.ble 1 n && (Nat.ble n 8 && m.testBit n)
def node (n : Int) : Bool := decide (1 ≤ n) && decide (n < 9)
def has (c n : Int) : Bool := node n && hs (lo c) n.toNat
/-- The nodes of m below k. -/
def lsk (m : Nat) : Nat → List Int
  | 0 => []
  | k + 1 => if hs m k then lsk m k ++ [(k : Int)] else lsk m k
def ls (m : Nat) : List Int := lsk m 9
def cn (m : Nat) : Nat := (ls m).length
/-- The least node of m above n, of the last f numbers ahead of 9. -/
def abf (m : Nat) (n : Int) : Nat → Nat
  | 0 => 0
  | f + 1 => if decide (n < ((8 - f : Nat) : Int)) && hs m (8 - f) then 8 - f else abf m n f
def ab (m : Nat) (n : Int) : Nat := abf m n 9
def nx (m : Nat) (n : Int) : Nat := if ab m n = 0 then ab m 0 else ab m n
/-- The crew of l, behind a. -/
def off : Nat → List Int → Option Nat
  | a, [] => some a
  | a, n :: l => if node n then off (a ||| 2 ^ n.toNat) l else none
def chk (c : Int) : Int := if ((lo c &&& 510 : Nat) : Int) = c then 0 else 2

theorem hs_big (m n : Nat) (h : 9 ≤ n) : hs m n = false := by
  have : Nat.ble n 8 = false := by rw [Bool.eq_false_iff]; intro e; have := Nat.le_of_ble_eq_true e; omega
  simp [hs, this]
theorem hs_pos {m n : Nat} (h : hs m n = true) : 1 ≤ n ∧ n ≤ 8 := by
  simp only [hs, Bool.and_eq_true, Nat.ble_eq] at h
  exact ⟨h.1, h.2.1⟩

/-- Bits of any number with a small one. -/
theorem and_nat (x : Int) (y : Nat) (hy : y < 2 ^ 63) : bits .and .i64 x y = (((x % 2 ^ 64).toNat &&& y : Nat) : Int) := by
  have e : ((BitVec.ofInt 64 x &&& BitVec.ofInt 64 (y : Int)).toNat) = (x % 2 ^ 64).toNat &&& y := by
    rw [BitVec.toNat_and, BitVec.toNat_ofInt, BitVec.toNat_ofInt]
    congr 1
    omega
  have hle : (x % 2 ^ 64).toNat &&& y ≤ y := Nat.and_le_right
  show IntKind.i64.wrap ((BitVec.ofInt 64 x &&& BitVec.ofInt 64 (y : Int)).toNat : Nat) = _
  rw [e, IntKind.wrap_i64]
  omega
theorem and_lo (x : Int) (y : Nat) (hy : y < 512) : bits .and .i64 x y = ((lo x &&& y : Nat) : Int) := by
  rw [and_nat x y (by omega)]
  have e : (x % 2 ^ 64).toNat % 512 = lo x := by unfold lo; omega
  have h1 : y = 511 &&& y := by
    have := Nat.and_two_pow_sub_one_of_lt_two_pow (x := y) (n := 9) (by omega)
    rw [Nat.and_comm]
    exact this.symm
  have h2 : (x % 2 ^ 64).toNat &&& 511 = (x % 2 ^ 64).toNat % 512 := Nat.and_two_pow_sub_one_eq_mod _ 9
  rw [h1, ← Nat.and_assoc, h2, e]
  rw [← h1]
theorem bit_fact : ∀ m : Fin 512, ∀ n : Fin 9, (decide (m.val / 2 ^ n.val % 2 = 1) = m.val.testBit n.val) ∧ ((m.val &&& 2 ^ n.val != 0) = m.val.testBit n.val) := by decide +kernel
theorem shr_bit (c n : Int) (h1 : 1 ≤ n) (h2 : n < 9) : (bits .and .i64 (c / 2 ^ n.toNat) 1 == 1) = hs (lo c) n.toNat := by
  have e : bits .and .i64 (c / 2 ^ n.toNat) 1 = ((lo (c / 2 ^ n.toNat) &&& 1 : Nat) : Int) := and_lo _ 1 (by omega)
  rw [e, Nat.and_one_is_mod]
  have hb := (bit_fact ⟨lo c, lo_lt c⟩ ⟨n.toNat, by omega⟩).1
  simp only at hb
  have hn : Nat.ble 1 n.toNat = true := by rw [Nat.ble_eq]; omega
  have hm : Nat.ble n.toNat 8 = true := by rw [Nat.ble_eq]; omega
  rw [hs, hn, hm, Bool.true_and, Bool.true_and, ← hb]
  have key : (lo (c / 2 ^ n.toNat)) % 2 = lo c / 2 ^ n.toNat % 2 := by
    obtain ⟨k, hk⟩ : ∃ k, k = n.toNat := ⟨_, rfl⟩
    rw [← hk]
    have : k = 1 ∨ k = 2 ∨ k = 3 ∨ k = 4 ∨ k = 5 ∨ k = 6 ∨ k = 7 ∨ k = 8 := by omega
    unfold lo
    rcases this with rfl | rfl | rfl | rfl | rfl | rfl | rfl | rfl <;> omega
  rw [key]
  by_cases h : lo c / 2 ^ n.toNat % 2 = 1
  · simp [h]
  · have : lo c / 2 ^ n.toNat % 2 = 0 := by omega
    simp [this]
theorem and_bit (c n : Int) (h1 : 1 ≤ n) (h2 : n < 9) : (bits .and .i64 c ((2 ^ n.toNat : Nat) : Int) != 0) = hs (lo c) n.toNat := by
  have hp : 2 ^ n.toNat < 512 := by
    have : 2 ^ n.toNat ≤ 2 ^ 8 := Nat.pow_le_pow_right (by omega) (by omega)
    omega
  rw [and_lo _ _ hp]
  have hb := (bit_fact ⟨lo c, lo_lt c⟩ ⟨n.toNat, by omega⟩).2
  have hn : Nat.ble 1 n.toNat = true := by rw [Nat.ble_eq]; omega
  have hm : Nat.ble n.toNat 8 = true := by rw [Nat.ble_eq]; omega
  rw [hs, hn, hm, Bool.true_and, Bool.true_and, ← hb]
  by_cases h : lo c &&& 2 ^ n.toNat = 0
  · simp [h]
  · have h' : ((lo c &&& 2 ^ n.toNat : Nat) : Int) ≠ 0 := by omega
    rw [bne_iff_ne.2 h', bne_iff_ne.2 h]
theorem andNot_zero (a b : BitVec 64) : a &&& ~~~b = 0 ↔ a &&& b = a := by
  constructor
  · intro h
    apply BitVec.eq_of_getLsbD_eq
    intro i hi
    have := congrArg (fun x => x.getLsbD i) h
    simp only [BitVec.getLsbD_and, BitVec.getLsbD_not] at this ⊢
    simp [hi] at this
    cases h1 : a.getLsbD i <;> cases h2 : b.getLsbD i <;> simp_all
  · intro h
    apply BitVec.eq_of_getLsbD_eq
    intro i hi
    have := congrArg (fun x => x.getLsbD i) h
    simp only [BitVec.getLsbD_and, BitVec.getLsbD_not] at this ⊢
    cases h1 : a.getLsbD i <;> cases h2 : b.getLsbD i <;> simp_all
theorem wrap_zero (n : Nat) (h : n < 2 ^ 64) : IntKind.i64.wrap (n : Int) = 0 ↔ n = 0 := by
  rw [IntKind.wrap_i64]
  omega
theorem wrap_inj (a : BitVec 64) (c : Int) (h : IntKind.i64.wrap (a.toNat : Int) = c) : a = BitVec.ofInt 64 c := by
  apply BitVec.eq_of_toNat_eq
  rw [BitVec.toNat_ofInt]
  rw [IntKind.wrap_i64] at h
  have := a.isLt
  omega
theorem wrap_of (c : Int) (hc : -9223372036854775808 ≤ c ∧ c ≤ 9223372036854775807) : IntKind.i64.wrap ((BitVec.ofInt 64 c).toNat : Int) = c := by
  rw [IntKind.wrap_i64, BitVec.toNat_ofInt]
  omega
theorem chk_eq (c : Int) (hc : -9223372036854775808 ≤ c ∧ c ≤ 9223372036854775807) : (bits .andNot .i64 c 510 != 0) = !decide (((lo c &&& 510 : Nat) : Int) = c) := by
  have e : bits .andNot .i64 c 510 = IntKind.i64.wrap ((BitVec.ofInt 64 c &&& ~~~(BitVec.ofInt 64 510)).toNat : Nat) := rfl
  have e2 : bits .and .i64 c 510 = IntKind.i64.wrap ((BitVec.ofInt 64 c &&& (BitVec.ofInt 64 510)).toNat : Nat) := rfl
  have e3 : bits .and .i64 c 510 = ((lo c &&& 510 : Nat) : Int) := and_lo c 510 (by omega)
  have k : bits .andNot .i64 c 510 = 0 ↔ ((lo c &&& 510 : Nat) : Int) = c := by
    rw [← e3, e, e2, wrap_zero _ (BitVec.isLt _)]
    constructor
    · intro h
      have h' : BitVec.ofInt 64 c &&& ~~~(BitVec.ofInt 64 510) = 0 := by apply BitVec.eq_of_toNat_eq; rw [h]; rfl
      rw [(andNot_zero _ _).1 h', wrap_of c hc]
    · intro h
      have h' := (andNot_zero _ _).2 (wrap_inj _ c h)
      rw [h']
      rfl
  by_cases h : bits .andNot .i64 c 510 = 0
  · simp [h, k.1 h]
  · have := mt k.2 h
    simp [h, this]

/-- The lowest bits of what is joined, or common, or turned. -/
theorem lo_bits (x : BitVec 64) : lo (IntKind.i64.wrap (x.toNat : Int)) = x.toNat % 512 := by
  rw [IntKind.wrap_i64]
  unfold lo
  have := x.isLt
  omega
theorem lo_of (c : Int) : (BitVec.ofInt 64 c).toNat % 512 = lo c := by
  rw [BitVec.toNat_ofInt]
  unfold lo
  omega
theorem lo_or (a b : Int) : lo (bits .or .i64 a b) = lo a ||| lo b := by
  have e : bits .or .i64 a b = IntKind.i64.wrap ((BitVec.ofInt 64 a ||| BitVec.ofInt 64 b).toNat : Nat) := rfl
  rw [e, lo_bits, BitVec.toNat_or, ← lo_of a, ← lo_of b]
  exact Nat.or_mod_two_pow (n := 9)
theorem lo_and (a b : Int) : lo (bits .and .i64 a b) = lo a &&& lo b := by
  have e : bits .and .i64 a b = IntKind.i64.wrap ((BitVec.ofInt 64 a &&& BitVec.ofInt 64 b).toNat : Nat) := rfl
  rw [e, lo_bits, BitVec.toNat_and, ← lo_of a, ← lo_of b]
  exact Nat.and_mod_two_pow (n := 9)
theorem or_nat (a b : Nat) (ha : a < 512) (hb : b < 512) : bits .or .i64 a b = ((a ||| b : Nat) : Int) := by
  have e : bits .or .i64 a b = IntKind.i64.wrap ((BitVec.ofInt 64 a ||| BitVec.ofInt 64 b).toNat : Nat) := rfl
  have e2 : ((BitVec.ofInt 64 (a : Int) ||| BitVec.ofInt 64 (b : Int)).toNat) = a ||| b := by
    rw [BitVec.toNat_or, BitVec.toNat_ofInt, BitVec.toNat_ofInt]
    congr 1 <;> omega
  have : a ||| b < 2 ^ 9 := Nat.or_lt_two_pow (by omega) (by omega)
  rw [e, e2, IntKind.wrap_i64]
  omega
end Go.Proofs.Ytampdkbcijdpcaa.Cr
