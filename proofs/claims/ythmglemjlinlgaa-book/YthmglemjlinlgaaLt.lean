/- Bits of a side, as plain numbers. No conditions. -/
import Derived.Test.YthmglemjlinlgaaLr
namespace Go.Proofs.Ythmglemjlinlgaa
open Go.RowKit
/-- The nine lowest bits. -/
def lo (c : Int) : Nat := (c % 512).toNat
theorem lo_lt (c : Int) : lo c < 512 := by unfold lo; omega
theorem and_nat (x : Int) (y : Nat) (hy : y < 2 ^ 63) : bits .and .i64 x y = (((x % 2 ^ 64).toNat &&& y : Nat) : Int) := by
  have e : ((BitVec.ofInt 64 x &&& BitVec.ofInt 64 (y : Int)).toNat) = (x % 2 ^ 64).toNat &&& y := by
    rw [BitVec.toNat_and, BitVec.toNat_ofInt, BitVec.toNat_ofInt]
    congr 1
    omega
  have hle : (x % 2 ^ 64).toNat &&& y ≤ y := Nat.and_le_right
  show IntKind.i64.wrap ((BitVec.ofInt 64 x &&& BitVec.ofInt 64 (y : Int)).toNat : Nat) = _
  rw [e, IntKind.wrap_i64]
  omega
theorem and_lo (x : Int) (y : Nat) (hy : y < 512) : bits .and .i64 x y = ((lo x &&& y : Nat) : Int) := by
  rw [and_nat x y (by omega)]
  have e : (x % 2 ^ 64).toNat % 512 = lo x := by unfold lo; omega
  have h1 : y = 511 &&& y := by
    have := Nat.and_two_pow_sub_one_of_lt_two_pow (x := y) (n := 9) (by omega)
    rw [Nat.and_comm]
    exact this.symm
  have h2 : (x % 2 ^ 64).toNat &&& 511 = (x % 2 ^ 64).toNat % 512 := Nat.and_two_pow_sub_one_eq_mod _ 9
  rw [h1, ← Nat.and_assoc, h2, e]
  rw [← h1]
theorem bit_fact : ∀ m : Fin 512, ∀ n : Fin 9, (m.val &&& 2 ^ n.val != 0) = decide (m.val / 2 ^ n.val % 2 = 1) := by decide +kernel
theorem lo_bit (s : Int) (n : Nat) (h : n ≤ 8) : ((lo s / 2 ^ n % 2 : Nat) : Int) = s / 2 ^ n % 2 := by
  have : n = 0 ∨ n = 1 ∨ n = 2 ∨ n = 3 ∨ n = 4 ∨ n = 5 ∨ n = 6 ∨ n = 7 ∨ n = 8 := by omega
  unfold lo
  rcases this with rfl | rfl | rfl | rfl | rfl | rfl | rfl | rfl | rfl <;> omega
theorem bt_eq (s : Int) (n : Nat) (h : n ≤ 8) : bt s n = s / 2 ^ n % 2 := by
  unfold bt
  rw [Int.toNat_natCast, Nat.min_eq_left (by omega)]
  have e : bits .and .i64 (s / 2 ^ n) 1 = ((lo (s / 2 ^ n) &&& 1 : Nat) : Int) := and_lo _ 1 (by omega)
  rw [e, Nat.and_one_is_mod]
  unfold lo
  omega
/-- The document's bit. -/
def sd (s : Int) (n : Nat) : Bool := decide (s / 2 ^ n % 2 = 1)
theorem sd_eq (s : Int) (n : Nat) (h : n ≤ 8) : (bits .and .i64 s ((2 ^ n : Nat) : Int) != 0) = sd s n := by
  have hp : 2 ^ n < 512 := by
    have : 2 ^ n ≤ 2 ^ 8 := Nat.pow_le_pow_right (by omega) (by omega)
    omega
  rw [and_lo _ _ hp]
  have hb := bit_fact ⟨lo s, lo_lt s⟩ ⟨n, by omega⟩
  have hl := lo_bit s n h
  unfold sd
  rw [← hl]
  simp only at hb
  have e : decide (((lo s / 2 ^ n % 2 : Nat) : Int) = 1) = decide (lo s / 2 ^ n % 2 = 1) := by
    rw [decide_eq_decide]
    omega
  rw [e, ← hb]
  by_cases h0 : lo s &&& 2 ^ n = 0
  · simp [h0]
  · have h' : ((lo s &&& 2 ^ n : Nat) : Int) ≠ 0 := by omega
    rw [bne_iff_ne.2 h', bne_iff_ne.2 h0]
theorem bt_sd (s : Int) (n m : Nat) (hn : n ≤ 8) (hm : m ≤ 8) : (bt s n == bt s m) = (sd s n == sd s m) := by
  rw [bt_eq s n hn, bt_eq s m hm]
  unfold sd
  have h1 : s / 2 ^ n % 2 = 0 ∨ s / 2 ^ n % 2 = 1 := by omega
  have h2 : s / 2 ^ m % 2 = 0 ∨ s / 2 ^ m % 2 = 1 := by omega
  rcases h1 with h1 | h1 <;> rcases h2 with h2 | h2 <;> rw [h1, h2] <;> rfl
theorem bt_not (s : Int) (n : Nat) (hn : n ≤ 8) : bt (-1 - s) n = 1 - bt s n := by
  rw [bt_eq _ n hn, bt_eq s n hn]
  have : n = 0 ∨ n = 1 ∨ n = 2 ∨ n = 3 ∨ n = 4 ∨ n = 5 ∨ n = 6 ∨ n = 7 ∨ n = 8 := by omega
  rcases this with rfl | rfl | rfl | rfl | rfl | rfl | rfl | rfl | rfl <;> omega
/-- The document's side. -/
def side (s : Int) : List Bool := (List.range 9).map (sd s)
theorem side_get (s : Int) (n : Nat) (h : n ≤ 8) : (side s).getD n false = sd s n := by
  simp [side, show n < 9 by omega]
theorem side_zero : side 0 = List.replicate 9 false := by decide
end Go.Proofs.Ythmglemjlinlgaa
