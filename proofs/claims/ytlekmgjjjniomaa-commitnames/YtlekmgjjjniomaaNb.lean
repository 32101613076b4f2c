/- What holds of the crews below 512, one after the other: lists, counts, going round. No conditions. -/
import Derived.Test.YtlekmgjjjniomaaNa
namespace Go.Proofs.Ytlekmgjjjniomaa.Cr
/-- Numbers below 512, one after the other. -/
theorem ls_node : ∀ m : Fin 512, (ls m.val).all (fun n => decide (1 ≤ n) && decide (n ≤ 8) && hs m.val n.toNat) = true := by decide +kernel
theorem off_ls : ∀ m : Fin 512, off 0 (ls m.val) = some (m.val &&& 510) := by decide +kernel
theorem cn_or : ∀ m : Fin 512, ∀ n : Fin 9, cn (m.val ||| 2 ^ n.val) ≤ cn m.val + 1 := by decide +kernel
theorem add_or : ∀ m : Fin 512, ∀ n : Fin 9, n.val ≠ 0 → hs m.val n.val = false → m.val + 2 ^ n.val = m.val ||| 2 ^ n.val := by decide +kernel
theorem or_has : ∀ m : Fin 512, ∀ n : Fin 9, n.val ≠ 0 → hs m.val n.val = true → m.val = m.val ||| 2 ^ n.val := by decide +kernel
theorem hs_510 : ∀ m : Fin 512, (m.val &&& 510) &&& 510 = m.val &&& 510 := by decide +kernel
theorem ls_find : ∀ m : Fin 512, ∀ n : Fin 9, ((ls m.val).find? (fun x => decide (((n.val : Nat) : Int) < x))).getD ((ls m.val).headD 0) = nx m.val n.val := by decide +kernel
def rising : List Int → Bool
  | a :: b :: l => decide (a < b) && rising (b :: l)
  | _ => true
theorem ls_rising : ∀ m : Fin 512, rising (ls m.val) = true := by decide +kernel
theorem ls_len : ∀ m : Fin 512, (ls m.val).length ≤ 8 := by decide +kernel
def bc (m : Nat) : Nat := (m.testBit 1).toNat + (m.testBit 2).toNat + (m.testBit 3).toNat + (m.testBit 4).toNat + (m.testBit 5).toNat + (m.testBit 6).toNat + (m.testBit 7).toNat + (m.testBit 8).toNat
theorem cn_bits : ∀ m : Fin 512, cn m.val = bc m.val := by decide +kernel
/-- Going round. -/
def rd (m first : Nat) : Nat → Nat → Nat → Nat → Bool
  | 0, at', met, _ => Nat.beq at' first && Nat.beq met (m &&& 510)
  | f + 1, at', met, i => hs m at' && !(Nat.ble 1 i && Nat.beq at' first) && !(met.testBit at') && rd m first f (nx m at') (met ||| 2 ^ at') (i + 1)
theorem rd_all : ∀ m : Fin 512, ∀ n : Fin 9, cn m.val ≠ 0 → rd m.val (nx m.val n.val) (cn m.val) (nx m.val n.val) 0 0 = true := by decide +kernel
theorem nx_none : ∀ m : Fin 512, ∀ n : Fin 9, cn m.val = 0 → nx m.val n.val = 0 ∧ ab m.val 0 = 0 := by decide +kernel
end Go.Proofs.Ytlekmgjjjniomaa.Cr
