/- Count, by the library's way of counting bits. No conditions. -/
import Derived.Test.YtlekmgjjjniomaaNa
import Derived.Deep.QuietTactic
import Derived.BigQuiet
namespace Go.Proofs.Ytlekmgjjjniomaa.Cr
open Go.RowKit
def p1 (x : Int) : Int := IntKind.u64.wrap (bits .and .u64 (x / 2) 6148914691236517205 + bits .and .u64 x 6148914691236517205)
def p2 (x : Int) : Int := IntKind.u64.wrap (bits .and .u64 (x / 4) 3689348814741910323 + bits .and .u64 x 3689348814741910323)
def p3 (x : Int) : Int := bits .and .u64 (IntKind.u64.wrap (x / 16 + x)) 1085102592571150095
def p4 (x : Int) : Int := IntKind.u64.wrap (x + x / 256)
def p5 (x : Int) : Int := IntKind.u64.wrap (x + x / 65536)
def p6 (x : Int) : Int := IntKind.u64.wrap (x + x / 4294967296)
def p7 (x : Int) : Int := bits .and .i64 (wrap64 x) 127
theorem pop_fact : ∀ m : Fin 512, p7 (p6 (p5 (p4 (p3 (p2 (p1 ((m.val &&& 510 : Nat) : Int))))))) = (cn m.val : Int) := by decide +kernel
theorem OC64 (x : Int) (w : World) : Calls Try.prog 63 #[.int .u64 x] w fun e w' => e = .returned (.int .i64 (p7 (p6 (p5 (p4 (p3 (p2 (p1 x)))))))) ∧ w' = w := by
    go_enter Try.func63, Try.ntmps63
    go_wp2
    go_ret
    refine ⟨?_, rfl⟩
    unfold p7 p6 p5 p4 p3 p2 p1
    rfl
theorem OC (x : Int) (w : World) : Calls Try.prog 46 #[.int .u64 x] w fun e w' => e = .returned (.int .i64 (p7 (p6 (p5 (p4 (p3 (p2 (p1 x)))))))) ∧ w' = w := by
    have H := OC64 x w
    generalize p7 (p6 (p5 (p4 (p3 (p2 (p1 x)))))) = r at H ⊢
    go_enter Try.func46, Try.ntmps46
    go_wp2_with (go_at_call 63; refine H.mono ?_; rintro e w' ⟨rfl, rfl⟩)
    go_ret
    exact ⟨rfl, rfl⟩
theorem Count (c : Int) (w : World) : Calls Try.prog 28 #[.int .i64 c] w fun e w' => e = .returned (.int .i64 (cn (lo c))) ∧ w' = w := by
    have h : IntKind.u64.wrap (bits .and .i64 c 510) = ((lo c &&& 510 : Nat) : Int) := by
      rw [show bits .and .i64 c 510 = ((lo c &&& 510 : Nat) : Int) from and_lo c 510 (by omega), IntKind.wrap_u64]
      have : lo c &&& 510 ≤ 510 := Nat.and_le_right
      omega
    have H := OC (IntKind.u64.wrap (bits .and .i64 c 510)) w
    rw [h, pop_fact ⟨lo c, lo_lt c⟩, ← h] at H
    clear h
    generalize (cn (lo c) : Int) = r at H ⊢
    go_enter Try.func28, Try.ntmps28
    go_wp2_with (go_at_call 46; refine H.mono ?_; rintro e w' ⟨rfl, rfl⟩)
    go_ret
    exact ⟨rfl, rfl⟩
end Go.Proofs.Ytlekmgjjjniomaa.Cr
