/- works answers true. No conditions. -/
import Derived.Test.YtbfgnlpgfjokhaaPa
namespace Go.Proofs.Ytbfgnlpgfjokhaa
open Go.RowKit
theorem isInt33 : Try.prog.underlying 33 = some (.int .u64) := Try.underlying33
theorem eq34 (a b c d : Int) (w : World) : (Op.equalIn 10000 34 (.agg #[.int .u64 a, .int .u64 b]) (.agg #[.int .u64 c, .int .u64 d])).run Try.prog w = .ok (a == c && b == d) w := by
  have u3 := Try.underlying33
  have a3 := Try.isAgg33
  have z3 := Try.sizeOf33
  rw [show (10000 : Nat) = 9999 + 1 from rfl, Op.equalIn]
  simp only [Sem.run_bind, run_underlying Try.underlying34, Result.andThen_ok]
  simp only [Std.Legacy.Range.forIn_eq_forIn_range', Std.Legacy.Range.size, Nat.sub_zero, Nat.add_sub_cancel, Nat.div_one, List.range'_succ, List.range'_zero, List.forIn_cons, List.forIn_nil]
  go_simp
  by_cases h1 : a = c <;> by_cases h2 : b = d <;> simp [h1, h2]
theorem wk1 : ks 5 1 1 9 5 1 2 0 = -1 := by decide
theorem wk2 : ks 5 1 1 9 5 1 1 8 = 1 := by decide
theorem wk3 : px 1 2 3 4 = 65536 := by decide +kernel
theorem wk4 : py 1 2 3 4 = 2405181685764 := by decide +kernel
theorem wk5 : pe 1 2 3 4 = 0 := by decide +kernel
theorem works (w : World) : Calls Try.prog 17 #[] w fun e w' => e = .returned (.bool true) ∧ Mod (fun _ => False) w w' := by
  have HQ := fun w => eq34 65536 2405181685764 65536 2405181685764 w
  have HK := key
  have HP := Pack 1 2 3 4
  have H1 := Keys 5 1 1 9 5 1 2 0
  have H2 := Keys 5 1 1 9 5 1 1 8
  rw [wk3, wk4, wk5] at HP
  rw [wk1] at H1
  rw [wk2] at H2
  go_enter Try.func17, Try.ntmps17
  go_wp2_with (fail)
  refine (HK _ _ _ _ _).mono ?_
  rintro e w1 ⟨rfl, hm1⟩
  go_wp2_with (fail)
  refine (HP _).mono ?_
  rintro e w2 ⟨rfl, hm2⟩
  replace hm2 := hm1.and hm2
  clear hm1 HP
  go_wp2_with (fail)
  refine (HK _ _ _ _ _).mono ?_
  rintro e w3 ⟨rfl, hm3⟩
  go_wp2_with (fail)
  refine (HK _ _ _ _ _).mono ?_
  rintro e w4 ⟨rfl, hm4⟩
  go_wp2_with (fail)
  refine (H1 _).mono ?_
  rintro e w5 ⟨rfl, hm5⟩
  go_wp2_with (fail)
  refine (HK _ _ _ _ _).mono ?_
  rintro e w6 ⟨rfl, hm6⟩
  go_wp2_with (fail)
  refine (HK _ _ _ _ _).mono ?_
  rintro e w7 ⟨rfl, hm7⟩
  go_wp2_with (fail)
  refine (H2 _).mono ?_
  rintro e w8 ⟨rfl, hm8⟩
  have hm := ((((hm3.and hm4).and hm5).and hm6).and hm7).and hm8
  have c0 : w8.cell? ⟨w2.heap.size, 0, none⟩ = some (.int .u64 65536) := hm.cell (by simp [go_sem]) (fun h => h)
  have c1 : w8.cell? ⟨w2.heap.size, 1, none⟩ = some (.int .u64 2405181685764) := hm.cell (by simp [go_sem]) (fun h => h)
  replace hm := (hm2.alloc _).and hm
  clear hm2 hm3 hm4 hm5 hm6 hm7 hm8 H1 H2 HK
  go_wp2
  go_ret
  exact ⟨rfl, hm⟩
end Go.Proofs.Ytbfgnlpgfjokhaa
