/- Plain: how keys stand is an order; and what comparing two keys answers. No conditions. -/
import Derived.Test.YtbfgnlpgfjokhaaWo
namespace Go.Proofs.Ytbfgnlpgfjokhaa
open Go.RowKit
theorem cm_rng (a b : Int) : -1 ≤ cm a b ∧ cm a b ≤ 1 := by unfold cm; split <;> (try split) <;> omega
theorem cm_neg (a b : Int) : cm b a = - cm a b := by unfold cm; split <;> split <;> (try split) <;> omega
theorem rg_rng (a b c d : Int) : -1 ≤ rg a b c d ∧ rg a b c d ≤ 1 := by unfold rg; split <;> exact cm_rng _ _
theorem rg_neg (q r q' r' : Int) : rg q' r' q r = - rg q r q' r' := by
  unfold rg
  by_cases h : q = q'
  · rw [if_pos h, if_pos h.symm, cm_neg]
  · rw [if_neg h, if_neg (fun e => h e.symm), cm_neg]
theorem ks_rng (s q r n s' q' r' n' : Int) : -1 ≤ ks s q r n s' q' r' n' ∧ ks s q r n s' q' r' n' ≤ 1 := by
  unfold ks; split <;> (try split) <;> first | exact cm_rng _ _ | exact rg_rng _ _ _ _
theorem ks_neg (s q r n s' q' r' n' : Int) : ks s' q' r' n' s q r n = - ks s q r n s' q' r' n' := by
  unfold ks
  by_cases h : s = s'
  · rw [if_pos h, if_pos h.symm]
    by_cases h2 : q = q' ∧ r = r'
    · rw [if_pos h2, if_pos ⟨h2.1.symm, h2.2.symm⟩, cm_neg]
    · rw [if_neg h2, if_neg (fun e => h2 ⟨e.1.symm, e.2.symm⟩), rg_neg]
  · rw [if_neg h, if_neg (fun e => h e.symm), cm_neg]
theorem ks_zero {s q r n s' q' r' n' : Int} : ks s q r n s' q' r' n' = 0 ↔ s = s' ∧ q = q' ∧ r = r' ∧ n = n' := by
  unfold ks
  by_cases h : s = s'
  · rw [if_pos h]
    by_cases h2 : q = q' ∧ r = r'
    · rw [if_pos h2, cm_zero]
      exact ⟨fun e => ⟨h, h2.1, h2.2, e⟩, fun e => e.2.2.2⟩
    · rw [if_neg h2, rg_zero]
      exact ⟨fun e => absurd e h2, fun e => ⟨e.2.1, e.2.2.1⟩⟩
  · rw [if_neg h, cm_zero]
    exact ⟨fun e => absurd e h, fun e => e.1⟩
theorem cm_trans {a b c : Int} (h1 : cm a b ≤ 0) (h2 : cm b c ≤ 0) : cm a c ≤ 0 ∧ (cm a c = 0 → cm a b = 0 ∧ cm b c = 0) := by
  unfold cm at *; split at h1 <;> split at h2 <;> (try split at h1) <;> (try split at h2) <;> (repeat' split) <;> omega
theorem cm_le {a b : Int} : cm a b ≤ 0 ↔ a ≤ b := by unfold cm; split <;> (try split) <;> omega
theorem rg_le {q r q' r' : Int} : rg q r q' r' ≤ 0 ↔ q < q' ∨ (q = q' ∧ r ≤ r') := by
  unfold rg
  by_cases h : q = q'
  · rw [if_pos h, cm_le]; omega
  · rw [if_neg h, cm_le]; omega
theorem ks_le {s q r n s' q' r' n' : Int} : ks s q r n s' q' r' n' ≤ 0 ↔ s < s' ∨ (s = s' ∧ (q < q' ∨ (q = q' ∧ (r < r' ∨ (r = r' ∧ n ≤ n'))))) := by
  unfold ks
  by_cases h : s = s'
  · rw [if_pos h]
    by_cases h2 : q = q' ∧ r = r'
    · rw [if_pos h2, cm_le]; omega
    · rw [if_neg h2, rg_le]; omega
  · rw [if_neg h, cm_le]; omega
theorem ks_trans {s q r n s' q' r' n' t u v m : Int} (h1 : ks s q r n s' q' r' n' ≤ 0) (h2 : ks s' q' r' n' t u v m ≤ 0) :
    ks s q r n t u v m ≤ 0 ∧ (ks s q r n t u v m = 0 → ks s q r n s' q' r' n' = 0 ∧ ks s' q' r' n' t u v m = 0) := by
  rw [ks_zero, ks_zero, ks_zero]
  rw [ks_le] at *
  omega
theorem ks_ring {s q r n s' q' r' n' : Int} (h : s = s') (h2 : ¬ rg q r q' r' = 0) : ks s q r n s' q' r' n' = rg q r q' r' := by
  rw [ks, if_pos h, if_neg (fun e => h2 (rg_zero.2 e))]
theorem eq25 (s q r n s' q' r' n' : Int) (w : World) : (Op.equalIn 10000 25 (.agg #[.int .i64 s, .int .i64 q, .int .i64 r, .int .i64 n]) (.agg #[.int .i64 s', .int .i64 q', .int .i64 r', .int .i64 n'])).run Try.prog w = .ok (ks s q r n s' q' r' n' == 0) w := by
  have e : (ks s q r n s' q' r' n' == 0) = (decide (s = s') && (decide (q = q') && (decide (r = r') && decide (n = n')))) := by
    rw [Bool.eq_iff_iff]
    simp [ks_zero]
  rw [e]
  by_cases h1 : s = s' <;> by_cases h2 : q = q' <;> by_cases h3 : r = r' <;> by_cases h4 : n = n' <;> simp [go_sem, h1, h2, h3, h4]
theorem eq23 (q r q' r' : Int) (w : World) : (Op.equalIn 10000 23 (.agg #[.int .i64 q, .int .i64 r]) (.agg #[.int .i64 q', .int .i64 r'])).run Try.prog w = .ok (rg q r q' r' == 0) w := by
  have e : (rg q r q' r' == 0) = (decide (q = q') && decide (r = r')) := by
    rw [Bool.eq_iff_iff]
    simp [rg_zero]
  rw [e]
  by_cases h2 : q = q' <;> by_cases h3 : r = r' <;> simp [go_sem, h2, h3]
end Go.Proofs.Ytbfgnlpgfjokhaa
