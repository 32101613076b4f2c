/- Contracts of crew's calls that make no memory. No conditions. -/
import Derived.Test.YtlekmgjjjniomaaNa
import Derived.Deep.QuietTactic
import Derived.BigQuiet
namespace Go.Proofs.Ytlekmgjjjniomaa.Cr
open Go.RowKit
theorem isNode (n : Int) (w : World) : Calls Try.prog 45 #[.int .i64 n] w fun e w' => e = .returned (.bool (node n)) ∧ w' = w := by
  have h : 1 ≤ n ∨ n < 1 := by omega
  rcases h with h | h
  all_goals
    go_enter Try.func45, Try.ntmps45
    go_wp2
    go_ret
    refine ⟨?_, rfl⟩
    simp [node]
    try omega
theorem Has (c n : Int) (w : World) : Calls Try.prog 27 #[.int .i64 c, .int .i64 n] w fun e w' => e = .returned (.bool (has c n)) ∧ w' = w := by
  have H := isNode n w
  cases h : node n with
  | true =>
    have hn : 1 ≤ n ∧ n < 9 := by simpa [node] using h
    have h1 := hn.1
    have h2 := hn.2
    have e := shr_bit c n h1 h2
    have E : Hid ((bits .and .i64 (c / 2 ^ n.toNat) 1 == 1) = has c n) := by rw [Hid, e, has, h, Bool.true_and]
    rw [h] at H
    clear h hn e
    generalize has c n = r at E ⊢
    go_enter Try.func27, Try.ntmps27
    go_wp2_with (go_at_call 45; refine H.mono ?_; rintro e w' ⟨rfl, rfl⟩)
    go_ret
    refine ⟨?_, rfl⟩
    rw [← E.out]
    rfl
  | false =>
    have e : has c n = false := by simp [has, h]
    rw [e]
    rw [h] at H
    clear h e
    go_enter Try.func27, Try.ntmps27
    go_wp2_with (go_at_call 45; refine H.mono ?_; rintro e w' ⟨rfl, rfl⟩)
    go_ret
    exact ⟨rfl, rfl⟩
theorem Check (c : Int) (w : World) (hc : -9223372036854775808 ≤ c ∧ c ≤ 9223372036854775807) : Calls Try.prog 36 #[.int .i64 c] w fun e w' => e = .returned (.int .i64 (chk c)) ∧ w' = w := by
  have E := chk_eq c hc
  clear hc
  cases h : decide (((lo c &&& 510 : Nat) : Int) = c) with
  | true =>
    have e : chk c = 0 := by rw [chk, if_pos (of_decide_eq_true h)]
    rw [h] at E
    rw [e]
    clear h e
    go_enter Try.func36, Try.ntmps36
    go_wp2
    go_ret
    exact ⟨rfl, rfl⟩
  | false =>
    have e : chk c = 2 := by rw [chk, if_neg (of_decide_eq_false h)]
    rw [h] at E
    rw [e]
    clear h e
    go_enter Try.func36, Try.ntmps36
    go_wp2
    go_ret
    exact ⟨rfl, rfl⟩
theorem above (c n : Int) (w : World) : Calls Try.prog 51 #[.int .i64 c, .int .i64 n] w fun e w' => e = .returned (.int .i64 (ab (lo c) n)) ∧ w' = w := by
  have H := fun k : Nat => Has c k
  have hc : ∀ k : Nat, has c k = hs (lo c) k := by
    intro k
    by_cases h : 1 ≤ k ∧ k ≤ 8
    · rw [has, show node k = true by simp [node]; omega, Bool.true_and, Int.toNat_natCast]
    · have : hs (lo c) k = false := by rw [Bool.eq_false_iff]; intro e; exact h (hs_pos e)
      rw [this, has, show node k = false by simp [node]; omega, Bool.false_and]
  simp only [hc] at H
  clear hc
  generalize lo c = m at H ⊢
  have HA : Hid (ab m n = abf m n 9) := rfl
  generalize ab m n = r at HA ⊢
  go_enter Try.func51, Try.ntmps51
  go_wp2
  go_loopw [6] (fun i wr => ∃ k : Nat, i = .int .i64 k ∧ k ≤ 9 ∧ Hid (r = abf m n (9 - k)) ∧ wr = w) (fun i _ => 9 - (intOf i).toNat)
  case atStart => exact ⟨0, rfl, by omega, HA, rfl⟩
  case round =>
    obtain ⟨k, rfl, hk, hr, rfl⟩ := hrel
    clear HA
    by_cases hlt : k < 9
    · have hi : (k : Int) < 9 := by omega
      have hs' : Hid (r = if decide (n < (k : Int)) && hs m k then k else abf m n (9 - (k + 1))) := by
        have h := hr.out
        rw [show 9 - k = (8 - k) + 1 by omega, abf, show 8 - (8 - k) = k by omega, show 8 - k = 9 - (k + 1) by omega] at h
        exact h
      have HK := H k wr
      clear H hr
      by_cases hn : n < (k : Int)
      · cases hh : hs m k with
        | true =>
          have e : Hid (r = k) := by have := hs'.out; rw [hh, decide_eq_true hn] at this; exact this
          rw [hh] at HK
          clear hs' hh
          go_wp2_with (go_at_call 27; refine HK.mono ?_; rintro e w' ⟨rfl, rfl⟩)
          go_ret
          exact ⟨by rw [e.out]; rfl, rfl⟩
        | false =>
          have e : Hid (r = abf m n (9 - (k + 1))) := by have := hs'.out; rw [hh, decide_eq_true hn] at this; exact this
          rw [hh] at HK
          clear hs' hh
          go_wp2_with (go_at_call 27; refine HK.mono ?_; rintro e w' ⟨rfl, rfl⟩)
          go_roundw
          case rel => exact ⟨k + 1, by go_num, by omega, e, trivial⟩
          case measure => simp [intOf]; omega
      · have e : Hid (r = abf m n (9 - (k + 1))) := by have := hs'.out; rw [decide_eq_false hn] at this; exact this
        have hn' : (k : Int) ≤ n := by omega
        clear hs' hn HK
        go_wp2
        go_roundw
        case rel => exact ⟨k + 1, by go_num, by omega, e, trivial⟩
        case measure => simp [intOf]; omega
    · obtain rfl : k = 9 := by omega
      have e : Hid (r = 0) := hr.out
      clear hr H
      go_wp2
      go_ret
      exact ⟨by rw [e.out]; rfl, rfl⟩
theorem Least (c : Int) (w : World) : Calls Try.prog 38 #[.int .i64 c] w fun e w' => e = .returned (.int .i64 (ab (lo c) 0)) ∧ w' = w := by
  have H := above c 0 w
  generalize ab (lo c) 0 = r at H ⊢
  go_enter Try.func38, Try.ntmps38
  go_wp2_with (go_at_call 51; refine H.mono ?_; rintro e w' ⟨rfl, rfl⟩)
  go_ret
  exact ⟨rfl, rfl⟩
end Go.Proofs.Ytlekmgjjjniomaa.Cr
