/- Contracts of crew's calls that make no memory. No conditions. -/
import Derived.Test.YtlhgpbelgifnpaaPl
import Derived.Deep.QuietTactic
import Derived.BigQuiet
namespace Go.Proofs.Ytlhgpbelgifnpaa
open Go.RowKit
theorem isNode (n : Int) (w : World) : Calls Try.prog 27 #[.int .i64 n] w fun e w' => e = .returned (.bool (node n)) ∧ w' = w := by
  have h : 1 ≤ n ∨ n < 1 := by omega
  rcases h with h | h
  all_goals
    go_enter Try.func27, Try.ntmps27
    go_wp2
    go_ret
    refine ⟨?_, rfl⟩
    simp [node]
    try omega
theorem Has (c n : Int) (w : World) : Calls Try.prog 14 #[.int .i64 c, .int .i64 n] w fun e w' => e = .returned (.bool (has c n)) ∧ w' = w := by
  have H := isNode n w
  cases h : node n with
  | true =>
    have hn : 1 ≤ n ∧ n < 9 := by simpa [node] using h
    have h1 := hn.1
    have h2 := hn.2
    have e := shr_bit c n h1 h2
    have E : Hid ((bits .and .i64 (c / 2 ^ n.toNat) 1 == 1) = has c n) := by rw [Hid, e, has, h, Bool.true_and]
    rw [h] at H
    clear h hn e
    generalize has c n = r at E ⊢
    go_enter Try.func14, Try.ntmps14
    go_wp2_with (go_at_call 27; refine H.mono ?_; rintro e w' ⟨rfl, rfl⟩)
    go_ret
    refine ⟨?_, rfl⟩
    rw [← E.out]
    rfl
  | false =>
    have e : has c n = false := by simp [has, h]
    rw [e]
    rw [h] at H
    clear h e
    go_enter Try.func14, Try.ntmps14
    go_wp2_with (go_at_call 27; refine H.mono ?_; rintro e w' ⟨rfl, rfl⟩)
    go_ret
    exact ⟨rfl, rfl⟩
theorem Check (c : Int) (w : World) (hc : -9223372036854775808 ≤ c ∧ c ≤ 9223372036854775807) : Calls Try.prog 9 #[.int .i64 c] w fun e w' => e = .returned (.int .i64 (chk c)) ∧ w' = w := by
  have E := chk_eq c hc
  clear hc
  cases h : decide (((lo c &&& 510 : Nat) : Int) = c) with
  | true =>
    have e : chk c = 0 := by rw [chk, if_pos (of_decide_eq_true h)]
    rw [h] at E
    rw [e]
    clear h e
    go_enter Try.func9, Try.ntmps9
    go_wp2
    go_ret
    exact ⟨rfl, rfl⟩
  | false =>
    have e : chk c = 2 := by rw [chk, if_neg (of_decide_eq_false h)]
    rw [h] at E
    rw [e]
    clear h e
    go_enter Try.func9, Try.ntmps9
    go_wp2
    go_ret
    exact ⟨rfl, rfl⟩
theorem bit (n : Nat) (w : World) (hn : n ≤ 8) : Calls Try.prog 28 #[.int .i64 n] w fun e w' => e = .returned (.int .i64 ((2 ^ n : Nat) : Int)) ∧ w' = w := by
  go_enter Try.func28, Try.ntmps28
  go_wp2
  go_loopw [3, 4] (fun o i wr => ∃ k p : Nat, i = .int .i64 k ∧ o = .int .i64 p ∧ k ≤ n ∧ Hid (p = 2 ^ k) ∧ p ≤ 256 ∧ wr = w) (fun _ i _ => n - (intOf i).toNat)
  case atStart => exact ⟨0, 1, rfl, rfl, by omega, rfl, by omega, rfl⟩
  case round =>
    obtain ⟨k, p, rfl, rfl, hk, hp, hpl, rfl⟩ := hrel
    by_cases hlt : k < n
    · have hi : (k : Int) < (n : Int) := by omega
      have hp2 : p * 2 ≤ 256 := by
        have h := hp.out
        have : 2 ^ (k + 1) ≤ 2 ^ 8 := Nat.pow_le_pow_right (by omega) (by omega)
        rw [Nat.pow_succ, ← h] at this
        omega
      go_wp2
      go_roundw
      case rel => exact ⟨k + 1, p * 2, by go_num, by go_num, by omega, by have := hp.out; subst this; exact (Nat.pow_succ ..).symm, hp2, trivial⟩
      case measure => simp [intOf]; omega
    · obtain rfl : k = n := by omega
      have HP : Hid (p = 2 ^ k) := hp
      clear hp
      go_wp2
      go_ret
      exact ⟨by rw [HP.out]; rfl, rfl⟩
theorem RHas (c n : Int) (w : World) : Calls Try.prog 15 #[.int .i64 c, .int .i64 n] w fun e w' => e = .returned (.bool (has c n)) ∧ w' = w := by
  by_cases h1 : 1 ≤ n
  · by_cases h2 : n ≤ 8
    · obtain ⟨k, rfl⟩ : ∃ k : Nat, n = k := ⟨n.toNat, by omega⟩
      have e := and_bit c k h1 (by omega)
      have H := bit k w (by omega)
      have E : Hid ((bits .and .i64 c ((2 ^ k : Nat) : Int) != 0) = has c k) := by
        rw [Int.toNat_natCast] at e
        rw [Hid, e, has, show node k = true by simp [node]; omega, Bool.true_and, Int.toNat_natCast]
      clear e
      generalize has c k = r at E ⊢
      generalize 2 ^ k = q at E H
      go_enter Try.func15, Try.ntmps15
      go_wp2_with (go_at_call 28; refine H.mono ?_; rintro e w' ⟨rfl, rfl⟩)
      go_ret
      refine ⟨?_, rfl⟩
      rw [← E.out]
      rfl
    · have e : has c n = false := by simp [has, node]; omega
      rw [e]
      clear e
      have h2' : 8 < n := by omega
      clear h2
      go_enter Try.func15, Try.ntmps15
      go_wp2
      go_ret
      exact ⟨rfl, rfl⟩
  · have e : has c n = false := by simp [has, node]; omega
    rw [e]
    clear e
    have h2 : n < 1 := by omega
    clear h1
    go_enter Try.func15, Try.ntmps15
    go_wp2
    go_ret
    exact ⟨rfl, rfl⟩
theorem above (c n : Int) (w : World) : Calls Try.prog 30 #[.int .i64 c, .int .i64 n] w fun e w' => e = .returned (.int .i64 (ab (lo c) n)) ∧ w' = w := by
  have H := fun k : Nat => Has c k
  have hc : ∀ k : Nat, has c k = hs (lo c) k := by
    intro k
    by_cases h : 1 ≤ k ∧ k ≤ 8
    · rw [has, show node k = true by simp [node]; omega, Bool.true_and, Int.toNat_natCast]
    · have : hs (lo c) k = false := by rw [Bool.eq_false_iff]; intro e; exact h (hs_pos e)
      rw [this, has, show node k = false by simp [node]; omega, Bool.false_and]
  simp only [hc] at H
  clear hc
  generalize lo c = m at H ⊢
  have HA : Hid (ab m n = abf m n 9) := rfl
  generalize ab m n = r at HA ⊢
  go_enter Try.func30, Try.ntmps30
  go_wp2
  go_loopw [6] (fun i wr => ∃ k : Nat, i = .int .i64 k ∧ k ≤ 9 ∧ Hid (r = abf m n (9 - k)) ∧ wr = w) (fun i _ => 9 - (intOf i).toNat)
  case atStart => exact ⟨0, rfl, by omega, HA, rfl⟩
  case round =>
    obtain ⟨k, rfl, hk, hr, rfl⟩ := hrel
    clear HA
    by_cases hlt : k < 9
    · have hi : (k : Int) < 9 := by omega
      have hs' : Hid (r = if decide (n < (k : Int)) && hs m k then k else abf m n (9 - (k + 1))) := by
        have h := hr.out
        rw [show 9 - k = (8 - k) + 1 by omega, abf, show 8 - (8 - k) = k by omega, show 8 - k = 9 - (k + 1) by omega] at h
        exact h
      have HK := H k wr
      clear H hr
      by_cases hn : n < (k : Int)
      · cases hh : hs m k with
        | true =>
          have e : Hid (r = k) := by have := hs'.out; rw [hh, decide_eq_true hn] at this; exact this
          rw [hh] at HK
          clear hs' hh
          go_wp2_with (go_at_call 14; refine HK.mono ?_; rintro e w' ⟨rfl, rfl⟩)
          go_ret
          exact ⟨by rw [e.out]; rfl, rfl⟩
        | false =>
          have e : Hid (r = abf m n (9 - (k + 1))) := by have := hs'.out; rw [hh, decide_eq_true hn] at this; exact this
          rw [hh] at HK
          clear hs' hh
          go_wp2_with (go_at_call 14; refine HK.mono ?_; rintro e w' ⟨rfl, rfl⟩)
          go_roundw
          case rel => exact ⟨k + 1, by go_num, by omega, e, trivial⟩
          case measure => simp [intOf]; omega
      · have e : Hid (r = abf m n (9 - (k + 1))) := by have := hs'.out; rw [decide_eq_false hn] at this; exact this
        have hn' : (k : Int) ≤ n := by omega
        clear hs' hn HK
        go_wp2
        go_roundw
        case rel => exact ⟨k + 1, by go_num, by omega, e, trivial⟩
        case measure => simp [intOf]; omega
    · obtain rfl : k = 9 := by omega
      have e : Hid (r = 0) := hr.out
      clear hr H
      go_wp2
      go_ret
      exact ⟨by rw [e.out]; rfl, rfl⟩
theorem Least (c : Int) (w : World) : Calls Try.prog 18 #[.int .i64 c] w fun e w' => e = .returned (.int .i64 (ab (lo c) 0)) ∧ w' = w := by
  have H := above c 0 w
  generalize ab (lo c) 0 = r at H ⊢
  go_enter Try.func18, Try.ntmps18
  go_wp2_with (go_at_call 30; refine H.mono ?_; rintro e w' ⟨rfl, rfl⟩)
  go_ret
  exact ⟨rfl, rfl⟩
theorem Next (c n : Int) (w : World) : Calls Try.prog 20 #[.int .i64 c, .int .i64 n] w fun e w' => e = .returned (.int .i64 (nx (lo c) n)) ∧ w' = w := by
  have H := above c n w
  have K := Least c w
  have HE : Hid (nx (lo c) n = if ab (lo c) n = 0 then ab (lo c) 0 else ab (lo c) n) := rfl
  generalize nx (lo c) n = z at HE ⊢
  generalize ab (lo c) n = r at H HE
  generalize ab (lo c) 0 = s at K HE
  by_cases h : r = 0
  · subst h
    have e : Hid (z = s) := HE.out
    clear HE
    go_enter Try.func20, Try.ntmps20
    go_wp2_with (first | (go_at_call 30; refine H.mono ?_; rintro e w' ⟨rfl, rfl⟩) | (go_at_call 18; refine K.mono ?_; rintro e w' ⟨rfl, rfl⟩))
    go_ret
    exact ⟨by rw [e.out]; rfl, rfl⟩
  · have e : Hid (z = r) := by have := HE.out; rw [if_neg h] at this; exact this
    have hr : ((r : Int) != 0) = true := by simp; omega
    clear HE h
    go_enter Try.func20, Try.ntmps20
    go_wp2_with (go_at_call 30; refine H.mono ?_; rintro e w' ⟨rfl, rfl⟩)
    go_ret
    exact ⟨by rw [e.out]; rfl, rfl⟩
end Go.Proofs.Ytlhgpbelgifnpaa
