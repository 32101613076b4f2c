/- The program's lane: what Reaches answers. Conditions: a lane that New made. -/
import Derived.Test.YthmglemjlinlgaaLr
import Derived.Deep.RegionWith
namespace Go.Proofs.Ythmglemjlinlgaa
open Go.RowKit
set_option maxRecDepth 100000 in
set_option maxHeartbeats 1000000 in
theorem Reaches_c (p : Nat) (s : Int) (a b : Nat) (w : World) (c0 : w.cell? ⟨p, 0, none⟩ = some (.bool true)) (c2 : w.cell? ⟨p, 2, none⟩ = some (.int .i64 s)) (ha : nd a = true) (hb : nd b = true) : Calls Try.prog 24 #[.pointer (some ⟨p, 0, none⟩), .int .i64 a, .int .i64 b] w fun e w' => e = .returned (.bool (bt s a == bt s b)) ∧ ∃ n, w' = w.drewN n := by
  have hN := isNone_c p
  have hX := isNode a
  have hY := isNode b
  rw [ha] at hX
  rw [hb] at hY
  go_enter Try.func24, Try.ntmps24
  go_wp2
  go_quiet (first | (go_at_call 29; exact Calls.quiet_of_same (hN _ (by assumption))) | (go_at_call_of 30 a; exact Calls.quiet_of_same (hX _)) | (go_at_call_of 30 b; exact Calls.quiet_of_same (hY _)))
  go_wp2
  go_ret
  exact ⟨rfl, _, rfl⟩
set_option maxRecDepth 100000 in
set_option maxHeartbeats 1000000 in
theorem Reaches_no (p : Nat) (a b : Int) (w : World) (c0 : w.cell? ⟨p, 0, none⟩ = some (.bool true)) (h : (nd a && nd b) = false) : Calls Try.prog 24 #[.pointer (some ⟨p, 0, none⟩), .int .i64 a, .int .i64 b] w fun e w' => e = .returned (.bool false) ∧ ∃ n, w' = w.drewN n := by
  have hN := isNone_c p
  have hX := isNode a
  have hY := isNode b
  cases ha : nd a with
  | false =>
    rw [ha] at hX
    clear h ha hY
    go_enter Try.func24, Try.ntmps24
    go_wp2
    go_quiet (first | (go_at_call 29; exact Calls.quiet_of_same (hN _ (by assumption))) | (go_at_call 30; exact Calls.quiet_of_same (hX _)))
    go_wp2
    go_ret
    exact ⟨rfl, _, rfl⟩
  | true =>
    have hb : nd b = false := by rw [ha] at h; simpa using h
    rw [ha] at hX
    rw [hb] at hY
    clear h ha hb
    go_enter Try.func24, Try.ntmps24
    go_wp2
    go_quiet (first | (go_at_call 29; exact Calls.quiet_of_same (hN _ (by assumption))) | (go_at_call_of 30 a; exact Calls.quiet_of_same (hX _)) | (go_at_call_of 30 b; exact Calls.quiet_of_same (hY _)))
    go_wp2
    go_ret
    exact ⟨rfl, _, rfl⟩
theorem Reaches_q {p : Nat} {L : List Dg} {s : Int} {F : Nat → Prop} {w : World} (h : La w p L s F) (a b : Int) : Calls Try.prog 24 #[.pointer (some ⟨p, 0, none⟩), .int .i64 a, .int .i64 b] w fun e w' => e = .returned (.bool (rc s a b)) ∧ ∃ n, w' = w.drewN n := by
  obtain ⟨v, R, h, _, _⟩ := h
  unfold rc
  cases hab : nd a && nd b with
  | false => exact Reaches_no p a b w h.c0 hab
  | true =>
    rw [Bool.and_eq_true] at hab
    obtain ⟨x, rfl, _⟩ := nd_nat hab.1
    obtain ⟨y, rfl, _⟩ := nd_nat hab.2
    exact Reaches_c p s x y w h.c0 h.c2 hab.1 hab.2
theorem Reaches_any {p : Nat} {L : List Dg} {s : Int} {F : Nat → Prop} {w : World} (h : La w p L s F) (a b : Int) : Calls Try.prog 24 #[.pointer (some ⟨p, 0, none⟩), .int .i64 a, .int .i64 b] w fun e w' => e = .returned (.bool (rc s a b)) ∧ Mod (fun _ => False) w w' := by
  refine (Reaches_q h a b).mono ?_
  rintro e w' ⟨rfl, n, rfl⟩
  exact ⟨rfl, (Mod.refl _ w).drewN n⟩
end Go.Proofs.Ythmglemjlinlgaa
