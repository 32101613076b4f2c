/- Contract of the document's SamePlaces, of two lists that are the same. Conditions: sizes that a slice has. -/
import Derived.Test.YtajhpnfpjickbaaCp
import Derived.Deep.QuietTactic
import Derived.BigQuiet
namespace Go.Proofs.Ytajhpnfpjickbaa
open Go.RowKit
theorem eqPlace (r q p m r' q' p' m' : Int) (w : World) : (Op.equalIn 10000 58 (.agg #[.int .i64 r, .int .i64 q, .int .i64 p, .int .i64 m]) (.agg #[.int .i64 r', .int .i64 q', .int .i64 p', .int .i64 m'])).run Try.prog w = .ok (decide (r = r') && (decide (q = q') && (decide (p = p') && decide (m = m')))) w := by
  by_cases h1 : r = r' <;> by_cases h2 : q = q' <;> by_cases h3 : p = p' <;> by_cases h4 : m = m' <;> simp [go_sem, h1, h2, h3, h4]
set_option maxRecDepth 100000 in
set_option maxHeartbeats 2000000 in
theorem SamePlaces_eq (u v : Value) (l : List Pl) (w : World) (hu : SlP w u l) (hv : SlP w v l) :
    Calls Try.prog 25 #[u, v] w fun e w' => e = .returned (.bool true) ∧ Mod (fun _ => False) w w' := by
  obtain ⟨a1, c1, rfl, i1, m1, _, h1⟩ := hu.form
  obtain ⟨a2, c2, rfl, i2, m2, _, h2⟩ := hv.form
  clear hu hv
  unfold maxLen at m1 m2
  go_enter Try.func25, Try.ntmps25
  go_wp2
  go_loopw [5] (fun i wr => ∃ (j : Nat), i = .int .i64 j ∧ j ≤ l.length ∧ Mod (fun _ => False) w wr) (fun i _ => l.length - (intOf i).toNat)
  case atStart => exact ⟨0, rfl, by omega, Mod.refl _ _⟩
  case round =>
    obtain ⟨j, rfl, hj, hm⟩ := hrel
    by_cases hlt : j < l.length
    · obtain ⟨b, off, rfl, hc⟩ := h1 (by rintro rfl; simp at hlt)
      obtain ⟨b', off', rfl, hc'⟩ := h2 (by rintro rfl; simp at hlt)
      obtain ⟨pp, hp⟩ : ∃ p, l[j]? = some p := ⟨l[j], by simp [hlt]⟩
      obtain ⟨x0, x1, x2, x3⟩ := (hc j pp hp).mod hm (fun h => h)
      obtain ⟨y0, y1, y2, y3⟩ := (hc' j pp hp).mod hm (fun h => h)
      obtain ⟨r, q, p, m⟩ := pp
      dsimp only at x0 x1 x2 x3 y0 y1 y2 y3
      have EP : ∀ W, (Op.equalIn 10000 58 (.agg #[.int .i64 r, .int .i64 q, .int .i64 p, .int .i64 m]) (.agg #[.int .i64 r, .int .i64 q, .int .i64 p, .int .i64 m])).run Try.prog W = .ok true W := fun W => by
        have := eqPlace r q p m r q p m W
        simpa using this
      have hltI : (j : Int) < (l.length : Int) := by omega
      clear hc hc' h1 h2 hp
      go_wp2
      go_big_quiet ((fail))
      go_wp2
      go_roundw
      case rel => exact ⟨j + 1, by go_num, by omega, by exact hm.drewN _⟩
      case measure => simp [intOf]; omega
    · obtain rfl : j = l.length := by omega
      clear h1 h2
      go_wp2
      go_ret
      exact ⟨rfl, hm⟩
end Go.Proofs.Ytajhpnfpjickbaa
