/- The document's comparisons of data and tokens that are zero. No conditions. -/
import Derived.Test.YtlekmgjjjniomaaUh
namespace Go.Proofs.Ytlekmgjjjniomaa
open Go.RowKit
theorem eqb_z (w : World) : Calls Try.prog 83 #[.slice none 0 0, .slice none 0 0] w fun e w' => e = .returned (.bool true) ∧ w' = w := by
  go_enter Try.func83, Try.ntmps83
  go_wp2
  go_loopw [5] (fun i wr => i = .int .i64 0 ∧ wr = w) (fun _ _ => 0)
  case atStart => exact ⟨rfl, rfl⟩
  case round =>
    obtain ⟨rfl, rfl⟩ := hrel
    go_wp2
    go_ret
    exact ⟨rfl, rfl⟩
theorem eqi_z (w : World) : Calls Try.prog 78 #[.slice none 0 0, .slice none 0 0] w fun e w' => e = .returned (.bool true) ∧ w' = w := by
  go_enter Try.func78, Try.ntmps78
  go_wp2
  go_loopw [5] (fun i wr => i = .int .i64 0 ∧ wr = w) (fun _ _ => 0)
  case atStart => exact ⟨rfl, rfl⟩
  case round =>
    obtain ⟨rfl, rfl⟩ := hrel
    go_wp2
    go_ret
    exact ⟨rfl, rfl⟩
abbrev zM : Array Value := #[.int .i64 0, .int .i64 0, .int .i64 0, .int .i64 0, .int .i64 0, .int .i64 0, .int .i64 0, .bool false, .int .i64 0, .int .i64 0, .int .i64 0, .int .i64 0, .slice none 0 0]
abbrev zD : Array Value := #[.int .i64 0, .int .i64 0, .int .i64 0, .int .i64 0, .int .i64 0, .int .i64 0, .int .i64 0, .int .i64 0, .int .i64 0, .int .i64 0, .int .i64 0, .int .i64 0, .bool false, .int .i64 0, .int .i64 0, .int .i64 0, .int .i64 0, .slice none 0 0]
abbrev zT : Array Value := #[.int .i64 0, .int .i64 0, .int .i64 0, .int .i64 0, .int .i64 0, .int .i64 0, .int .i64 0, .int .i64 0, .slice none 0 0]
set_option maxRecDepth 100000 in
set_option maxHeartbeats 4000000 in
theorem same_z (w : World) : Calls Try.prog 77 #[.agg zM, .agg zM] w fun e w' => e = .returned (.bool true) ∧ Mod (fun _ => False) w w' := by
  have hM := ((Mod.refl (fun _ => False) w).alloc (.cells zM 63)).alloc (.cells zM 63)
  go_enter Try.func77, Try.ntmps77
  go_wp2_with (fail)
  refine (eqb_z _).mono ?_
  rintro e w1 ⟨rfl, rfl⟩
  go_wp2
  go_ret
  exact ⟨rfl, hM⟩
set_option maxRecDepth 100000 in
set_option maxHeartbeats 4000000 in
theorem sameT_z (w : World) : Calls Try.prog 70 #[.agg zT, .agg zT] w fun e w' => e = .returned (.bool true) ∧ Mod (fun _ => False) w w' := by
  have hM := ((Mod.refl (fun _ => False) w).alloc (.cells zT 67)).alloc (.cells zT 67)
  go_enter Try.func70, Try.ntmps70
  go_wp2_with (fail)
  refine (eqi_z _).mono ?_
  rintro e w1 ⟨rfl, rfl⟩
  go_wp2
  go_ret
  exact ⟨rfl, hM⟩
set_option maxRecDepth 100000 in
set_option maxHeartbeats 4000000 in
theorem sameD_z (w : World) : Calls Try.prog 69 #[.agg zD, .agg zD] w fun e w' => e = .returned (.bool true) ∧ Mod (fun _ => False) w w' := by
  have hM := ((Mod.refl (fun _ => False) w).alloc (.cells zD 65)).alloc (.cells zD 65)
  go_enter Try.func69, Try.ntmps69
  go_wp2_with (fail)
  refine (same_z _).mono ?_
  rintro e w1 ⟨rfl, hm1⟩
  go_wp2
  go_ret
  exact ⟨rfl, hM.and hm1⟩
end Go.Proofs.Ytlekmgjjjniomaa
