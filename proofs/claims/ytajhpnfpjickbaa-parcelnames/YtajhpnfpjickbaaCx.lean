/- Contracts of the statements' own calls: same, marked, text, awake. No conditions. -/
import Derived.Test.YtajhpnfpjickbaaCw
import Derived.Deep.RegionHeld3
namespace Go.Proofs.Ytajhpnfpjickbaa
open Go.RowKit
set_option maxRecDepth 100000 in
set_option maxHeartbeats 2000000 in
theorem same_eq (k o lf i p ps g : Int) (s : Bool) (st rs rr sq : Int) (ao ao' : Option Addr) (cap cap' : Nat) (l : List Int) (w : World) (hs : Sl w (.slice ao l.length cap) l) (hs' : Sl w (.slice ao' l.length cap') l) :
    Calls Try.prog 34 #[.agg #[.int .i64 k, .int .i64 o, .int .i64 lf, .int .i64 i, .int .i64 p, .int .i64 ps, .int .i64 g, .bool s, .int .i64 st, .int .i64 rs, .int .i64 rr, .int .i64 sq, .slice ao l.length cap], .agg #[.int .i64 k, .int .i64 o, .int .i64 lf, .int .i64 i, .int .i64 p, .int .i64 ps, .int .i64 g, .bool s, .int .i64 st, .int .i64 rs, .int .i64 rr, .int .i64 sq, .slice ao' l.length cap']] w fun e w' => e = .returned (.bool true) ∧ Mod (fun _ => False) w w' := by
  have hA := ((Mod.refl (fun _ => False) w).alloc (.cells #[.int .i64 k, .int .i64 o, .int .i64 lf, .int .i64 i, .int .i64 p, .int .i64 ps, .int .i64 g, .bool s, .int .i64 st, .int .i64 rs, .int .i64 rr, .int .i64 sq, (.slice ao l.length cap)] 28)).alloc (.cells #[.int .i64 k, .int .i64 o, .int .i64 lf, .int .i64 i, .int .i64 p, .int .i64 ps, .int .i64 g, .bool s, .int .i64 st, .int .i64 rs, .int .i64 rr, .int .i64 sq, (.slice ao' l.length cap')] 28)
  have HE := EqBytes_any _ _ l l _ (hs.mod hA (fun _ _ h => h)) (hs'.mod hA (fun _ _ h => h))
  have EK : ∀ W, (Op.equalIn 10000 25 (.agg #[.int .i64 st, .int .i64 rs, .int .i64 rr, .int .i64 sq]) (.agg #[.int .i64 st, .int .i64 rs, .int .i64 rr, .int .i64 sq])).run Try.prog W = .ok true W := fun W => by
    have := eqKey st rs rr sq st rs rr sq W
    simpa using this
  go_enter Try.func34, Try.ntmps34
  go_wp2_with (fail)
  refine HE.mono ?_
  rintro e w1 ⟨rfl, hm⟩
  go_wp2
  go_ret
  exact ⟨by simp, hA.trans hm (V := fun _ => False) (fun _ _ h => h) (fun _ _ h => h)⟩
set_option maxRecDepth 100000 in
set_option maxHeartbeats 2000000 in
theorem Same_eq (k o lf i p ps g : Int) (s : Bool) (st rs rr sq : Int) (ao ao' : Option Addr) (cap cap' : Nat) (l : List Int) (w : World) (hs : Sl w (.slice ao l.length cap) l) (hs' : Sl w (.slice ao' l.length cap') l) :
    Calls Try.prog 18 #[.agg #[.int .i64 k, .int .i64 o, .int .i64 lf, .int .i64 i, .int .i64 p, .int .i64 ps, .int .i64 g, .bool s, .int .i64 st, .int .i64 rs, .int .i64 rr, .int .i64 sq, .slice ao l.length cap], .agg #[.int .i64 k, .int .i64 o, .int .i64 lf, .int .i64 i, .int .i64 p, .int .i64 ps, .int .i64 g, .bool s, .int .i64 st, .int .i64 rs, .int .i64 rr, .int .i64 sq, .slice ao' l.length cap']] w fun e w' => e = .returned (.bool true) ∧ Mod (fun _ => False) w w' := by
  have hA := ((Mod.refl (fun _ => False) w).alloc (.cells #[.int .i64 k, .int .i64 o, .int .i64 lf, .int .i64 i, .int .i64 p, .int .i64 ps, .int .i64 g, .bool s, .int .i64 st, .int .i64 rs, .int .i64 rr, .int .i64 sq, (.slice ao l.length cap)] 28)).alloc (.cells #[.int .i64 k, .int .i64 o, .int .i64 lf, .int .i64 i, .int .i64 p, .int .i64 ps, .int .i64 g, .bool s, .int .i64 st, .int .i64 rs, .int .i64 rr, .int .i64 sq, (.slice ao' l.length cap')] 28)
  have HE := EqBytes_any _ _ l l _ (hs.mod hA (fun _ _ h => h)) (hs'.mod hA (fun _ _ h => h))
  have EK : ∀ W, (Op.equalIn 10000 25 (.agg #[.int .i64 st, .int .i64 rs, .int .i64 rr, .int .i64 sq]) (.agg #[.int .i64 st, .int .i64 rs, .int .i64 rr, .int .i64 sq])).run Try.prog W = .ok true W := fun W => by
    have := eqKey st rs rr sq st rs rr sq W
    simpa using this
  go_enter Try.func18, Try.ntmps18
  go_wp2_with (fail)
  refine HE.mono ?_
  rintro e w1 ⟨rfl, hm⟩
  go_wp2
  go_ret
  exact ⟨by simp, hA.trans hm (V := fun _ => False) (fun _ _ h => h) (fun _ _ h => h)⟩
theorem marked (w : World) : Calls Try.prog 37 #[] w fun e w' => e = .returned (.agg #[.int .i64 2, .int .i64 3, .int .i64 0, .int .i64 0, .int .i64 0, .int .i64 0, .int .i64 0, .bool false, .int .i64 5, .int .i64 2, .int .i64 1, .int .i64 7, .slice none 0 0]) ∧ Mod (fun _ => False) w w' := by
  go_enter Try.func37, Try.ntmps37
  go_wp2
  exact bodyPost_ret (v := .agg #[.int .i64 2, .int .i64 3, .int .i64 0, .int .i64 0, .int .i64 0, .int .i64 0, .int .i64 0, .bool false, .int .i64 5, .int .i64 2, .int .i64 1, .int .i64 7, .slice none 0 0]) (by simp [results, Try.results37, go_sem]) rfl ⟨rfl, (Mod.refl _ _).alloc _⟩
theorem text (w : World) : Calls Try.prog 39 #[] w fun e w' => ∃ ao cap, e = .returned (.agg #[.int .i64 1, .int .i64 1, .int .i64 9, .int .i64 2, .int .i64 0, .int .i64 1, .int .i64 130, .bool true, .int .i64 0, .int .i64 0, .int .i64 0, .int .i64 0, .slice ao 1 cap]) ∧ Own w' (.slice ao 1 cap) [65] ∧ Mod (fun _ => False) w w' ∧ (∀ g, (Value.slice ao 1 cap).ownBlock = some g → w.heap.size ≤ g) := by
  go_enter Try.func39, Try.ntmps39
  go_wp2
  have h1 := Own.lit (w.alloc (.cells #[.int .i64 1, .int .i64 1, .int .i64 9, .int .i64 2, .int .i64 0, .int .i64 1, .int .i64 130, .bool true, .int .i64 0, .int .i64 0, .int .i64 0, .int .i64 0, .slice (some ⟨w.heap.size + 1, 0, none⟩) 1 1] 28)) [65] (by simp [maxLen])
  rw [show (w.alloc (.cells #[.int .i64 1, .int .i64 1, .int .i64 9, .int .i64 2, .int .i64 0, .int .i64 1, .int .i64 130, .bool true, .int .i64 0, .int .i64 0, .int .i64 0, .int .i64 0, .slice (some ⟨w.heap.size + 1, 0, none⟩) 1 1] 28)).heap.size = w.heap.size + 1 from by simp] at h1
  exact bodyPost_ret (v := .agg #[.int .i64 1, .int .i64 1, .int .i64 9, .int .i64 2, .int .i64 0, .int .i64 1, .int .i64 130, .bool true, .int .i64 0, .int .i64 0, .int .i64 0, .int .i64 0, .slice (some ⟨w.heap.size + 1, 0, none⟩) 1 1]) (by simp [results, Try.results39, go_sem]) rfl ⟨_, _, rfl, h1, ((Mod.refl _ _).alloc _).alloc _, by intro g hg; simp [Value.ownBlock] at hg; omega⟩

end Go.Proofs.Ytajhpnfpjickbaa
