/- Contracts of the statements' own calls: same, marked, text, awake. No conditions. -/
import Derived.Test.YthiijonmnebjgaaGreatCw
import Derived.Deep.RegionHeld3
namespace Go.Proofs.YthiijonmnebjgaaGreat
open Go.RowKit
set_option maxRecDepth 100000 in
set_option maxHeartbeats 2000000 in
theorem Same_eq (k o lf i p ps g : Int) (s : Bool) (st rs rr sq : Int) (ao ao' : Option Addr) (cap cap' : Nat) (l : List Int) (w : World) (hs : Sl w (.slice ao l.length cap) l) (hs' : Sl w (.slice ao' l.length cap') l) :
    Calls Tryz.prog 14 #[.agg #[.int .i64 k, .int .i64 o, .int .i64 lf, .int .i64 i, .int .i64 p, .int .i64 ps, .int .i64 g, .bool s, .int .i64 st, .int .i64 rs, .int .i64 rr, .int .i64 sq, .slice ao l.length cap], .agg #[.int .i64 k, .int .i64 o, .int .i64 lf, .int .i64 i, .int .i64 p, .int .i64 ps, .int .i64 g, .bool s, .int .i64 st, .int .i64 rs, .int .i64 rr, .int .i64 sq, .slice ao' l.length cap']] w fun e w' => e = .returned (.bool true) ∧ Mod (fun _ => False) w w' := by
  have hA := ((Mod.refl (fun _ => False) w).alloc (.cells #[.int .i64 k, .int .i64 o, .int .i64 lf, .int .i64 i, .int .i64 p, .int .i64 ps, .int .i64 g, .bool s, .int .i64 st, .int .i64 rs, .int .i64 rr, .int .i64 sq, (.slice ao l.length cap)] 43)).alloc (.cells #[.int .i64 k, .int .i64 o, .int .i64 lf, .int .i64 i, .int .i64 p, .int .i64 ps, .int .i64 g, .bool s, .int .i64 st, .int .i64 rs, .int .i64 rr, .int .i64 sq, (.slice ao' l.length cap')] 43)
  have HE := EqBytes_any _ _ l l _ (hs.mod hA (fun _ _ h => h)) (hs'.mod hA (fun _ _ h => h))
  have EK : ∀ W, (Op.equalIn 10000 40 (.agg #[.int .i64 st, .int .i64 rs, .int .i64 rr, .int .i64 sq]) (.agg #[.int .i64 st, .int .i64 rs, .int .i64 rr, .int .i64 sq])).run Tryz.prog W = .ok true W := fun W => by
    have := eqKey st rs rr sq st rs rr sq W
    simpa using this
  go_enter Tryz.func14, Tryz.ntmps14
  go_wp2_with (fail)
  refine HE.mono ?_
  rintro e w1 ⟨rfl, hm⟩
  go_wp2
  go_ret
  exact ⟨by simp, hA.trans hm (V := fun _ => False) (fun _ _ h => h) (fun _ _ h => h)⟩
end Go.Proofs.YthiijonmnebjgaaGreat
