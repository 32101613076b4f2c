/- Contract of the document's SameData, of two that are the same. No conditions. -/
import Derived.Test.YthiijonmnebjgaaGreatCx
import Derived.Test.YthiijonmnebjgaaGreatCo
namespace Go.Proofs.YthiijonmnebjgaaGreat
open Go.RowKit
set_option maxRecDepth 100000 in
set_option maxHeartbeats 4000000 in
theorem SameData_eq (dq dr ds dn dt : Int) (k o lf i p ps g : Int) (s : Bool) (st rs rr sq : Int) (ao ao' : Option Addr) (cap cap' : Nat) (l : List Int) (w : World) (hs : Sl w (.slice ao l.length cap) l) (hs' : Sl w (.slice ao' l.length cap') l) :
    Calls Tryz.prog 25 #[.agg #[.int .i64 dq, .int .i64 dr, .int .i64 ds, .int .i64 dn, .int .i64 dt, .int .i64 k, .int .i64 o, .int .i64 lf, .int .i64 i, .int .i64 p, .int .i64 ps, .int .i64 g, .bool s, .int .i64 st, .int .i64 rs, .int .i64 rr, .int .i64 sq, .slice ao l.length cap], .agg #[.int .i64 dq, .int .i64 dr, .int .i64 ds, .int .i64 dn, .int .i64 dt, .int .i64 k, .int .i64 o, .int .i64 lf, .int .i64 i, .int .i64 p, .int .i64 ps, .int .i64 g, .bool s, .int .i64 st, .int .i64 rs, .int .i64 rr, .int .i64 sq, .slice ao' l.length cap']] w fun e w' => e = .returned (.bool true) ∧ Mod (fun _ => False) w w' := by
  have hA1 := (Mod.refl (fun _ => False) w).alloc (.cells #[.int .i64 dq, .int .i64 dr, .int .i64 ds, .int .i64 dn, .int .i64 dt, .int .i64 k, .int .i64 o, .int .i64 lf, .int .i64 i, .int .i64 p, .int .i64 ps, .int .i64 g, .bool s, .int .i64 st, .int .i64 rs, .int .i64 rr, .int .i64 sq, .slice ao l.length cap] 45)
  have hA2 := (Mod.refl (fun _ => False) (w.alloc (.cells #[.int .i64 dq, .int .i64 dr, .int .i64 ds, .int .i64 dn, .int .i64 dt, .int .i64 k, .int .i64 o, .int .i64 lf, .int .i64 i, .int .i64 p, .int .i64 ps, .int .i64 g, .bool s, .int .i64 st, .int .i64 rs, .int .i64 rr, .int .i64 sq, .slice ao l.length cap] 45))).alloc (.cells #[.int .i64 dq, .int .i64 dr, .int .i64 ds, .int .i64 dn, .int .i64 dt, .int .i64 k, .int .i64 o, .int .i64 lf, .int .i64 i, .int .i64 p, .int .i64 ps, .int .i64 g, .bool s, .int .i64 st, .int .i64 rs, .int .i64 rr, .int .i64 sq, .slice ao' l.length cap'] 45)
  have hA := hA1.trans hA2 (V := fun _ => False) (fun _ _ h => h) (fun _ _ h => h)
  have hd1 := DB.mod (S := fun _ => False) (DB.new w dq dr ds dn dt k o lf i p ps g s st rs rr sq (.slice ao l.length cap)) hA2 (fun h => h)
  have hd2 := DB.new (w.alloc (.cells #[.int .i64 dq, .int .i64 dr, .int .i64 ds, .int .i64 dn, .int .i64 dt, .int .i64 k, .int .i64 o, .int .i64 lf, .int .i64 i, .int .i64 p, .int .i64 ps, .int .i64 g, .bool s, .int .i64 st, .int .i64 rs, .int .i64 rr, .int .i64 sq, .slice ao l.length cap] 45)) dq dr ds dn dt k o lf i p ps g s st rs rr sq (.slice ao' l.length cap')
  rw [show (w.alloc (.cells #[.int .i64 dq, .int .i64 dr, .int .i64 ds, .int .i64 dn, .int .i64 dt, .int .i64 k, .int .i64 o, .int .i64 lf, .int .i64 i, .int .i64 p, .int .i64 ps, .int .i64 g, .bool s, .int .i64 st, .int .i64 rs, .int .i64 rr, .int .i64 sq, .slice ao l.length cap] 45)).heap.size = w.heap.size + 1 from by simp] at hd2
  have HS := Same_eq k o lf i p ps g s st rs rr sq ao ao' cap cap' l _ (hs.mod hA (fun _ _ h => h)) (hs'.mod hA (fun _ _ h => h))
  obtain ⟨a0, a1, a2, a3, a4, a5, a6, a7, a8, a9, a10, a11, a12, a13, a14, a15, a16, a17⟩ := hd1.cells
  obtain ⟨b0, b1, b2, b3, b4, b5, b6, b7, b8, b9, b10, b11, b12, b13, b14, b15, b16, b17⟩ := hd2.cells
  have ER : ∀ W, (Op.equalIn 10000 38 (.agg #[.int .i64 dq, .int .i64 dr]) (.agg #[.int .i64 dq, .int .i64 dr])).run Tryz.prog W = .ok true W := fun W => by
    have := eqRing dq dr dq dr W
    simpa using this
  clear hd1 hd2 hA1 hA2
  go_enter Tryz.func25, Tryz.ntmps25
  go_wp2_with (fail)
  refine HS.mono ?_
  rintro e w1 ⟨rfl, hm⟩
  clear a0 a1 a2 a3 a4 a5 a6 a7 a8 a9 a10 a11 a12 a13 a14 a15 a16 a17 b0 b1 b2 b3 b4 b5 b6 b7 b8 b9 b10 b11 b12 b13 b14 b15 b16 b17
  go_wp2
  go_ret
  exact ⟨by simp, hA.trans hm (V := fun _ => False) (fun _ _ h => h) (fun _ _ h => h)⟩
end Go.Proofs.YthiijonmnebjgaaGreat
