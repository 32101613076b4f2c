/- Contract of parcel's Check, given what its kind's own function answers. Conditions: sizes that a slice of bytes has. -/
import Derived.Test.YthiijonmnebjgaaGreatCt
import Derived.Deep.RegionHeld3
namespace Go.Proofs.YthiijonmnebjgaaGreat
open Go.RowKit
set_option maxRecDepth 100000 in
set_option maxHeartbeats 1000000 in
theorem Check1 (o lf i p ps g : Int) (s : Bool) (st rs rr sq : Int) (ao : Option Addr) (cap : Nat) (l : List Int) (w : World) (hl : l.length ≤ 160) (hs : Sl w (.slice ao l.length cap) l) (a : Bool)
    (HA : ∀ W, Sl W (.slice ao l.length cap) l → Calls Tryz.prog 87 #[.agg #[.int .i64 1, .int .i64 o, .int .i64 lf, .int .i64 i, .int .i64 p, .int .i64 ps, .int .i64 g, .bool s, .int .i64 st, .int .i64 rs, .int .i64 rr, .int .i64 sq, .slice ao l.length cap]] W fun e w' => e = .returned (.bool a) ∧ Mod (fun _ => False) W w') :
    Calls Tryz.prog 51 #[.agg #[.int .i64 1, .int .i64 o, .int .i64 lf, .int .i64 i, .int .i64 p, .int .i64 ps, .int .i64 g, .bool s, .int .i64 st, .int .i64 rs, .int .i64 rr, .int .i64 sq, .slice ao l.length cap]] w fun e w' => e = .returned (.int .i64 (if hn ⟨1, o, lf, i, p, ps, g, s, st, rs, rr, sq, l⟩ && a then 0 else 2)) ∧ Mod (fun _ => False) w w' := by
  have HN := fun W => hasNumbers 1 o lf i p ps g s st rs rr sq ao cap l W
  have hm0 := MB.new w 1 o lf i p ps g s st rs rr sq (.slice ao l.length cap)
  have hA := (Mod.refl (fun _ => False) w).alloc (.cells #[.int .i64 1, .int .i64 o, .int .i64 lf, .int .i64 i, .int .i64 p, .int .i64 ps, .int .i64 g, .bool s, .int .i64 st, .int .i64 rs, .int .i64 rr, .int .i64 sq, .slice ao l.length cap] 43)
  have hA2 := hA.drew
  have hm02 : MB (w.alloc (.cells #[.int .i64 1, .int .i64 o, .int .i64 lf, .int .i64 i, .int .i64 p, .int .i64 ps, .int .i64 g, .bool s, .int .i64 st, .int .i64 rs, .int .i64 rr, .int .i64 sq, .slice ao l.length cap] 43)).drew w.heap.size 1 o lf i p ps g s st rs rr sq (.slice ao l.length cap) := hm0
  cases h1 : hn ⟨1, o, lf, i, p, ps, g, s, st, rs, rr, sq, l⟩ with
  | false =>
    rw [h1] at HN
    go_enter Tryz.func51, Tryz.ntmps51
    go_wp2
    go_region_held3 (fun u => u.cell? ⟨w.heap.size, 0, none⟩ = some (.int .i64 1)) (first | exact a0 | go_keep) ((go_at_call 67; refine (kinds _).mono ?_; rintro e w1 ⟨b, rfl, hb, hm1⟩; have hlk := look1 w1 b hb; obtain ⟨a0, a1, a2, a3, a4, a5, a6, a7, a8, a9, a10, a11, a12⟩ := (hm02.mod hm1 (fun h => h)).cells))
    have hmw := hA2.trans hm1 (V := fun _ => False) (fun _ _ h => h) (fun _ _ h => h)
    go_wp2_with (fail)
    refine (HN _).mono ?_
    rintro e w2 ⟨rfl, hm2⟩
    have hmw2 := hmw.trans hm2 (V := fun _ => False) (fun _ _ h => h) (fun _ _ h => h)
    go_wp2
    go_ret
    exact ⟨rfl, hmw2⟩
  | true =>
    rw [h1] at HN
    go_enter Tryz.func51, Tryz.ntmps51
    go_wp2
    go_region_held3 (fun u => u.cell? ⟨w.heap.size, 0, none⟩ = some (.int .i64 1)) (first | exact a0 | go_keep) ((go_at_call 67; refine (kinds _).mono ?_; rintro e w1 ⟨b, rfl, hb, hm1⟩; have hlk := look1 w1 b hb; obtain ⟨a0, a1, a2, a3, a4, a5, a6, a7, a8, a9, a10, a11, a12⟩ := (hm02.mod hm1 (fun h => h)).cells))
    have hmw := hA2.trans hm1 (V := fun _ => False) (fun _ _ h => h) (fun _ _ h => h)
    have hb1 := hm02.mod hm1 (fun h => h)
    go_wp2_with (fail)
    refine (HN _).mono ?_
    rintro e w2 ⟨rfl, hm2⟩
    have hmw2 := hmw.trans hm2 (V := fun _ => False) (fun _ _ h => h) (fun _ _ h => h)
    have hs2 := hs.mod hmw2 (fun _ _ h => h)
    clear a0 a1 a2 a3 a4 a5 a6 a7 a8 a9 a10 a11 a12
    obtain ⟨a0, a1, a2, a3, a4, a5, a6, a7, a8, a9, a10, a11, a12⟩ := (hb1.mod hm2 (fun h => h)).cells
    go_wp2_with (fail)
    refine (HA _ hs2).mono ?_
    rintro e w3 ⟨rfl, hm3⟩
    have hmw3 := hmw2.trans hm3 (V := fun _ => False) (fun _ _ h => h) (fun _ _ h => h)
    cases a
    all_goals
      go_wp2
      go_ret
      exact ⟨rfl, hmw3⟩
set_option maxRecDepth 100000 in
set_option maxHeartbeats 1000000 in
theorem Check2 (o lf i p ps g : Int) (s : Bool) (st rs rr sq : Int) (ao : Option Addr) (cap : Nat) (l : List Int) (w : World) (hl : l.length ≤ 160) (hs : Sl w (.slice ao l.length cap) l) (a : Bool)
    (HA : ∀ W, Sl W (.slice ao l.length cap) l → Calls Tryz.prog 88 #[.agg #[.int .i64 2, .int .i64 o, .int .i64 lf, .int .i64 i, .int .i64 p, .int .i64 ps, .int .i64 g, .bool s, .int .i64 st, .int .i64 rs, .int .i64 rr, .int .i64 sq, .slice ao l.length cap]] W fun e w' => e = .returned (.bool a) ∧ Mod (fun _ => False) W w') :
    Calls Tryz.prog 51 #[.agg #[.int .i64 2, .int .i64 o, .int .i64 lf, .int .i64 i, .int .i64 p, .int .i64 ps, .int .i64 g, .bool s, .int .i64 st, .int .i64 rs, .int .i64 rr, .int .i64 sq, .slice ao l.length cap]] w fun e w' => e = .returned (.int .i64 (if hn ⟨2, o, lf, i, p, ps, g, s, st, rs, rr, sq, l⟩ && a then 0 else 2)) ∧ Mod (fun _ => False) w w' := by
  have HN := fun W => hasNumbers 2 o lf i p ps g s st rs rr sq ao cap l W
  have hm0 := MB.new w 2 o lf i p ps g s st rs rr sq (.slice ao l.length cap)
  have hA := (Mod.refl (fun _ => False) w).alloc (.cells #[.int .i64 2, .int .i64 o, .int .i64 lf, .int .i64 i, .int .i64 p, .int .i64 ps, .int .i64 g, .bool s, .int .i64 st, .int .i64 rs, .int .i64 rr, .int .i64 sq, .slice ao l.length cap] 43)
  have hA2 := hA.drew
  have hm02 : MB (w.alloc (.cells #[.int .i64 2, .int .i64 o, .int .i64 lf, .int .i64 i, .int .i64 p, .int .i64 ps, .int .i64 g, .bool s, .int .i64 st, .int .i64 rs, .int .i64 rr, .int .i64 sq, .slice ao l.length cap] 43)).drew w.heap.size 2 o lf i p ps g s st rs rr sq (.slice ao l.length cap) := hm0
  cases h1 : hn ⟨2, o, lf, i, p, ps, g, s, st, rs, rr, sq, l⟩ with
  | false =>
    rw [h1] at HN
    go_enter Tryz.func51, Tryz.ntmps51
    go_wp2
    go_region_held3 (fun u => u.cell? ⟨w.heap.size, 0, none⟩ = some (.int .i64 2)) (first | exact a0 | go_keep) ((go_at_call 67; refine (kinds _).mono ?_; rintro e w1 ⟨b, rfl, hb, hm1⟩; have hlk := look2 w1 b hb; obtain ⟨a0, a1, a2, a3, a4, a5, a6, a7, a8, a9, a10, a11, a12⟩ := (hm02.mod hm1 (fun h => h)).cells))
    have hmw := hA2.trans hm1 (V := fun _ => False) (fun _ _ h => h) (fun _ _ h => h)
    go_wp2_with (fail)
    refine (HN _).mono ?_
    rintro e w2 ⟨rfl, hm2⟩
    have hmw2 := hmw.trans hm2 (V := fun _ => False) (fun _ _ h => h) (fun _ _ h => h)
    go_wp2
    go_ret
    exact ⟨rfl, hmw2⟩
  | true =>
    rw [h1] at HN
    go_enter Tryz.func51, Tryz.ntmps51
    go_wp2
    go_region_held3 (fun u => u.cell? ⟨w.heap.size, 0, none⟩ = some (.int .i64 2)) (first | exact a0 | go_keep) ((go_at_call 67; refine (kinds _).mono ?_; rintro e w1 ⟨b, rfl, hb, hm1⟩; have hlk := look2 w1 b hb; obtain ⟨a0, a1, a2, a3, a4, a5, a6, a7, a8, a9, a10, a11, a12⟩ := (hm02.mod hm1 (fun h => h)).cells))
    have hmw := hA2.trans hm1 (V := fun _ => False) (fun _ _ h => h) (fun _ _ h => h)
    have hb1 := hm02.mod hm1 (fun h => h)
    go_wp2_with (fail)
    refine (HN _).mono ?_
    rintro e w2 ⟨rfl, hm2⟩
    have hmw2 := hmw.trans hm2 (V := fun _ => False) (fun _ _ h => h) (fun _ _ h => h)
    have hs2 := hs.mod hmw2 (fun _ _ h => h)
    clear a0 a1 a2 a3 a4 a5 a6 a7 a8 a9 a10 a11 a12
    obtain ⟨a0, a1, a2, a3, a4, a5, a6, a7, a8, a9, a10, a11, a12⟩ := (hb1.mod hm2 (fun h => h)).cells
    go_wp2_with (fail)
    refine (HA _ hs2).mono ?_
    rintro e w3 ⟨rfl, hm3⟩
    have hmw3 := hmw2.trans hm3 (V := fun _ => False) (fun _ _ h => h) (fun _ _ h => h)
    cases a
    all_goals
      go_wp2
      go_ret
      exact ⟨rfl, hmw3⟩
set_option maxRecDepth 100000 in
set_option maxHeartbeats 1000000 in
theorem Check3 (o lf i p ps g : Int) (s : Bool) (st rs rr sq : Int) (ao : Option Addr) (cap : Nat) (l : List Int) (w : World) (hl : l.length ≤ 160) (hs : Sl w (.slice ao l.length cap) l) (a : Bool)
    (HA : ∀ W, Sl W (.slice ao l.length cap) l → Calls Tryz.prog 89 #[.agg #[.int .i64 3, .int .i64 o, .int .i64 lf, .int .i64 i, .int .i64 p, .int .i64 ps, .int .i64 g, .bool s, .int .i64 st, .int .i64 rs, .int .i64 rr, .int .i64 sq, .slice ao l.length cap]] W fun e w' => e = .returned (.bool a) ∧ Mod (fun _ => False) W w') :
    Calls Tryz.prog 51 #[.agg #[.int .i64 3, .int .i64 o, .int .i64 lf, .int .i64 i, .int .i64 p, .int .i64 ps, .int .i64 g, .bool s, .int .i64 st, .int .i64 rs, .int .i64 rr, .int .i64 sq, .slice ao l.length cap]] w fun e w' => e = .returned (.int .i64 (if hn ⟨3, o, lf, i, p, ps, g, s, st, rs, rr, sq, l⟩ && a then 0 else 2)) ∧ Mod (fun _ => False) w w' := by
  have HN := fun W => hasNumbers 3 o lf i p ps g s st rs rr sq ao cap l W
  have hm0 := MB.new w 3 o lf i p ps g s st rs rr sq (.slice ao l.length cap)
  have hA := (Mod.refl (fun _ => False) w).alloc (.cells #[.int .i64 3, .int .i64 o, .int .i64 lf, .int .i64 i, .int .i64 p, .int .i64 ps, .int .i64 g, .bool s, .int .i64 st, .int .i64 rs, .int .i64 rr, .int .i64 sq, .slice ao l.length cap] 43)
  have hA2 := hA.drew
  have hm02 : MB (w.alloc (.cells #[.int .i64 3, .int .i64 o, .int .i64 lf, .int .i64 i, .int .i64 p, .int .i64 ps, .int .i64 g, .bool s, .int .i64 st, .int .i64 rs, .int .i64 rr, .int .i64 sq, .slice ao l.length cap] 43)).drew w.heap.size 3 o lf i p ps g s st rs rr sq (.slice ao l.length cap) := hm0
  cases h1 : hn ⟨3, o, lf, i, p, ps, g, s, st, rs, rr, sq, l⟩ with
  | false =>
    rw [h1] at HN
    go_enter Tryz.func51, Tryz.ntmps51
    go_wp2
    go_region_held3 (fun u => u.cell? ⟨w.heap.size, 0, none⟩ = some (.int .i64 3)) (first | exact a0 | go_keep) ((go_at_call 67; refine (kinds _).mono ?_; rintro e w1 ⟨b, rfl, hb, hm1⟩; have hlk := look3 w1 b hb; obtain ⟨a0, a1, a2, a3, a4, a5, a6, a7, a8, a9, a10, a11, a12⟩ := (hm02.mod hm1 (fun h => h)).cells))
    have hmw := hA2.trans hm1 (V := fun _ => False) (fun _ _ h => h) (fun _ _ h => h)
    go_wp2_with (fail)
    refine (HN _).mono ?_
    rintro e w2 ⟨rfl, hm2⟩
    have hmw2 := hmw.trans hm2 (V := fun _ => False) (fun _ _ h => h) (fun _ _ h => h)
    go_wp2
    go_ret
    exact ⟨rfl, hmw2⟩
  | true =>
    rw [h1] at HN
    go_enter Tryz.func51, Tryz.ntmps51
    go_wp2
    go_region_held3 (fun u => u.cell? ⟨w.heap.size, 0, none⟩ = some (.int .i64 3)) (first | exact a0 | go_keep) ((go_at_call 67; refine (kinds _).mono ?_; rintro e w1 ⟨b, rfl, hb, hm1⟩; have hlk := look3 w1 b hb; obtain ⟨a0, a1, a2, a3, a4, a5, a6, a7, a8, a9, a10, a11, a12⟩ := (hm02.mod hm1 (fun h => h)).cells))
    have hmw := hA2.trans hm1 (V := fun _ => False) (fun _ _ h => h) (fun _ _ h => h)
    have hb1 := hm02.mod hm1 (fun h => h)
    go_wp2_with (fail)
    refine (HN _).mono ?_
    rintro e w2 ⟨rfl, hm2⟩
    have hmw2 := hmw.trans hm2 (V := fun _ => False) (fun _ _ h => h) (fun _ _ h => h)
    have hs2 := hs.mod hmw2 (fun _ _ h => h)
    clear a0 a1 a2 a3 a4 a5 a6 a7 a8 a9 a10 a11 a12
    obtain ⟨a0, a1, a2, a3, a4, a5, a6, a7, a8, a9, a10, a11, a12⟩ := (hb1.mod hm2 (fun h => h)).cells
    go_wp2_with (fail)
    refine (HA _ hs2).mono ?_
    rintro e w3 ⟨rfl, hm3⟩
    have hmw3 := hmw2.trans hm3 (V := fun _ => False) (fun _ _ h => h) (fun _ _ h => h)
    cases a
    all_goals
      go_wp2
      go_ret
      exact ⟨rfl, hmw3⟩
set_option maxRecDepth 100000 in
set_option maxHeartbeats 1000000 in
theorem Check4 (o lf i p ps g : Int) (s : Bool) (st rs rr sq : Int) (ao : Option Addr) (cap : Nat) (l : List Int) (w : World) (hl : l.length ≤ 160) (hs : Sl w (.slice ao l.length cap) l) (a : Bool)
    (HA : ∀ W, Sl W (.slice ao l.length cap) l → Calls Tryz.prog 90 #[.agg #[.int .i64 4, .int .i64 o, .int .i64 lf, .int .i64 i, .int .i64 p, .int .i64 ps, .int .i64 g, .bool s, .int .i64 st, .int .i64 rs, .int .i64 rr, .int .i64 sq, .slice ao l.length cap]] W fun e w' => e = .returned (.bool a) ∧ Mod (fun _ => False) W w') :
    Calls Tryz.prog 51 #[.agg #[.int .i64 4, .int .i64 o, .int .i64 lf, .int .i64 i, .int .i64 p, .int .i64 ps, .int .i64 g, .bool s, .int .i64 st, .int .i64 rs, .int .i64 rr, .int .i64 sq, .slice ao l.length cap]] w fun e w' => e = .returned (.int .i64 (if hn ⟨4, o, lf, i, p, ps, g, s, st, rs, rr, sq, l⟩ && a then 0 else 2)) ∧ Mod (fun _ => False) w w' := by
  have HN := fun W => hasNumbers 4 o lf i p ps g s st rs rr sq ao cap l W
  have hm0 := MB.new w 4 o lf i p ps g s st rs rr sq (.slice ao l.length cap)
  have hA := (Mod.refl (fun _ => False) w).alloc (.cells #[.int .i64 4, .int .i64 o, .int .i64 lf, .int .i64 i, .int .i64 p, .int .i64 ps, .int .i64 g, .bool s, .int .i64 st, .int .i64 rs, .int .i64 rr, .int .i64 sq, .slice ao l.length cap] 43)
  have hA2 := hA.drew
  have hm02 : MB (w.alloc (.cells #[.int .i64 4, .int .i64 o, .int .i64 lf, .int .i64 i, .int .i64 p, .int .i64 ps, .int .i64 g, .bool s, .int .i64 st, .int .i64 rs, .int .i64 rr, .int .i64 sq, .slice ao l.length cap] 43)).drew w.heap.size 4 o lf i p ps g s st rs rr sq (.slice ao l.length cap) := hm0
  cases h1 : hn ⟨4, o, lf, i, p, ps, g, s, st, rs, rr, sq, l⟩ with
  | false =>
    rw [h1] at HN
    go_enter Tryz.func51, Tryz.ntmps51
    go_wp2
    go_region_held3 (fun u => u.cell? ⟨w.heap.size, 0, none⟩ = some (.int .i64 4)) (first | exact a0 | go_keep) ((go_at_call 67; refine (kinds _).mono ?_; rintro e w1 ⟨b, rfl, hb, hm1⟩; have hlk := look4 w1 b hb; obtain ⟨a0, a1, a2, a3, a4, a5, a6, a7, a8, a9, a10, a11, a12⟩ := (hm02.mod hm1 (fun h => h)).cells))
    have hmw := hA2.trans hm1 (V := fun _ => False) (fun _ _ h => h) (fun _ _ h => h)
    go_wp2_with (fail)
    refine (HN _).mono ?_
    rintro e w2 ⟨rfl, hm2⟩
    have hmw2 := hmw.trans hm2 (V := fun _ => False) (fun _ _ h => h) (fun _ _ h => h)
    go_wp2
    go_ret
    exact ⟨rfl, hmw2⟩
  | true =>
    rw [h1] at HN
    go_enter Tryz.func51, Tryz.ntmps51
    go_wp2
    go_region_held3 (fun u => u.cell? ⟨w.heap.size, 0, none⟩ = some (.int .i64 4)) (first | exact a0 | go_keep) ((go_at_call 67; refine (kinds _).mono ?_; rintro e w1 ⟨b, rfl, hb, hm1⟩; have hlk := look4 w1 b hb; obtain ⟨a0, a1, a2, a3, a4, a5, a6, a7, a8, a9, a10, a11, a12⟩ := (hm02.mod hm1 (fun h => h)).cells))
    have hmw := hA2.trans hm1 (V := fun _ => False) (fun _ _ h => h) (fun _ _ h => h)
    have hb1 := hm02.mod hm1 (fun h => h)
    go_wp2_with (fail)
    refine (HN _).mono ?_
    rintro e w2 ⟨rfl, hm2⟩
    have hmw2 := hmw.trans hm2 (V := fun _ => False) (fun _ _ h => h) (fun _ _ h => h)
    have hs2 := hs.mod hmw2 (fun _ _ h => h)
    clear a0 a1 a2 a3 a4 a5 a6 a7 a8 a9 a10 a11 a12
    obtain ⟨a0, a1, a2, a3, a4, a5, a6, a7, a8, a9, a10, a11, a12⟩ := (hb1.mod hm2 (fun h => h)).cells
    go_wp2_with (fail)
    refine (HA _ hs2).mono ?_
    rintro e w3 ⟨rfl, hm3⟩
    have hmw3 := hmw2.trans hm3 (V := fun _ => False) (fun _ _ h => h) (fun _ _ h => h)
    cases a
    all_goals
      go_wp2
      go_ret
      exact ⟨rfl, hmw3⟩
set_option maxRecDepth 100000 in
set_option maxHeartbeats 1000000 in
theorem Check5 (o lf i p ps g : Int) (s : Bool) (st rs rr sq : Int) (ao : Option Addr) (cap : Nat) (l : List Int) (w : World) (hl : l.length ≤ 160) (hs : Sl w (.slice ao l.length cap) l) (a : Bool)
    (HA : ∀ W, Sl W (.slice ao l.length cap) l → Calls Tryz.prog 91 #[.agg #[.int .i64 5, .int .i64 o, .int .i64 lf, .int .i64 i, .int .i64 p, .int .i64 ps, .int .i64 g, .bool s, .int .i64 st, .int .i64 rs, .int .i64 rr, .int .i64 sq, .slice ao l.length cap]] W fun e w' => e = .returned (.bool a) ∧ Mod (fun _ => False) W w') :
    Calls Tryz.prog 51 #[.agg #[.int .i64 5, .int .i64 o, .int .i64 lf, .int .i64 i, .int .i64 p, .int .i64 ps, .int .i64 g, .bool s, .int .i64 st, .int .i64 rs, .int .i64 rr, .int .i64 sq, .slice ao l.length cap]] w fun e w' => e = .returned (.int .i64 (if hn ⟨5, o, lf, i, p, ps, g, s, st, rs, rr, sq, l⟩ && a then 0 else 2)) ∧ Mod (fun _ => False) w w' := by
  have HN := fun W => hasNumbers 5 o lf i p ps g s st rs rr sq ao cap l W
  have hm0 := MB.new w 5 o lf i p ps g s st rs rr sq (.slice ao l.length cap)
  have hA := (Mod.refl (fun _ => False) w).alloc (.cells #[.int .i64 5, .int .i64 o, .int .i64 lf, .int .i64 i, .int .i64 p, .int .i64 ps, .int .i64 g, .bool s, .int .i64 st, .int .i64 rs, .int .i64 rr, .int .i64 sq, .slice ao l.length cap] 43)
  have hA2 := hA.drew
  have hm02 : MB (w.alloc (.cells #[.int .i64 5, .int .i64 o, .int .i64 lf, .int .i64 i, .int .i64 p, .int .i64 ps, .int .i64 g, .bool s, .int .i64 st, .int .i64 rs, .int .i64 rr, .int .i64 sq, .slice ao l.length cap] 43)).drew w.heap.size 5 o lf i p ps g s st rs rr sq (.slice ao l.length cap) := hm0
  cases h1 : hn ⟨5, o, lf, i, p, ps, g, s, st, rs, rr, sq, l⟩ with
  | false =>
    rw [h1] at HN
    go_enter Tryz.func51, Tryz.ntmps51
    go_wp2
    go_region_held3 (fun u => u.cell? ⟨w.heap.size, 0, none⟩ = some (.int .i64 5)) (first | exact a0 | go_keep) ((go_at_call 67; refine (kinds _).mono ?_; rintro e w1 ⟨b, rfl, hb, hm1⟩; have hlk := look5 w1 b hb; obtain ⟨a0, a1, a2, a3, a4, a5, a6, a7, a8, a9, a10, a11, a12⟩ := (hm02.mod hm1 (fun h => h)).cells))
    have hmw := hA2.trans hm1 (V := fun _ => False) (fun _ _ h => h) (fun _ _ h => h)
    go_wp2_with (fail)
    refine (HN _).mono ?_
    rintro e w2 ⟨rfl, hm2⟩
    have hmw2 := hmw.trans hm2 (V := fun _ => False) (fun _ _ h => h) (fun _ _ h => h)
    go_wp2
    go_ret
    exact ⟨rfl, hmw2⟩
  | true =>
    rw [h1] at HN
    go_enter Tryz.func51, Tryz.ntmps51
    go_wp2
    go_region_held3 (fun u => u.cell? ⟨w.heap.size, 0, none⟩ = some (.int .i64 5)) (first | exact a0 | go_keep) ((go_at_call 67; refine (kinds _).mono ?_; rintro e w1 ⟨b, rfl, hb, hm1⟩; have hlk := look5 w1 b hb; obtain ⟨a0, a1, a2, a3, a4, a5, a6, a7, a8, a9, a10, a11, a12⟩ := (hm02.mod hm1 (fun h => h)).cells))
    have hmw := hA2.trans hm1 (V := fun _ => False) (fun _ _ h => h) (fun _ _ h => h)
    have hb1 := hm02.mod hm1 (fun h => h)
    go_wp2_with (fail)
    refine (HN _).mono ?_
    rintro e w2 ⟨rfl, hm2⟩
    have hmw2 := hmw.trans hm2 (V := fun _ => False) (fun _ _ h => h) (fun _ _ h => h)
    have hs2 := hs.mod hmw2 (fun _ _ h => h)
    clear a0 a1 a2 a3 a4 a5 a6 a7 a8 a9 a10 a11 a12
    obtain ⟨a0, a1, a2, a3, a4, a5, a6, a7, a8, a9, a10, a11, a12⟩ := (hb1.mod hm2 (fun h => h)).cells
    go_wp2_with (fail)
    refine (HA _ hs2).mono ?_
    rintro e w3 ⟨rfl, hm3⟩
    have hmw3 := hmw2.trans hm3 (V := fun _ => False) (fun _ _ h => h) (fun _ _ h => h)
    cases a
    all_goals
      go_wp2
      go_ret
      exact ⟨rfl, hmw3⟩
set_option maxRecDepth 100000 in
set_option maxHeartbeats 1000000 in
theorem CheckN (k o lf i p ps g : Int) (s : Bool) (st rs rr sq : Int) (ao : Option Addr) (cap : Nat) (l : List Int) (w : World) (hl : l.length ≤ 160) (hk : k < 1 ∨ 5 < k) :
    Calls Tryz.prog 51 #[.agg #[.int .i64 k, .int .i64 o, .int .i64 lf, .int .i64 i, .int .i64 p, .int .i64 ps, .int .i64 g, .bool s, .int .i64 st, .int .i64 rs, .int .i64 rr, .int .i64 sq, .slice ao l.length cap]] w fun e w' => e = .returned (.int .i64 2) ∧ Mod (fun _ => False) w w' := by
  have hm0 := MB.new w k o lf i p ps g s st rs rr sq (.slice ao l.length cap)
  have hA := (Mod.refl (fun _ => False) w).alloc (.cells #[.int .i64 k, .int .i64 o, .int .i64 lf, .int .i64 i, .int .i64 p, .int .i64 ps, .int .i64 g, .bool s, .int .i64 st, .int .i64 rs, .int .i64 rr, .int .i64 sq, .slice ao l.length cap] 43)
  have hA2 := hA.drew
  have hm02 : MB (w.alloc (.cells #[.int .i64 k, .int .i64 o, .int .i64 lf, .int .i64 i, .int .i64 p, .int .i64 ps, .int .i64 g, .bool s, .int .i64 st, .int .i64 rs, .int .i64 rr, .int .i64 sq, .slice ao l.length cap] 43)).drew w.heap.size k o lf i p ps g s st rs rr sq (.slice ao l.length cap) := hm0
  have HK : Hid (k < 1 ∨ 5 < k) := hk
  clear hk
  go_enter Tryz.func51, Tryz.ntmps51
  go_wp2
  go_region_held3 (fun u => u.cell? ⟨w.heap.size, 0, none⟩ = some (.int .i64 k)) (first | exact a0 | go_keep) ((go_at_call 67; refine (kinds _).mono ?_; rintro e w1 ⟨b, rfl, hb, hm1⟩; have hlk := look_none w1 b k HK.out hb; obtain ⟨a0, a1, a2, a3, a4, a5, a6, a7, a8, a9, a10, a11, a12⟩ := (hm02.mod hm1 (fun h => h)).cells))
  have hmw := hA2.trans hm1 (V := fun _ => False) (fun _ _ h => h) (fun _ _ h => h)
  go_wp2
  go_ret
  exact ⟨rfl, hmw⟩
set_option maxRecDepth 100000 in
theorem CheckL (k o lf i p ps g : Int) (s : Bool) (st rs rr sq : Int) (ao : Option Addr) (cap : Nat) (l : List Int) (w : World) (hl : 160 < l.length) :
    Calls Tryz.prog 51 #[.agg #[.int .i64 k, .int .i64 o, .int .i64 lf, .int .i64 i, .int .i64 p, .int .i64 ps, .int .i64 g, .bool s, .int .i64 st, .int .i64 rs, .int .i64 rr, .int .i64 sq, .slice ao l.length cap]] w fun e w' => e = .returned (.int .i64 5) ∧ Mod (fun _ => False) w w' := by
  go_enter Tryz.func51, Tryz.ntmps51
  go_wp2
  go_ret
  exact ⟨rfl, (Mod.refl _ _).alloc _⟩
/-- Check, given what isOld answers of a MsgOld. -/
theorem Check_of (k o lf i p ps g : Int) (s : Bool) (st rs rr sq : Int) (ao : Option Addr) (cap : Nat) (l : List Int) (w : World) (hs : Sl w (.slice ao l.length cap) l)
    (HO : l.length ≤ 160 → k = 5 → ∀ W, Sl W (.slice ao l.length cap) l → Calls Tryz.prog 91 #[.agg #[.int .i64 k, .int .i64 o, .int .i64 lf, .int .i64 i, .int .i64 p, .int .i64 ps, .int .i64 g, .bool s, .int .i64 st, .int .i64 rs, .int .i64 rr, .int .i64 sq, .slice ao l.length cap]] W fun e w' => e = .returned (.bool (od ⟨k, o, lf, i, p, ps, g, s, st, rs, rr, sq, l⟩)) ∧ Mod (fun _ => False) W w') :
    Calls Tryz.prog 51 #[.agg #[.int .i64 k, .int .i64 o, .int .i64 lf, .int .i64 i, .int .i64 p, .int .i64 ps, .int .i64 g, .bool s, .int .i64 st, .int .i64 rs, .int .i64 rr, .int .i64 sq, .slice ao l.length cap]] w fun e w' => e = .returned (.int .i64 (chk ⟨k, o, lf, i, p, ps, g, s, st, rs, rr, sq, l⟩)) ∧ Mod (fun _ => False) w w' := by
  unfold chk
  dsimp only
  by_cases hl : 160 < l.length
  · rw [if_pos hl]
    exact CheckL k o lf i p ps g s st rs rr sq ao cap l w hl
  · rw [if_neg hl]
    have hl' : l.length ≤ 160 := by omega
    by_cases h1 : k = 1
    · subst h1
      rw [show kd ⟨1, o, lf, i, p, ps, g, s, st, rs, rr, sq, l⟩ = tx ⟨1, o, lf, i, p, ps, g, s, st, rs, rr, sq, l⟩ from rfl]
      exact Check1 o lf i p ps g s st rs rr sq ao cap l w hl' hs _ (fun W _ => isText 1 o lf i p ps g s st rs rr sq ao cap l W)
    · by_cases h2 : k = 2
      · subst h2
        rw [show kd ⟨2, o, lf, i, p, ps, g, s, st, rs, rr, sq, l⟩ = mkk ⟨2, o, lf, i, p, ps, g, s, st, rs, rr, sq, l⟩ from rfl]
        exact Check2 o lf i p ps g s st rs rr sq ao cap l w hl' hs _ (fun W _ => isMark 2 o lf i p ps g s st rs rr sq ao cap l W)
      · by_cases h3 : k = 3
        · subst h3
          rw [show kd ⟨3, o, lf, i, p, ps, g, s, st, rs, rr, sq, l⟩ = wn ⟨3, o, lf, i, p, ps, g, s, st, rs, rr, sq, l⟩ from rfl]
          exact Check3 o lf i p ps g s st rs rr sq ao cap l w hl' hs _ (fun W _ => isWant 3 o lf i p ps g s st rs rr sq ao cap l W)
        · by_cases h4 : k = 4
          · subst h4
            rw [show kd ⟨4, o, lf, i, p, ps, g, s, st, rs, rr, sq, l⟩ = ch ⟨4, o, lf, i, p, ps, g, s, st, rs, rr, sq, l⟩ from rfl]
            exact Check4 o lf i p ps g s st rs rr sq ao cap l w hl' hs _ (fun W hW => isChart 4 o lf i p ps g s st rs rr sq ao cap l W hW (by omega))
          · by_cases h5 : k = 5
            · subst h5
              rw [show kd ⟨5, o, lf, i, p, ps, g, s, st, rs, rr, sq, l⟩ = od ⟨5, o, lf, i, p, ps, g, s, st, rs, rr, sq, l⟩ from rfl]
              exact Check5 o lf i p ps g s st rs rr sq ao cap l w hl' hs _ (HO hl' rfl)
            · have e : kd ⟨k, o, lf, i, p, ps, g, s, st, rs, rr, sq, l⟩ = false := by
                unfold kd kd0
                dsimp only
                rw [if_neg h5, if_neg h1, if_neg h2, if_neg h3, if_neg h4]
              rw [e, Bool.and_false, if_neg (by decide)]
              exact CheckN k o lf i p ps g s st rs rr sq ao cap l w hl' (by omega)
end Go.Proofs.YthiijonmnebjgaaGreat
