/- The law's own visits come out as the chapter says. No conditions. -/
import Derived.Test.YtbjkncfpddhpkaaAe
namespace Go.Proofs.Ytbjkncfpddhpkaa
open Go.RowKit
theorem visit1 (gv : Value) (w : World) (hG : Cr.Sl w gv [5, 7]) :
    Calls Try.prog 9 #[.agg #[.int .i64 4, .int .i64 1, .int .i64 1, .int .i64 9, .int .i64 5, .int .i64 3, .int .i64 20, .int .i64 0, .slice none 0 0], .int .i64 2, .int .i64 4, gv] w fun e w' => ∃ ao1 cap1, e = .returned (.agg #[.int .i64 4, .int .i64 1, .int .i64 2, .int .i64 9, .int .i64 4, .int .i64 2, .int .i64 20, .int .i64 0, .slice ao1 2 cap1]) ∧ Aw w' (.slice ao1 2 cap1) [5, 7] ∧ Mod (fun _ => False) w w' ∧ (∀ g, (Value.slice ao1 2 cap1).ownBlock = some g → w.heap.size ≤ g) :=
  visit_ok 4 1 1 9 5 3 20 0 2 4 none 0 [] gv [5, 7] w (nilSl w) hG (by decide) (by decide) (by decide) (by decide)
theorem visit2 (w : World) :
    Calls Try.prog 9 #[.agg #[.int .i64 4, .int .i64 1, .int .i64 1, .int .i64 9, .int .i64 5, .int .i64 3, .int .i64 20, .int .i64 0, .slice none 0 0], .int .i64 3, .int .i64 9, .slice none 0 0] w fun e w' => ∃ ao2 cap2, e = .returned (.agg #[.int .i64 4, .int .i64 1, .int .i64 2, .int .i64 9, .int .i64 9, .int .i64 0, .int .i64 20, .int .i64 0, .slice ao2 0 cap2]) ∧ Aw w' (.slice ao2 0 cap2) [] ∧ Mod (fun _ => False) w w' ∧ (∀ g, (Value.slice ao2 0 cap2).ownBlock = some g → w.heap.size ≤ g) :=
  visit_ok 4 1 1 9 5 3 20 0 3 9 none 0 [] (.slice none 0 0) [] w (nilSl w) (nilSl w) (by decide) (by decide) (by decide) (by decide)
set_option maxRecDepth 100000 in
set_option maxHeartbeats 4000000 in
theorem awake_any (w : World) : Calls Try.prog 15 #[] w fun e w' => e = .returned (.bool true) ∧ Mod (fun _ => False) w w' := by
  go_enter Try.func15, Try.ntmps15
  go_wp2_with (fail)
  refine (usual_any _).mono ?_
  rintro e w1 ⟨rfl, m1⟩
  have mA := m1.alloc (.cells #[.int .i64 5, .int .i64 7] 3)
  have hV1 := visit1 _ _ (Cr.Own.lit w1 [5, 7] (by decide)).sl
  go_wp2_with (fail)
  refine hV1.mono ?_
  rintro e w2 ⟨ao1, cap1, rfl, o1, m2, n1⟩
  replace mA := mA.and m2
  have hBz := Bk.new w2 #[.int .i64 0, .int .i64 0, .int .i64 0, .int .i64 0, .int .i64 0, .int .i64 0, .int .i64 0, .int .i64 0, .slice none 0 0] 26
  have o1z := o1.mod ((Mod.refl (fun _ => False) w2).alloc (.cells #[.int .i64 0, .int .i64 0, .int .i64 0, .int .i64 0, .int .i64 0, .int .i64 0, .int .i64 0, .int .i64 0, .slice none 0 0] 26)) (fun _ _ h => h)
  have mZ := mA.alloc (.cells #[.int .i64 0, .int .i64 0, .int .i64 0, .int .i64 0, .int .i64 0, .int .i64 0, .int .i64 0, .int .i64 0, .slice none 0 0] 26)
  have l1 := o1.lt
  have s2 := mA.size
  clear hV1
  go_wp2_with (refine wpList_store_row infoT rfl rfl _ _ rfl w2.heap.size #[.int .i64 4, .int .i64 1, .int .i64 2, .int .i64 9, .int .i64 4, .int .i64 2, .int .i64 20, .int .i64 0, .slice ao1 2 cap1] rfl rfl hBz rfl rfl rfl ?_; intro wF hBF hMF)
  refine (usual_any _).mono ?_
  rintro e w3 ⟨rfl, m3⟩
  go_wp2_with (fail)
  refine (visit2 _).mono ?_
  rintro e w4 ⟨ao2, cap2, rfl, o2, m4, n2⟩
  have o1F := ((o1z.mod hMF (fun g hg h => by have := l1 g hg; omega)).mod m3 (fun _ _ h => h)).mod m4 (fun _ _ h => h)
  have hB1 := (hBF.mod m3 (fun h => h)).mod m4 (fun h => h)
  have mF := ((mZ.trans hMF (V := fun _ => False) (fun _ _ h => h) (fun i hi h => by omega)).and m3).and m4
  have hBy := Bk.new w4 #[.int .i64 0, .int .i64 0, .int .i64 0, .int .i64 0, .int .i64 0, .int .i64 0, .int .i64 0, .int .i64 0, .slice none 0 0] 26
  have hB1y := hB1.mod ((Mod.refl (fun _ => False) w4).alloc (.cells #[.int .i64 0, .int .i64 0, .int .i64 0, .int .i64 0, .int .i64 0, .int .i64 0, .int .i64 0, .int .i64 0, .slice none 0 0] 26)) (fun h => h)
  have o1y := o1F.mod ((Mod.refl (fun _ => False) w4).alloc (.cells #[.int .i64 0, .int .i64 0, .int .i64 0, .int .i64 0, .int .i64 0, .int .i64 0, .int .i64 0, .int .i64 0, .slice none 0 0] 26)) (fun _ _ h => h)
  have mY := mF.alloc (.cells #[.int .i64 0, .int .i64 0, .int .i64 0, .int .i64 0, .int .i64 0, .int .i64 0, .int .i64 0, .int .i64 0, .slice none 0 0] 26)
  have l4 := hB1.lt
  have k4 := o1F.lt
  have s4 := mF.size
  clear hBz o1z mZ hBF hMF m3 m4 hB1 mF o1F mA o1 m2 n1 n2 m1
  go_wp2_with (refine wpList_store_row infoT rfl rfl _ _ rfl w4.heap.size #[.int .i64 4, .int .i64 1, .int .i64 2, .int .i64 9, .int .i64 9, .int .i64 0, .int .i64 20, .int .i64 0, .slice ao2 0 cap2] rfl rfl hBy rfl rfl rfl ?_; intro wG hBG hMG; have hB1G := hB1y.mod hMG (by omega); have a2 := hB1G.cellv (j := 2) rfl; have a4 := hB1G.cellv (j := 4) rfl; have a5 := hB1G.cellv (j := 5) rfl; have a8 := hB1G.cellv (j := 8) rfl; have o1G := o1y.mod hMG (fun g hg h => by have := k4 g hg; omega); have mG := mY.trans hMG (V := fun _ => False) (fun _ _ h => h) (fun i hi h => by omega))
  have hEq := Cr.EqInts_at true (o1G.mod ((Mod.refl (fun _ => False) wG).alloc (.cells (Cr.U [5, 7]).toArray 3)) (fun _ _ h => h)).sl (Cr.Own.lit wG [5, 7] (by decide)).sl (by decide)
  refine hEq.mono ?_
  rintro e w5 ⟨rfl, m5⟩
  have mH := (mG.alloc (.cells (Cr.U [5, 7]).toArray 3)).and m5
  have hB5 := (hBG.mod ((Mod.refl (fun _ => False) wG).alloc (.cells (Cr.U [5, 7]).toArray 3)) (fun h => h)).mod m5 (fun h => h)
  have b3 := hB5.cellv (j := 3) rfl
  have b4 := hB5.cellv (j := 4) rfl
  have b5 := hB5.cellv (j := 5) rfl
  clear a2 a4 a5 a8 hEq
  have hS := fun W => tSafe 3 5 4 W
  rw [show max (3 : Int) (min 5 4) = 4 by decide] at hS
  go_wp2_with (fail)
  refine (hS _).mono ?_
  rintro e w6 ⟨rfl, rfl⟩
  go_wp2
  go_ret
  exact ⟨rfl, mH⟩
end Go.Proofs.Ytbjkncfpddhpkaa
