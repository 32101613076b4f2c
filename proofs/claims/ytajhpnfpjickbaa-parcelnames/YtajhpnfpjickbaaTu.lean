/- What the law's turned answers: a message. Conditions: numbers below 28. -/
import Derived.Test.YtajhpnfpjickbaaRn
import Derived.Test.YtajhpnfpjickbaaRw
namespace Go.Proofs.Ytajhpnfpjickbaa
open Go.RowKit
set_option maxRecDepth 100000 in
theorem tu0 (w : World) : Calls Try.prog 35 #[.int .i64 0] w fun e w' => ∃ m, e = .returned m ∧ IsM w' m ∧ Mod (fun _ => False) w w' := by
  go_enter Try.func35, Try.ntmps35
  go_wp2_with (fail)
  refine (text _).mono ?_
  rintro e w1 ⟨ao, cap, rfl, hO, hm1, hn1⟩
  have B0 : Hid (Bk w1 w.heap.size 28 #[.int .i64 0, .int .i64 0, .int .i64 0, .int .i64 0, .int .i64 0, .int .i64 0, .int .i64 0, .bool false, .int .i64 0, .int .i64 0, .int .i64 0, .int .i64 0, .slice none 0 0]) := (Bk.new w _ _).mod hm1 (fun h => h)
  have hM : Hid (Mod (fun _ => False) w w1) := ((Mod.refl (fun _ => False) w).alloc _).trans hm1 (fun _ _ h => h) (fun _ _ h => h)
  have HO : Hid (Own w1 (.slice ao 1 cap) [65]) := hO
  have HN : Hid (∀ g, (Value.slice ao 1 cap).ownBlock = some g → ¬ g = w.heap.size) := fun g hg e => by
    have := hn1 g hg
    simp at this
    omega
  have hl1 : w.heap.size < w1.heap.size := B0.out.lt
  clear hm1 hn1 hO
  go_wp2_with (refine wpList_store_row info13 rfl rfl _ _ rfl w.heap.size _ rfl rfl (by first | exact B0.out.mod ((Mod.refl (fun _ => False) _).alloc _) (fun h => h) | exact B0.out.mod (((Mod.refl (fun _ => False) _).alloc _).alloc _) (fun h => h)) rfl rfl rfl ?_; intro wF hBF hMF)
  have hw : Mod (fun _ => False) w wF := ((hM.out.alloc _)).trans hMF (fun _ _ h => h) (fun i hi h => by have h' : i = w.heap.size := h; omega)
  have h1 : Mod (fun i => i = w.heap.size) w1 wF := ((Mod.refl (fun _ => False) w1).alloc _).trans hMF (fun _ _ h => h.elim) (fun _ _ h => h)
  have hS : Sl wF (.slice ao 1 cap) [65] := (HO.out.mod h1 HN.out).sl (by simp)
  exact bodyPost_ret (res1 rfl rfl hBF rfl) rfl ⟨_, rfl, ⟨_, _, _, _, _, _, _, _, _, _, _, _, _, _, [65], rfl, hS, by simp⟩, hw⟩
set_option maxRecDepth 100000 in
theorem tu1 (w : World) : Calls Try.prog 35 #[.int .i64 1] w fun e w' => ∃ m, e = .returned m ∧ IsM w' m ∧ Mod (fun _ => False) w w' := by
  go_enter Try.func35, Try.ntmps35
  go_wp2_with (fail)
  refine (text _).mono ?_
  rintro e w1 ⟨ao, cap, rfl, hO, hm1, hn1⟩
  have B0 : Hid (Bk w1 w.heap.size 28 #[.int .i64 0, .int .i64 0, .int .i64 0, .int .i64 0, .int .i64 0, .int .i64 0, .int .i64 0, .bool false, .int .i64 0, .int .i64 0, .int .i64 0, .int .i64 0, .slice none 0 0]) := (Bk.new w _ _).mod hm1 (fun h => h)
  have hM : Hid (Mod (fun _ => False) w w1) := ((Mod.refl (fun _ => False) w).alloc _).trans hm1 (fun _ _ h => h) (fun _ _ h => h)
  have HO : Hid (Own w1 (.slice ao 1 cap) [65]) := hO
  have HN : Hid (∀ g, (Value.slice ao 1 cap).ownBlock = some g → ¬ g = w.heap.size) := fun g hg e => by
    have := hn1 g hg
    simp at this
    omega
  have hl1 : w.heap.size < w1.heap.size := B0.out.lt
  clear hm1 hn1 hO
  go_wp2_with (refine wpList_store_row info13 rfl rfl _ _ rfl w.heap.size _ rfl rfl (by first | exact B0.out.mod ((Mod.refl (fun _ => False) _).alloc _) (fun h => h) | exact B0.out.mod (((Mod.refl (fun _ => False) _).alloc _).alloc _) (fun h => h)) rfl rfl rfl ?_; intro wF hBF hMF)
  have hw : Mod (fun _ => False) w wF := ((hM.out.alloc _)).trans hMF (fun _ _ h => h) (fun i hi h => by have h' : i = w.heap.size := h; omega)
  have h1 : Mod (fun i => i = w.heap.size) w1 wF := ((Mod.refl (fun _ => False) w1).alloc _).trans hMF (fun _ _ h => h.elim) (fun _ _ h => h)
  have hS : Sl wF (.slice ao 1 cap) [65] := (HO.out.mod h1 HN.out).sl (by simp)
  exact bodyPost_ret (res1 rfl rfl hBF rfl) rfl ⟨_, rfl, ⟨_, _, _, _, _, _, _, _, _, _, _, _, _, _, [65], rfl, hS, by simp⟩, hw⟩
set_option maxRecDepth 100000 in
theorem tu2 (w : World) : Calls Try.prog 35 #[.int .i64 2] w fun e w' => ∃ m, e = .returned m ∧ IsM w' m ∧ Mod (fun _ => False) w w' := by
  go_enter Try.func35, Try.ntmps35
  go_wp2_with (fail)
  refine (text _).mono ?_
  rintro e w1 ⟨ao, cap, rfl, hO, hm1, hn1⟩
  have B0 : Hid (Bk w1 w.heap.size 28 #[.int .i64 0, .int .i64 0, .int .i64 0, .int .i64 0, .int .i64 0, .int .i64 0, .int .i64 0, .bool false, .int .i64 0, .int .i64 0, .int .i64 0, .int .i64 0, .slice none 0 0]) := (Bk.new w _ _).mod hm1 (fun h => h)
  have hM : Hid (Mod (fun _ => False) w w1) := ((Mod.refl (fun _ => False) w).alloc _).trans hm1 (fun _ _ h => h) (fun _ _ h => h)
  have HO : Hid (Own w1 (.slice ao 1 cap) [65]) := hO
  have HN : Hid (∀ g, (Value.slice ao 1 cap).ownBlock = some g → ¬ g = w.heap.size) := fun g hg e => by
    have := hn1 g hg
    simp at this
    omega
  have hl1 : w.heap.size < w1.heap.size := B0.out.lt
  clear hm1 hn1 hO
  go_wp2_with (refine wpList_store_row info13 rfl rfl _ _ rfl w.heap.size _ rfl rfl (by first | exact B0.out.mod ((Mod.refl (fun _ => False) _).alloc _) (fun h => h) | exact B0.out.mod (((Mod.refl (fun _ => False) _).alloc _).alloc _) (fun h => h)) rfl rfl rfl ?_; intro wF hBF hMF)
  have hw : Mod (fun _ => False) w wF := ((hM.out.alloc _)).trans hMF (fun _ _ h => h) (fun i hi h => by have h' : i = w.heap.size := h; omega)
  have h1 : Mod (fun i => i = w.heap.size) w1 wF := ((Mod.refl (fun _ => False) w1).alloc _).trans hMF (fun _ _ h => h.elim) (fun _ _ h => h)
  have hS : Sl wF (.slice ao 1 cap) [65] := (HO.out.mod h1 HN.out).sl (by simp)
  exact bodyPost_ret (res1 rfl rfl hBF rfl) rfl ⟨_, rfl, ⟨_, _, _, _, _, _, _, _, _, _, _, _, _, _, [65], rfl, hS, by simp⟩, hw⟩
set_option maxRecDepth 100000 in
theorem tu3 (w : World) : Calls Try.prog 35 #[.int .i64 3] w fun e w' => ∃ m, e = .returned m ∧ IsM w' m ∧ Mod (fun _ => False) w w' := by
  go_enter Try.func35, Try.ntmps35
  go_wp2_with (fail)
  refine (text _).mono ?_
  rintro e w1 ⟨ao, cap, rfl, hO, hm1, hn1⟩
  have B0 : Hid (Bk w1 w.heap.size 28 #[.int .i64 0, .int .i64 0, .int .i64 0, .int .i64 0, .int .i64 0, .int .i64 0, .int .i64 0, .bool false, .int .i64 0, .int .i64 0, .int .i64 0, .int .i64 0, .slice none 0 0]) := (Bk.new w _ _).mod hm1 (fun h => h)
  have hM : Hid (Mod (fun _ => False) w w1) := ((Mod.refl (fun _ => False) w).alloc _).trans hm1 (fun _ _ h => h) (fun _ _ h => h)
  have HO : Hid (Own w1 (.slice ao 1 cap) [65]) := hO
  have HN : Hid (∀ g, (Value.slice ao 1 cap).ownBlock = some g → ¬ g = w.heap.size) := fun g hg e => by
    have := hn1 g hg
    simp at this
    omega
  have hl1 : w.heap.size < w1.heap.size := B0.out.lt
  clear hm1 hn1 hO
  go_wp2_with (refine wpList_store_row info13 rfl rfl _ _ rfl w.heap.size _ rfl rfl (by first | exact B0.out.mod ((Mod.refl (fun _ => False) _).alloc _) (fun h => h) | exact B0.out.mod (((Mod.refl (fun _ => False) _).alloc _).alloc _) (fun h => h)) rfl rfl rfl ?_; intro wF hBF hMF)
  have hw : Mod (fun _ => False) w wF := ((hM.out.alloc _)).trans hMF (fun _ _ h => h) (fun i hi h => by have h' : i = w.heap.size := h; omega)
  have h1 : Mod (fun i => i = w.heap.size) w1 wF := ((Mod.refl (fun _ => False) w1).alloc _).trans hMF (fun _ _ h => h.elim) (fun _ _ h => h)
  have hS : Sl wF (.slice ao 1 cap) [65] := (HO.out.mod h1 HN.out).sl (by simp)
  exact bodyPost_ret (res1 rfl rfl hBF rfl) rfl ⟨_, rfl, ⟨_, _, _, _, _, _, _, _, _, _, _, _, _, _, [65], rfl, hS, by simp⟩, hw⟩
set_option maxRecDepth 100000 in
theorem tu4 (w : World) : Calls Try.prog 35 #[.int .i64 4] w fun e w' => ∃ m, e = .returned m ∧ IsM w' m ∧ Mod (fun _ => False) w w' := by
  go_enter Try.func35, Try.ntmps35
  go_wp2_with (fail)
  refine (text _).mono ?_
  rintro e w1 ⟨ao, cap, rfl, hO, hm1, hn1⟩
  have B0 : Hid (Bk w1 w.heap.size 28 #[.int .i64 0, .int .i64 0, .int .i64 0, .int .i64 0, .int .i64 0, .int .i64 0, .int .i64 0, .bool false, .int .i64 0, .int .i64 0, .int .i64 0, .int .i64 0, .slice none 0 0]) := (Bk.new w _ _).mod hm1 (fun h => h)
  have hM : Hid (Mod (fun _ => False) w w1) := ((Mod.refl (fun _ => False) w).alloc _).trans hm1 (fun _ _ h => h) (fun _ _ h => h)
  have HO : Hid (Own w1 (.slice ao 1 cap) [65]) := hO
  have HN : Hid (∀ g, (Value.slice ao 1 cap).ownBlock = some g → ¬ g = w.heap.size) := fun g hg e => by
    have := hn1 g hg
    simp at this
    omega
  have hl1 : w.heap.size < w1.heap.size := B0.out.lt
  clear hm1 hn1 hO
  go_wp2_with (refine wpList_store_row info13 rfl rfl _ _ rfl w.heap.size _ rfl rfl (by first | exact B0.out.mod ((Mod.refl (fun _ => False) _).alloc _) (fun h => h) | exact B0.out.mod (((Mod.refl (fun _ => False) _).alloc _).alloc _) (fun h => h)) rfl rfl rfl ?_; intro wF hBF hMF)
  have hw : Mod (fun _ => False) w wF := ((hM.out.alloc _)).trans hMF (fun _ _ h => h) (fun i hi h => by have h' : i = w.heap.size := h; omega)
  have h1 : Mod (fun i => i = w.heap.size) w1 wF := ((Mod.refl (fun _ => False) w1).alloc _).trans hMF (fun _ _ h => h.elim) (fun _ _ h => h)
  have hS : Sl wF (.slice ao 1 cap) [65] := (HO.out.mod h1 HN.out).sl (by simp)
  exact bodyPost_ret (res1 rfl rfl hBF rfl) rfl ⟨_, rfl, ⟨_, _, _, _, _, _, _, _, _, _, _, _, _, _, [65], rfl, hS, by simp⟩, hw⟩
set_option maxRecDepth 100000 in
theorem tu5 (w : World) : Calls Try.prog 35 #[.int .i64 5] w fun e w' => ∃ m, e = .returned m ∧ IsM w' m ∧ Mod (fun _ => False) w w' := by
  go_enter Try.func35, Try.ntmps35
  go_wp2_with (fail)
  refine (text _).mono ?_
  rintro e w1 ⟨ao, cap, rfl, hO, hm1, hn1⟩
  have B0 : Hid (Bk w1 w.heap.size 28 #[.int .i64 0, .int .i64 0, .int .i64 0, .int .i64 0, .int .i64 0, .int .i64 0, .int .i64 0, .bool false, .int .i64 0, .int .i64 0, .int .i64 0, .int .i64 0, .slice none 0 0]) := (Bk.new w _ _).mod hm1 (fun h => h)
  have hM : Hid (Mod (fun _ => False) w w1) := ((Mod.refl (fun _ => False) w).alloc _).trans hm1 (fun _ _ h => h) (fun _ _ h => h)
  have HO : Hid (Own w1 (.slice ao 1 cap) [65]) := hO
  have HN : Hid (∀ g, (Value.slice ao 1 cap).ownBlock = some g → ¬ g = w.heap.size) := fun g hg e => by
    have := hn1 g hg
    simp at this
    omega
  have hl1 : w.heap.size < w1.heap.size := B0.out.lt
  clear hm1 hn1 hO
  go_wp2_with (refine wpList_store_row info13 rfl rfl _ _ rfl w.heap.size _ rfl rfl (by first | exact B0.out.mod ((Mod.refl (fun _ => False) _).alloc _) (fun h => h) | exact B0.out.mod (((Mod.refl (fun _ => False) _).alloc _).alloc _) (fun h => h)) rfl rfl rfl ?_; intro wF hBF hMF)
  have hw : Mod (fun _ => False) w wF := ((hM.out.alloc _)).trans hMF (fun _ _ h => h) (fun i hi h => by have h' : i = w.heap.size := h; omega)
  have h1 : Mod (fun i => i = w.heap.size) w1 wF := ((Mod.refl (fun _ => False) w1).alloc _).trans hMF (fun _ _ h => h.elim) (fun _ _ h => h)
  have hS : Sl wF (.slice ao 1 cap) [65] := (HO.out.mod h1 HN.out).sl (by simp)
  exact bodyPost_ret (res1 rfl rfl hBF rfl) rfl ⟨_, rfl, ⟨_, _, _, _, _, _, _, _, _, _, _, _, _, _, [65], rfl, hS, by simp⟩, hw⟩
set_option maxRecDepth 100000 in
theorem tu6 (w : World) : Calls Try.prog 35 #[.int .i64 6] w fun e w' => ∃ m, e = .returned m ∧ IsM w' m ∧ Mod (fun _ => False) w w' := by
  go_enter Try.func35, Try.ntmps35
  go_wp2_with (fail)
  refine (text _).mono ?_
  rintro e w1 ⟨ao, cap, rfl, hO, hm1, hn1⟩
  have B0 : Hid (Bk w1 w.heap.size 28 #[.int .i64 0, .int .i64 0, .int .i64 0, .int .i64 0, .int .i64 0, .int .i64 0, .int .i64 0, .bool false, .int .i64 0, .int .i64 0, .int .i64 0, .int .i64 0, .slice none 0 0]) := (Bk.new w _ _).mod hm1 (fun h => h)
  have hM : Hid (Mod (fun _ => False) w w1) := ((Mod.refl (fun _ => False) w).alloc _).trans hm1 (fun _ _ h => h) (fun _ _ h => h)
  have HO : Hid (Own w1 (.slice ao 1 cap) [65]) := hO
  have HN : Hid (∀ g, (Value.slice ao 1 cap).ownBlock = some g → ¬ g = w.heap.size) := fun g hg e => by
    have := hn1 g hg
    simp at this
    omega
  have hl1 : w.heap.size < w1.heap.size := B0.out.lt
  clear hm1 hn1 hO
  go_wp2_with (refine wpList_store_row info13 rfl rfl _ _ rfl w.heap.size _ rfl rfl (by first | exact B0.out.mod ((Mod.refl (fun _ => False) _).alloc _) (fun h => h) | exact B0.out.mod (((Mod.refl (fun _ => False) _).alloc _).alloc _) (fun h => h)) rfl rfl rfl ?_; intro wF hBF hMF)
  have hw : Mod (fun _ => False) w wF := ((hM.out.alloc _)).trans hMF (fun _ _ h => h) (fun i hi h => by have h' : i = w.heap.size := h; omega)
  have h1 : Mod (fun i => i = w.heap.size) w1 wF := ((Mod.refl (fun _ => False) w1).alloc _).trans hMF (fun _ _ h => h.elim) (fun _ _ h => h)
  have hS : Sl wF (.slice ao 1 cap) [65] := (HO.out.mod h1 HN.out).sl (by simp)
  exact bodyPost_ret (res1 rfl rfl hBF rfl) rfl ⟨_, rfl, ⟨_, _, _, _, _, _, _, _, _, _, _, _, _, _, [65], rfl, hS, by simp⟩, hw⟩
set_option maxRecDepth 100000 in
theorem tu7 (w : World) : Calls Try.prog 35 #[.int .i64 7] w fun e w' => ∃ m, e = .returned m ∧ IsM w' m ∧ Mod (fun _ => False) w w' := by
  go_enter Try.func35, Try.ntmps35
  go_wp2_with (fail)
  refine (text _).mono ?_
  rintro e w1 ⟨ao, cap, rfl, hO, hm1, hn1⟩
  have B0 : Hid (Bk w1 w.heap.size 28 #[.int .i64 0, .int .i64 0, .int .i64 0, .int .i64 0, .int .i64 0, .int .i64 0, .int .i64 0, .bool false, .int .i64 0, .int .i64 0, .int .i64 0, .int .i64 0, .slice none 0 0]) := (Bk.new w _ _).mod hm1 (fun h => h)
  have hM : Hid (Mod (fun _ => False) w w1) := ((Mod.refl (fun _ => False) w).alloc _).trans hm1 (fun _ _ h => h) (fun _ _ h => h)
  have HO : Hid (Own w1 (.slice ao 1 cap) [65]) := hO
  have HN : Hid (∀ g, (Value.slice ao 1 cap).ownBlock = some g → ¬ g = w.heap.size) := fun g hg e => by
    have := hn1 g hg
    simp at this
    omega
  have hl1 : w.heap.size < w1.heap.size := B0.out.lt
  clear hm1 hn1 hO
  go_wp2_with (refine wpList_store_row info13 rfl rfl _ _ rfl w.heap.size _ rfl rfl (by first | exact B0.out.mod ((Mod.refl (fun _ => False) _).alloc _) (fun h => h) | exact B0.out.mod (((Mod.refl (fun _ => False) _).alloc _).alloc _) (fun h => h)) rfl rfl rfl ?_; intro wF hBF hMF)
  have hw : Mod (fun _ => False) w wF := ((hM.out.alloc _)).trans hMF (fun _ _ h => h) (fun i hi h => by have h' : i = w.heap.size := h; omega)
  have h1 : Mod (fun i => i = w.heap.size) w1 wF := ((Mod.refl (fun _ => False) w1).alloc _).trans hMF (fun _ _ h => h.elim) (fun _ _ h => h)
  have hS : Sl wF (.slice ao 1 cap) [65] := (HO.out.mod h1 HN.out).sl (by simp)
  exact bodyPost_ret (res1 rfl rfl hBF rfl) rfl ⟨_, rfl, ⟨_, _, _, _, _, _, _, _, _, _, _, _, _, _, [65], rfl, hS, by simp⟩, hw⟩
set_option maxRecDepth 100000 in
theorem tu8 (w : World) : Calls Try.prog 35 #[.int .i64 8] w fun e w' => ∃ m, e = .returned m ∧ IsM w' m ∧ Mod (fun _ => False) w w' := by
  go_enter Try.func35, Try.ntmps35
  go_wp2_with (fail)
  refine (text _).mono ?_
  rintro e w1 ⟨ao, cap, rfl, hO, hm1, hn1⟩
  have B0 : Hid (Bk w1 w.heap.size 28 #[.int .i64 0, .int .i64 0, .int .i64 0, .int .i64 0, .int .i64 0, .int .i64 0, .int .i64 0, .bool false, .int .i64 0, .int .i64 0, .int .i64 0, .int .i64 0, .slice none 0 0]) := (Bk.new w _ _).mod hm1 (fun h => h)
  have hM : Hid (Mod (fun _ => False) w w1) := ((Mod.refl (fun _ => False) w).alloc _).trans hm1 (fun _ _ h => h) (fun _ _ h => h)
  have HO : Hid (Own w1 (.slice ao 1 cap) [65]) := hO
  have HN : Hid (∀ g, (Value.slice ao 1 cap).ownBlock = some g → ¬ g = w.heap.size) := fun g hg e => by
    have := hn1 g hg
    simp at this
    omega
  have hl1 : w.heap.size < w1.heap.size := B0.out.lt
  clear hm1 hn1 hO
  go_wp2_with (refine wpList_store_row info13 rfl rfl _ _ rfl w.heap.size _ rfl rfl (by first | exact B0.out.mod ((Mod.refl (fun _ => False) _).alloc _) (fun h => h) | exact B0.out.mod (((Mod.refl (fun _ => False) _).alloc _).alloc _) (fun h => h)) rfl rfl rfl ?_; intro wF hBF hMF)
  have hw : Mod (fun _ => False) w wF := ((hM.out.alloc _)).trans hMF (fun _ _ h => h) (fun i hi h => by have h' : i = w.heap.size := h; omega)
  have h1 : Mod (fun i => i = w.heap.size) w1 wF := ((Mod.refl (fun _ => False) w1).alloc _).trans hMF (fun _ _ h => h.elim) (fun _ _ h => h)
  have hS : Sl wF (.slice ao 1 cap) [65] := (HO.out.mod h1 HN.out).sl (by simp)
  exact bodyPost_ret (res1 rfl rfl hBF rfl) rfl ⟨_, rfl, ⟨_, _, _, _, _, _, _, _, _, _, _, _, _, _, [65], rfl, hS, by simp⟩, hw⟩
set_option maxRecDepth 100000 in
theorem tu9 (w : World) : Calls Try.prog 35 #[.int .i64 9] w fun e w' => ∃ m, e = .returned m ∧ IsM w' m ∧ Mod (fun _ => False) w w' := by
  go_enter Try.func35, Try.ntmps35
  go_wp2_with (fail)
  refine (text _).mono ?_
  rintro e w1 ⟨ao, cap, rfl, hO, hm1, hn1⟩
  have B0 : Hid (Bk w1 w.heap.size 28 #[.int .i64 0, .int .i64 0, .int .i64 0, .int .i64 0, .int .i64 0, .int .i64 0, .int .i64 0, .bool false, .int .i64 0, .int .i64 0, .int .i64 0, .int .i64 0, .slice none 0 0]) := (Bk.new w _ _).mod hm1 (fun h => h)
  have hM : Hid (Mod (fun _ => False) w w1) := ((Mod.refl (fun _ => False) w).alloc _).trans hm1 (fun _ _ h => h) (fun _ _ h => h)
  have HO : Hid (Own w1 (.slice ao 1 cap) [65]) := hO
  have HN : Hid (∀ g, (Value.slice ao 1 cap).ownBlock = some g → ¬ g = w.heap.size) := fun g hg e => by
    have := hn1 g hg
    simp at this
    omega
  have hl1 : w.heap.size < w1.heap.size := B0.out.lt
  clear hm1 hn1 hO
  go_wp2_with (refine wpList_store_row info13 rfl rfl _ _ rfl w.heap.size _ rfl rfl (by first | exact B0.out.mod ((Mod.refl (fun _ => False) _).alloc _) (fun h => h) | exact B0.out.mod (((Mod.refl (fun _ => False) _).alloc _).alloc _) (fun h => h)) rfl rfl rfl ?_; intro wF hBF hMF)
  have hw : Mod (fun _ => False) w wF := ((hM.out.alloc _)).trans hMF (fun _ _ h => h) (fun i hi h => by have h' : i = w.heap.size := h; omega)
  have h1 : Mod (fun i => i = w.heap.size) w1 wF := ((Mod.refl (fun _ => False) w1).alloc _).trans hMF (fun _ _ h => h.elim) (fun _ _ h => h)
  have hS : Sl wF (.slice ao 1 cap) [65] := (HO.out.mod h1 HN.out).sl (by simp)
  exact bodyPost_ret (res1 rfl rfl hBF rfl) rfl ⟨_, rfl, ⟨_, _, _, _, _, _, _, _, _, _, _, _, _, _, [65], rfl, hS, by simp⟩, hw⟩
set_option maxRecDepth 100000 in
theorem tu10 (w : World) : Calls Try.prog 35 #[.int .i64 10] w fun e w' => ∃ m, e = .returned m ∧ IsM w' m ∧ Mod (fun _ => False) w w' := by
  go_enter Try.func35, Try.ntmps35
  go_wp2_with (fail)
  refine (text _).mono ?_
  rintro e w1 ⟨ao, cap, rfl, hO, hm1, hn1⟩
  have B0 : Hid (Bk w1 w.heap.size 28 #[.int .i64 0, .int .i64 0, .int .i64 0, .int .i64 0, .int .i64 0, .int .i64 0, .int .i64 0, .bool false, .int .i64 0, .int .i64 0, .int .i64 0, .int .i64 0, .slice none 0 0]) := (Bk.new w _ _).mod hm1 (fun h => h)
  have hM : Hid (Mod (fun _ => False) w w1) := ((Mod.refl (fun _ => False) w).alloc _).trans hm1 (fun _ _ h => h) (fun _ _ h => h)
  have HO : Hid (Own w1 (.slice ao 1 cap) [65]) := hO
  have HN : Hid (∀ g, (Value.slice ao 1 cap).ownBlock = some g → ¬ g = w.heap.size) := fun g hg e => by
    have := hn1 g hg
    simp at this
    omega
  have hl1 : w.heap.size < w1.heap.size := B0.out.lt
  clear hm1 hn1 hO
  go_wp2_with (refine wpList_store_row info13 rfl rfl _ _ rfl w.heap.size _ rfl rfl (by first | exact B0.out.mod ((Mod.refl (fun _ => False) _).alloc _) (fun h => h) | exact B0.out.mod (((Mod.refl (fun _ => False) _).alloc _).alloc _) (fun h => h)) rfl rfl rfl ?_; intro wF hBF hMF)
  have hw : Mod (fun _ => False) w wF := ((hM.out.alloc _)).trans hMF (fun _ _ h => h) (fun i hi h => by have h' : i = w.heap.size := h; omega)
  have h1 : Mod (fun i => i = w.heap.size) w1 wF := ((Mod.refl (fun _ => False) w1).alloc _).trans hMF (fun _ _ h => h.elim) (fun _ _ h => h)
  have hS : Sl wF (.slice ao 1 cap) [65] := (HO.out.mod h1 HN.out).sl (by simp)
  exact bodyPost_ret (res1 rfl rfl hBF rfl) rfl ⟨_, rfl, ⟨_, _, _, _, _, _, _, _, _, _, _, _, _, _, [65], rfl, hS, by simp⟩, hw⟩
set_option maxRecDepth 100000 in
theorem tu11 (w : World) : Calls Try.prog 35 #[.int .i64 11] w fun e w' => ∃ m, e = .returned m ∧ IsM w' m ∧ Mod (fun _ => False) w w' := by
  go_enter Try.func35, Try.ntmps35
  go_wp2_with (fail)
  refine (text _).mono ?_
  rintro e w1 ⟨ao, cap, rfl, hO, hm1, hn1⟩
  have B0 : Hid (Bk w1 w.heap.size 28 #[.int .i64 0, .int .i64 0, .int .i64 0, .int .i64 0, .int .i64 0, .int .i64 0, .int .i64 0, .bool false, .int .i64 0, .int .i64 0, .int .i64 0, .int .i64 0, .slice none 0 0]) := (Bk.new w _ _).mod hm1 (fun h => h)
  have hM : Hid (Mod (fun _ => False) w w1) := ((Mod.refl (fun _ => False) w).alloc _).trans hm1 (fun _ _ h => h) (fun _ _ h => h)
  have HO : Hid (Own w1 (.slice ao 1 cap) [65]) := hO
  have HN : Hid (∀ g, (Value.slice ao 1 cap).ownBlock = some g → ¬ g = w.heap.size) := fun g hg e => by
    have := hn1 g hg
    simp at this
    omega
  have hl1 : w.heap.size < w1.heap.size := B0.out.lt
  clear hm1 hn1 hO
  go_wp2_with (refine wpList_store_row info13 rfl rfl _ _ rfl w.heap.size _ rfl rfl (by first | exact B0.out.mod ((Mod.refl (fun _ => False) _).alloc _) (fun h => h) | exact B0.out.mod (((Mod.refl (fun _ => False) _).alloc _).alloc _) (fun h => h)) rfl rfl rfl ?_; intro wF hBF hMF)
  have hw : Mod (fun _ => False) w wF := ((hM.out.alloc _)).trans hMF (fun _ _ h => h) (fun i hi h => by have h' : i = w.heap.size := h; omega)
  have h1 : Mod (fun i => i = w.heap.size) w1 wF := ((Mod.refl (fun _ => False) w1).alloc _).trans hMF (fun _ _ h => h.elim) (fun _ _ h => h)
  have hS : Sl wF (.slice ao 1 cap) [65] := (HO.out.mod h1 HN.out).sl (by simp)
  exact bodyPost_ret (res1 rfl rfl hBF rfl) rfl ⟨_, rfl, ⟨_, _, _, _, _, _, _, _, _, _, _, _, _, _, [65], rfl, hS, by simp⟩, hw⟩
set_option maxRecDepth 100000 in
theorem tu12 (w : World) : Calls Try.prog 35 #[.int .i64 12] w fun e w' => ∃ m, e = .returned m ∧ IsM w' m ∧ Mod (fun _ => False) w w' := by
  go_enter Try.func35, Try.ntmps35
  go_wp2_with (fail)
  refine (text _).mono ?_
  rintro e w1 ⟨ao, cap, rfl, hO, hm1, hn1⟩
  have B0 : Hid (Bk w1 w.heap.size 28 #[.int .i64 0, .int .i64 0, .int .i64 0, .int .i64 0, .int .i64 0, .int .i64 0, .int .i64 0, .bool false, .int .i64 0, .int .i64 0, .int .i64 0, .int .i64 0, .slice none 0 0]) := (Bk.new w _ _).mod hm1 (fun h => h)
  have hM : Hid (Mod (fun _ => False) w w1) := ((Mod.refl (fun _ => False) w).alloc _).trans hm1 (fun _ _ h => h) (fun _ _ h => h)
  have HO : Hid (Own w1 (.slice ao 1 cap) [65]) := hO
  have HN : Hid (∀ g, (Value.slice ao 1 cap).ownBlock = some g → ¬ g = w.heap.size) := fun g hg e => by
    have := hn1 g hg
    simp at this
    omega
  have hl1 : w.heap.size < w1.heap.size := B0.out.lt
  clear hm1 hn1 hO
  go_wp2_with (refine wpList_store_row info13 rfl rfl _ _ rfl w.heap.size _ rfl rfl (by first | exact B0.out.mod ((Mod.refl (fun _ => False) _).alloc _) (fun h => h) | exact B0.out.mod (((Mod.refl (fun _ => False) _).alloc _).alloc _) (fun h => h)) rfl rfl rfl ?_; intro wF hBF hMF)
  have hw : Mod (fun _ => False) w wF := ((hM.out.alloc _)).trans hMF (fun _ _ h => h) (fun i hi h => by have h' : i = w.heap.size := h; omega)
  have h1 : Mod (fun i => i = w.heap.size) w1 wF := ((Mod.refl (fun _ => False) w1).alloc _).trans hMF (fun _ _ h => h.elim) (fun _ _ h => h)
  have hS : Sl wF (.slice ao 1 cap) [65] := (HO.out.mod h1 HN.out).sl (by simp)
  exact bodyPost_ret (res1 rfl rfl hBF rfl) rfl ⟨_, rfl, ⟨_, _, _, _, _, _, _, _, _, _, _, _, _, _, [65], rfl, hS, by simp⟩, hw⟩
set_option maxRecDepth 100000 in
theorem tu13 (w : World) : Calls Try.prog 35 #[.int .i64 13] w fun e w' => ∃ m, e = .returned m ∧ IsM w' m ∧ Mod (fun _ => False) w w' := by
  have hmk : ∀ W : World, (Instr.makeSlice 26 (.int .i64 49) (.int .i64 49)).run Try.prog W = .ok (.slice (some ⟨W.heap.size, 0, none⟩) 49 49) (W.alloc (.cells (U [0, 0, 0, 0, 0, 0, 0, 0, 0, 0, 0, 0, 0, 0, 0, 0, 0, 0, 0, 0, 0, 0, 0, 0, 0, 0, 0, 0, 0, 0, 0, 0, 0, 0, 0, 0, 0, 0, 0, 0, 0, 0, 0, 0, 0, 0, 0, 0, 0]).toArray 5)) := fun W => by kernel_rfl
  go_enter Try.func35, Try.ntmps35
  go_wp2_with (fail)
  refine (text _).mono ?_
  rintro e w1 ⟨ao, cap, rfl, hO, hm1, hn1⟩
  have B0 : Hid (Bk w1 w.heap.size 28 #[.int .i64 0, .int .i64 0, .int .i64 0, .int .i64 0, .int .i64 0, .int .i64 0, .int .i64 0, .bool false, .int .i64 0, .int .i64 0, .int .i64 0, .int .i64 0, .slice none 0 0]) := (Bk.new w _ _).mod hm1 (fun h => h)
  have hM : Hid (Mod (fun _ => False) w w1) := ((Mod.refl (fun _ => False) w).alloc _).trans hm1 (fun _ _ h => h) (fun _ _ h => h)
  have hl1 : w.heap.size < w1.heap.size := B0.out.lt
  clear hm1 hn1 hO
  go_wp2_with (refine wpList_store_row info13 rfl rfl _ _ rfl w.heap.size _ rfl rfl (by first | exact B0.out.mod ((Mod.refl (fun _ => False) _).alloc _) (fun h => h) | exact B0.out.mod (((Mod.refl (fun _ => False) _).alloc _).alloc _) (fun h => h)) rfl rfl rfl ?_; intro wF hBF hMF)
  have hw : Mod (fun _ => False) w wF := (((hM.out.alloc _).alloc _)).trans hMF (fun _ _ h => h) (fun i hi h => by have h' : i = w.heap.size := h; omega)
  have hS := Sl.mod ((Own.lit (w1.alloc _) [0, 0, 0, 0, 0, 0, 0, 0, 0, 0, 0, 0, 0, 0, 0, 0, 0, 0, 0, 0, 0, 0, 0, 0, 0, 0, 0, 0, 0, 0, 0, 0, 0, 0, 0, 0, 0, 0, 0, 0, 0, 0, 0, 0, 0, 0, 0, 0, 0] (by simp [maxLen])).sl (by simp)) hMF (by
    intro g hg h
    simp [Value.ownBlock] at hg
    omega)
  rw [show (w1.alloc _).heap.size = w1.heap.size + 1 from by simp] at hS
  exact bodyPost_ret (res1 rfl rfl hBF rfl) rfl ⟨_, rfl, ⟨_, _, _, _, _, _, _, _, _, _, _, _, _, _, [0, 0, 0, 0, 0, 0, 0, 0, 0, 0, 0, 0, 0, 0, 0, 0, 0, 0, 0, 0, 0, 0, 0, 0, 0, 0, 0, 0, 0, 0, 0, 0, 0, 0, 0, 0, 0, 0, 0, 0, 0, 0, 0, 0, 0, 0, 0, 0, 0], rfl, hS, by simp⟩, hw⟩
set_option maxRecDepth 100000 in
theorem tu14 (w : World) : Calls Try.prog 35 #[.int .i64 14] w fun e w' => ∃ m, e = .returned m ∧ IsM w' m ∧ Mod (fun _ => False) w w' := by
  have hmk : ∀ W : World, (Instr.makeSlice 26 (.int .i64 161) (.int .i64 161)).run Try.prog W = .ok (.slice (some ⟨W.heap.size, 0, none⟩) 161 161) (W.alloc (.cells (U [0, 0, 0, 0, 0, 0, 0, 0, 0, 0, 0, 0, 0, 0, 0, 0, 0, 0, 0, 0, 0, 0, 0, 0, 0, 0, 0, 0, 0, 0, 0, 0, 0, 0, 0, 0, 0, 0, 0, 0, 0, 0, 0, 0, 0, 0, 0, 0, 0, 0, 0, 0, 0, 0, 0, 0, 0, 0, 0, 0, 0, 0, 0, 0, 0, 0, 0, 0, 0, 0, 0, 0, 0, 0, 0, 0, 0, 0, 0, 0, 0, 0, 0, 0, 0, 0, 0, 0, 0, 0, 0, 0, 0, 0, 0, 0, 0, 0, 0, 0, 0, 0, 0, 0, 0, 0, 0, 0, 0, 0, 0, 0, 0, 0, 0, 0, 0, 0, 0, 0, 0, 0, 0, 0, 0, 0, 0, 0, 0, 0, 0, 0, 0, 0, 0, 0, 0, 0, 0, 0, 0, 0, 0, 0, 0, 0, 0, 0, 0, 0, 0, 0, 0, 0, 0, 0, 0, 0, 0, 0, 0]).toArray 5)) := fun W => by kernel_rfl
  go_enter Try.func35, Try.ntmps35
  go_wp2_with (fail)
  refine (text _).mono ?_
  rintro e w1 ⟨ao, cap, rfl, hO, hm1, hn1⟩
  have B0 : Hid (Bk w1 w.heap.size 28 #[.int .i64 0, .int .i64 0, .int .i64 0, .int .i64 0, .int .i64 0, .int .i64 0, .int .i64 0, .bool false, .int .i64 0, .int .i64 0, .int .i64 0, .int .i64 0, .slice none 0 0]) := (Bk.new w _ _).mod hm1 (fun h => h)
  have hM : Hid (Mod (fun _ => False) w w1) := ((Mod.refl (fun _ => False) w).alloc _).trans hm1 (fun _ _ h => h) (fun _ _ h => h)
  have hl1 : w.heap.size < w1.heap.size := B0.out.lt
  clear hm1 hn1 hO
  go_wp2_with (refine wpList_store_row info13 rfl rfl _ _ rfl w.heap.size _ rfl rfl (by first | exact B0.out.mod ((Mod.refl (fun _ => False) _).alloc _) (fun h => h) | exact B0.out.mod (((Mod.refl (fun _ => False) _).alloc _).alloc _) (fun h => h)) rfl rfl rfl ?_; intro wF hBF hMF)
  have hw : Mod (fun _ => False) w wF := (((hM.out.alloc _).alloc _)).trans hMF (fun _ _ h => h) (fun i hi h => by have h' : i = w.heap.size := h; omega)
  have hS := Sl.mod ((Own.lit (w1.alloc _) [0, 0, 0, 0, 0, 0, 0, 0, 0, 0, 0, 0, 0, 0, 0, 0, 0, 0, 0, 0, 0, 0, 0, 0, 0, 0, 0, 0, 0, 0, 0, 0, 0, 0, 0, 0, 0, 0, 0, 0, 0, 0, 0, 0, 0, 0, 0, 0, 0, 0, 0, 0, 0, 0, 0, 0, 0, 0, 0, 0, 0, 0, 0, 0, 0, 0, 0, 0, 0, 0, 0, 0, 0, 0, 0, 0, 0, 0, 0, 0, 0, 0, 0, 0, 0, 0, 0, 0, 0, 0, 0, 0, 0, 0, 0, 0, 0, 0, 0, 0, 0, 0, 0, 0, 0, 0, 0, 0, 0, 0, 0, 0, 0, 0, 0, 0, 0, 0, 0, 0, 0, 0, 0, 0, 0, 0, 0, 0, 0, 0, 0, 0, 0, 0, 0, 0, 0, 0, 0, 0, 0, 0, 0, 0, 0, 0, 0, 0, 0, 0, 0, 0, 0, 0, 0, 0, 0, 0, 0, 0, 0] (by simp [maxLen])).sl (by simp)) hMF (by
    intro g hg h
    simp [Value.ownBlock] at hg
    omega)
  rw [show (w1.alloc _).heap.size = w1.heap.size + 1 from by simp] at hS
  exact bodyPost_ret (res1 rfl rfl hBF rfl) rfl ⟨_, rfl, ⟨_, _, _, _, _, _, _, _, _, _, _, _, _, _, [0, 0, 0, 0, 0, 0, 0, 0, 0, 0, 0, 0, 0, 0, 0, 0, 0, 0, 0, 0, 0, 0, 0, 0, 0, 0, 0, 0, 0, 0, 0, 0, 0, 0, 0, 0, 0, 0, 0, 0, 0, 0, 0, 0, 0, 0, 0, 0, 0, 0, 0, 0, 0, 0, 0, 0, 0, 0, 0, 0, 0, 0, 0, 0, 0, 0, 0, 0, 0, 0, 0, 0, 0, 0, 0, 0, 0, 0, 0, 0, 0, 0, 0, 0, 0, 0, 0, 0, 0, 0, 0, 0, 0, 0, 0, 0, 0, 0, 0, 0, 0, 0, 0, 0, 0, 0, 0, 0, 0, 0, 0, 0, 0, 0, 0, 0, 0, 0, 0, 0, 0, 0, 0, 0, 0, 0, 0, 0, 0, 0, 0, 0, 0, 0, 0, 0, 0, 0, 0, 0, 0, 0, 0, 0, 0, 0, 0, 0, 0, 0, 0, 0, 0, 0, 0, 0, 0, 0, 0, 0, 0], rfl, hS, by simp⟩, hw⟩
set_option maxRecDepth 100000 in
theorem tu15 (w : World) : Calls Try.prog 35 #[.int .i64 15] w fun e w' => ∃ m, e = .returned m ∧ IsM w' m ∧ Mod (fun _ => False) w w' := by
  go_enter Try.func35, Try.ntmps35
  go_wp2_with (fail)
  refine (text _).mono ?_
  rintro e w1 ⟨ao, cap, rfl, hO, hm1, hn1⟩
  have B0 : Hid (Bk w1 w.heap.size 28 #[.int .i64 0, .int .i64 0, .int .i64 0, .int .i64 0, .int .i64 0, .int .i64 0, .int .i64 0, .bool false, .int .i64 0, .int .i64 0, .int .i64 0, .int .i64 0, .slice none 0 0]) := (Bk.new w _ _).mod hm1 (fun h => h)
  have hM : Hid (Mod (fun _ => False) w w1) := ((Mod.refl (fun _ => False) w).alloc _).trans hm1 (fun _ _ h => h) (fun _ _ h => h)
  have HO : Hid (Own w1 (.slice ao 1 cap) [65]) := hO
  have HN : Hid (∀ g, (Value.slice ao 1 cap).ownBlock = some g → ¬ g = w.heap.size) := fun g hg e => by
    have := hn1 g hg
    simp at this
    omega
  have hl1 : w.heap.size < w1.heap.size := B0.out.lt
  clear hm1 hn1 hO
  go_wp2_with (refine wpList_store_row info13 rfl rfl _ _ rfl w.heap.size _ rfl rfl (by first | exact B0.out.mod ((Mod.refl (fun _ => False) _).alloc _) (fun h => h) | exact B0.out.mod (((Mod.refl (fun _ => False) _).alloc _).alloc _) (fun h => h)) rfl rfl rfl ?_; intro wF hBF hMF)
  have hw : Mod (fun _ => False) w wF := ((hM.out.alloc _)).trans hMF (fun _ _ h => h) (fun i hi h => by have h' : i = w.heap.size := h; omega)
  have h1 : Mod (fun i => i = w.heap.size) w1 wF := ((Mod.refl (fun _ => False) w1).alloc _).trans hMF (fun _ _ h => h.elim) (fun _ _ h => h)
  have hS : Sl wF (.slice ao 1 cap) [65] := (HO.out.mod h1 HN.out).sl (by simp)
  exact bodyPost_ret (res1 rfl rfl hBF rfl) rfl ⟨_, rfl, ⟨_, _, _, _, _, _, _, _, _, _, _, _, _, _, [65], rfl, hS, by simp⟩, hw⟩
set_option maxRecDepth 100000 in
theorem tu16 (w : World) : Calls Try.prog 35 #[.int .i64 16] w fun e w' => ∃ m, e = .returned m ∧ IsM w' m ∧ Mod (fun _ => False) w w' := by
  go_enter Try.func35, Try.ntmps35
  go_wp2_with (fail)
  refine (text _).mono ?_
  rintro e w1 ⟨ao, cap, rfl, hO, hm1, hn1⟩
  have B0 : Hid (Bk w1 w.heap.size 28 #[.int .i64 0, .int .i64 0, .int .i64 0, .int .i64 0, .int .i64 0, .int .i64 0, .int .i64 0, .bool false, .int .i64 0, .int .i64 0, .int .i64 0, .int .i64 0, .slice none 0 0]) := (Bk.new w _ _).mod hm1 (fun h => h)
  have hM : Hid (Mod (fun _ => False) w w1) := ((Mod.refl (fun _ => False) w).alloc _).trans hm1 (fun _ _ h => h) (fun _ _ h => h)
  have HO : Hid (Own w1 (.slice ao 1 cap) [65]) := hO
  have HN : Hid (∀ g, (Value.slice ao 1 cap).ownBlock = some g → ¬ g = w.heap.size) := fun g hg e => by
    have := hn1 g hg
    simp at this
    omega
  have hl1 : w.heap.size < w1.heap.size := B0.out.lt
  clear hm1 hn1 hO
  go_wp2_with (refine wpList_store_row info13 rfl rfl _ _ rfl w.heap.size _ rfl rfl (by first | exact B0.out.mod ((Mod.refl (fun _ => False) _).alloc _) (fun h => h) | exact B0.out.mod (((Mod.refl (fun _ => False) _).alloc _).alloc _) (fun h => h)) rfl rfl rfl ?_; intro wF hBF hMF)
  have hw : Mod (fun _ => False) w wF := ((hM.out.alloc _)).trans hMF (fun _ _ h => h) (fun i hi h => by have h' : i = w.heap.size := h; omega)
  have h1 : Mod (fun i => i = w.heap.size) w1 wF := ((Mod.refl (fun _ => False) w1).alloc _).trans hMF (fun _ _ h => h.elim) (fun _ _ h => h)
  have hS : Sl wF (.slice ao 1 cap) [65] := (HO.out.mod h1 HN.out).sl (by simp)
  exact bodyPost_ret (res1 rfl rfl hBF rfl) rfl ⟨_, rfl, ⟨_, _, _, _, _, _, _, _, _, _, _, _, _, _, [65], rfl, hS, by simp⟩, hw⟩
set_option maxRecDepth 100000 in
theorem tu17 (w : World) : Calls Try.prog 35 #[.int .i64 17] w fun e w' => ∃ m, e = .returned m ∧ IsM w' m ∧ Mod (fun _ => False) w w' := by
  go_enter Try.func35, Try.ntmps35
  go_wp2_with (fail)
  refine (text _).mono ?_
  rintro e w1 ⟨ao, cap, rfl, hO, hm1, hn1⟩
  have B0 : Hid (Bk w1 w.heap.size 28 #[.int .i64 0, .int .i64 0, .int .i64 0, .int .i64 0, .int .i64 0, .int .i64 0, .int .i64 0, .bool false, .int .i64 0, .int .i64 0, .int .i64 0, .int .i64 0, .slice none 0 0]) := (Bk.new w _ _).mod hm1 (fun h => h)
  have hM : Hid (Mod (fun _ => False) w w1) := ((Mod.refl (fun _ => False) w).alloc _).trans hm1 (fun _ _ h => h) (fun _ _ h => h)
  have hl1 : w.heap.size < w1.heap.size := B0.out.lt
  clear hm1 hn1 hO
  go_wp2_with (fail)
  refine (marked _).mono ?_
  rintro e w2 ⟨rfl, hm2⟩
  have hA2 : Hid (Mod (fun _ => False) w1 w2) := ((Mod.refl (fun _ => False) w1).alloc _).trans hm2 (fun _ _ h => h) (fun _ _ h => h)
  have B2 : Hid (Bk w2 w1.heap.size 28 #[.int .i64 1, .int .i64 1, .int .i64 9, .int .i64 2, .int .i64 0, .int .i64 1, .int .i64 130, .bool true, .int .i64 0, .int .i64 0, .int .i64 0, .int .i64 0, .slice ao 1 cap]) := (Bk.new w1 _ _).mod hm2 (fun h => h)
  have B02 : Hid (Bk w2 w.heap.size 28 #[.int .i64 0, .int .i64 0, .int .i64 0, .int .i64 0, .int .i64 0, .int .i64 0, .int .i64 0, .bool false, .int .i64 0, .int .i64 0, .int .i64 0, .int .i64 0, .slice none 0 0]) := B0.out.mod hA2.out (fun h => h)
  clear hm2 B0
  go_wp2_with (first | (refine wpList_store_row info13 rfl rfl _ _ rfl w1.heap.size _ rfl rfl B2.out rfl rfl rfl ?_; intro w3 hB3 hM3; have c3 := hB3.cellv (j := 3) rfl; have f3 := hB3.frz 3; have B03 : Hid (Bk w3 w.heap.size 28 #[.int .i64 0, .int .i64 0, .int .i64 0, .int .i64 0, .int .i64 0, .int .i64 0, .int .i64 0, .bool false, .int .i64 0, .int .i64 0, .int .i64 0, .int .i64 0, .slice none 0 0]) := B02.out.mod hM3 (fun (h : w.heap.size = w1.heap.size) => by omega)) | (refine wpList_load_row info13 Try.underlying28 rfl rfl _ rfl w1.heap.size rfl (hB3.set _ _) rfl ?_; simp only [Act.put, List.setIfInBounds_toArray, List.set_cons_succ, List.set_cons_zero]) | (refine wpList_store_row info13 rfl rfl _ _ rfl w.heap.size _ rfl rfl (B03.out.other _ _ (fun (h : w1.heap.size = w.heap.size) => by omega)) rfl rfl rfl ?_; intro wF hBF hMF))
  have hw : Mod (fun _ => False) w wF := ((hM.out.trans hA2.out (V := fun _ => False) (fun _ _ h => h) (fun _ _ h => h)).trans hM3 (V := fun _ => False) (fun _ _ h => h) (fun i hi h => by have h' : i = w1.heap.size := h; omega) |>.setCell _ _ (.inr (by show w.heap.size ≤ w1.heap.size; omega))).trans hMF (fun _ _ h => h) (fun i hi h => by have h' : i = w.heap.size := h; omega)
  exact bodyPost_ret (res1 rfl rfl hBF rfl) rfl ⟨_, rfl, ⟨_, _, _, _, _, _, _, _, _, _, _, _, none, 0, [], rfl, Sl.nil0 wF, by simp⟩, hw⟩
set_option maxRecDepth 100000 in
theorem tu18 (w : World) : Calls Try.prog 35 #[.int .i64 18] w fun e w' => ∃ m, e = .returned m ∧ IsM w' m ∧ Mod (fun _ => False) w w' := by
  go_enter Try.func35, Try.ntmps35
  go_wp2_with (fail)
  refine (text _).mono ?_
  rintro e w1 ⟨ao, cap, rfl, hO, hm1, hn1⟩
  have B0 : Hid (Bk w1 w.heap.size 28 #[.int .i64 0, .int .i64 0, .int .i64 0, .int .i64 0, .int .i64 0, .int .i64 0, .int .i64 0, .bool false, .int .i64 0, .int .i64 0, .int .i64 0, .int .i64 0, .slice none 0 0]) := (Bk.new w _ _).mod hm1 (fun h => h)
  have hM : Hid (Mod (fun _ => False) w w1) := ((Mod.refl (fun _ => False) w).alloc _).trans hm1 (fun _ _ h => h) (fun _ _ h => h)
  have hl1 : w.heap.size < w1.heap.size := B0.out.lt
  clear hm1 hn1 hO
  go_wp2_with (fail)
  refine (marked _).mono ?_
  rintro e w2 ⟨rfl, hm2⟩
  have hA2 : Hid (Mod (fun _ => False) w1 w2) := ((Mod.refl (fun _ => False) w1).alloc _).trans hm2 (fun _ _ h => h) (fun _ _ h => h)
  have B2 : Hid (Bk w2 w1.heap.size 28 #[.int .i64 1, .int .i64 1, .int .i64 9, .int .i64 2, .int .i64 0, .int .i64 1, .int .i64 130, .bool true, .int .i64 0, .int .i64 0, .int .i64 0, .int .i64 0, .slice ao 1 cap]) := (Bk.new w1 _ _).mod hm2 (fun h => h)
  have B02 : Hid (Bk w2 w.heap.size 28 #[.int .i64 0, .int .i64 0, .int .i64 0, .int .i64 0, .int .i64 0, .int .i64 0, .int .i64 0, .bool false, .int .i64 0, .int .i64 0, .int .i64 0, .int .i64 0, .slice none 0 0]) := B0.out.mod hA2.out (fun h => h)
  clear hm2 B0
  go_wp2_with (first | (refine wpList_store_row info13 rfl rfl _ _ rfl w1.heap.size _ rfl rfl B2.out rfl rfl rfl ?_; intro w3 hB3 hM3; have c3 := hB3.cellv (j := 7) rfl; have f3 := hB3.frz 7; have B03 : Hid (Bk w3 w.heap.size 28 #[.int .i64 0, .int .i64 0, .int .i64 0, .int .i64 0, .int .i64 0, .int .i64 0, .int .i64 0, .bool false, .int .i64 0, .int .i64 0, .int .i64 0, .int .i64 0, .slice none 0 0]) := B02.out.mod hM3 (fun (h : w.heap.size = w1.heap.size) => by omega)) | (refine wpList_load_row info13 Try.underlying28 rfl rfl _ rfl w1.heap.size rfl (hB3.set _ _) rfl ?_; simp only [Act.put, List.setIfInBounds_toArray, List.set_cons_succ, List.set_cons_zero]) | (refine wpList_store_row info13 rfl rfl _ _ rfl w.heap.size _ rfl rfl (B03.out.other _ _ (fun (h : w1.heap.size = w.heap.size) => by omega)) rfl rfl rfl ?_; intro wF hBF hMF))
  have hw : Mod (fun _ => False) w wF := ((hM.out.trans hA2.out (V := fun _ => False) (fun _ _ h => h) (fun _ _ h => h)).trans hM3 (V := fun _ => False) (fun _ _ h => h) (fun i hi h => by have h' : i = w1.heap.size := h; omega) |>.setCell _ _ (.inr (by show w.heap.size ≤ w1.heap.size; omega))).trans hMF (fun _ _ h => h) (fun i hi h => by have h' : i = w.heap.size := h; omega)
  exact bodyPost_ret (res1 rfl rfl hBF rfl) rfl ⟨_, rfl, ⟨_, _, _, _, _, _, _, _, _, _, _, _, none, 0, [], rfl, Sl.nil0 wF, by simp⟩, hw⟩
set_option maxRecDepth 100000 in
theorem tu19 (w : World) : Calls Try.prog 35 #[.int .i64 19] w fun e w' => ∃ m, e = .returned m ∧ IsM w' m ∧ Mod (fun _ => False) w w' := by
  go_enter Try.func35, Try.ntmps35
  go_wp2_with (fail)
  refine (text _).mono ?_
  rintro e w1 ⟨ao, cap, rfl, hO, hm1, hn1⟩
  have B0 : Hid (Bk w1 w.heap.size 28 #[.int .i64 0, .int .i64 0, .int .i64 0, .int .i64 0, .int .i64 0, .int .i64 0, .int .i64 0, .bool false, .int .i64 0, .int .i64 0, .int .i64 0, .int .i64 0, .slice none 0 0]) := (Bk.new w _ _).mod hm1 (fun h => h)
  have hM : Hid (Mod (fun _ => False) w w1) := ((Mod.refl (fun _ => False) w).alloc _).trans hm1 (fun _ _ h => h) (fun _ _ h => h)
  have hl1 : w.heap.size < w1.heap.size := B0.out.lt
  clear hm1 hn1 hO
  go_wp2_with (fail)
  refine (marked _).mono ?_
  rintro e w2 ⟨rfl, hm2⟩
  have hA2 : Hid (Mod (fun _ => False) w1 w2) := ((Mod.refl (fun _ => False) w1).alloc _).trans hm2 (fun _ _ h => h) (fun _ _ h => h)
  have B2 : Hid (Bk w2 w1.heap.size 28 #[.int .i64 1, .int .i64 1, .int .i64 9, .int .i64 2, .int .i64 0, .int .i64 1, .int .i64 130, .bool true, .int .i64 0, .int .i64 0, .int .i64 0, .int .i64 0, .slice ao 1 cap]) := (Bk.new w1 _ _).mod hm2 (fun h => h)
  have B02 : Hid (Bk w2 w.heap.size 28 #[.int .i64 0, .int .i64 0, .int .i64 0, .int .i64 0, .int .i64 0, .int .i64 0, .int .i64 0, .bool false, .int .i64 0, .int .i64 0, .int .i64 0, .int .i64 0, .slice none 0 0]) := B0.out.mod hA2.out (fun h => h)
  clear hm2 B0
  go_wp2_with (first | (refine wpList_store_row info13 rfl rfl _ _ rfl w1.heap.size _ rfl rfl B2.out rfl rfl rfl ?_; intro w3 hB3 hM3; have c3 := hB3.cellv (j := 0) rfl; have f3 := hB3.frz 0; have B03 : Hid (Bk w3 w.heap.size 28 #[.int .i64 0, .int .i64 0, .int .i64 0, .int .i64 0, .int .i64 0, .int .i64 0, .int .i64 0, .bool false, .int .i64 0, .int .i64 0, .int .i64 0, .int .i64 0, .slice none 0 0]) := B02.out.mod hM3 (fun (h : w.heap.size = w1.heap.size) => by omega)) | (refine wpList_load_row info13 Try.underlying28 rfl rfl _ rfl w1.heap.size rfl (hB3.set _ _) rfl ?_; simp only [Act.put, List.setIfInBounds_toArray, List.set_cons_succ, List.set_cons_zero]) | (refine wpList_store_row info13 rfl rfl _ _ rfl w.heap.size _ rfl rfl (B03.out.other _ _ (fun (h : w1.heap.size = w.heap.size) => by omega)) rfl rfl rfl ?_; intro wF hBF hMF))
  have hw : Mod (fun _ => False) w wF := ((hM.out.trans hA2.out (V := fun _ => False) (fun _ _ h => h) (fun _ _ h => h)).trans hM3 (V := fun _ => False) (fun _ _ h => h) (fun i hi h => by have h' : i = w1.heap.size := h; omega) |>.setCell _ _ (.inr (by show w.heap.size ≤ w1.heap.size; omega))).trans hMF (fun _ _ h => h) (fun i hi h => by have h' : i = w.heap.size := h; omega)
  exact bodyPost_ret (res1 rfl rfl hBF rfl) rfl ⟨_, rfl, ⟨_, _, _, _, _, _, _, _, _, _, _, _, none, 0, [], rfl, Sl.nil0 wF, by simp⟩, hw⟩
set_option maxRecDepth 100000 in
theorem tu20 (w : World) : Calls Try.prog 35 #[.int .i64 20] w fun e w' => ∃ m, e = .returned m ∧ IsM w' m ∧ Mod (fun _ => False) w w' := by
  go_enter Try.func35, Try.ntmps35
  go_wp2_with (fail)
  refine (text _).mono ?_
  rintro e w1 ⟨ao, cap, rfl, hO, hm1, hn1⟩
  have B0 : Hid (Bk w1 w.heap.size 28 #[.int .i64 0, .int .i64 0, .int .i64 0, .int .i64 0, .int .i64 0, .int .i64 0, .int .i64 0, .bool false, .int .i64 0, .int .i64 0, .int .i64 0, .int .i64 0, .slice none 0 0]) := (Bk.new w _ _).mod hm1 (fun h => h)
  have hM : Hid (Mod (fun _ => False) w w1) := ((Mod.refl (fun _ => False) w).alloc _).trans hm1 (fun _ _ h => h) (fun _ _ h => h)
  have hl1 : w.heap.size < w1.heap.size := B0.out.lt
  clear hm1 hn1 hO
  go_wp2_with (refine wpList_store_row info13 rfl rfl _ _ rfl w.heap.size _ rfl rfl (by first | exact B0.out.mod ((Mod.refl (fun _ => False) _).alloc _) (fun h => h) | exact B0.out.mod (((Mod.refl (fun _ => False) _).alloc _).alloc _) (fun h => h)) rfl rfl rfl ?_; intro wF hBF hMF)
  have hw : Mod (fun _ => False) w wF := ((hM.out.alloc _)).trans hMF (fun _ _ h => h) (fun i hi h => by have h' : i = w.heap.size := h; omega)
  exact bodyPost_ret (res1 rfl rfl hBF rfl) rfl ⟨_, rfl, ⟨_, _, _, _, _, _, _, _, _, _, _, _, none, 0, [], rfl, Sl.nil0 wF, by simp⟩, hw⟩
set_option maxRecDepth 100000 in
theorem tu21 (w : World) : Calls Try.prog 35 #[.int .i64 21] w fun e w' => ∃ m, e = .returned m ∧ IsM w' m ∧ Mod (fun _ => False) w w' := by
  go_enter Try.func35, Try.ntmps35
  go_wp2_with (fail)
  refine (text _).mono ?_
  rintro e w1 ⟨ao, cap, rfl, hO, hm1, hn1⟩
  have B0 : Hid (Bk w1 w.heap.size 28 #[.int .i64 0, .int .i64 0, .int .i64 0, .int .i64 0, .int .i64 0, .int .i64 0, .int .i64 0, .bool false, .int .i64 0, .int .i64 0, .int .i64 0, .int .i64 0, .slice none 0 0]) := (Bk.new w _ _).mod hm1 (fun h => h)
  have hM : Hid (Mod (fun _ => False) w w1) := ((Mod.refl (fun _ => False) w).alloc _).trans hm1 (fun _ _ h => h) (fun _ _ h => h)
  have hl1 : w.heap.size < w1.heap.size := B0.out.lt
  clear hm1 hn1 hO
  go_wp2_with (refine wpList_store_row info13 rfl rfl _ _ rfl w.heap.size _ rfl rfl (by first | exact B0.out.mod ((Mod.refl (fun _ => False) _).alloc _) (fun h => h) | exact B0.out.mod (((Mod.refl (fun _ => False) _).alloc _).alloc _) (fun h => h)) rfl rfl rfl ?_; intro wF hBF hMF)
  have hw : Mod (fun _ => False) w wF := (((hM.out.alloc _).alloc _)).trans hMF (fun _ _ h => h) (fun i hi h => by have h' : i = w.heap.size := h; omega)
  have hS := Sl.mod ((Own.lit (w1.alloc _) [0] (by simp [maxLen])).sl (by simp)) hMF (by
    intro g hg h
    simp [Value.ownBlock] at hg
    omega)
  rw [show (w1.alloc _).heap.size = w1.heap.size + 1 from by simp] at hS
  exact bodyPost_ret (res1 rfl rfl hBF rfl) rfl ⟨_, rfl, ⟨_, _, _, _, _, _, _, _, _, _, _, _, _, _, [0], rfl, hS, by simp⟩, hw⟩
set_option maxRecDepth 100000 in
theorem tu22 (w : World) : Calls Try.prog 35 #[.int .i64 22] w fun e w' => ∃ m, e = .returned m ∧ IsM w' m ∧ Mod (fun _ => False) w w' := by
  go_enter Try.func35, Try.ntmps35
  go_wp2_with (fail)
  refine (text _).mono ?_
  rintro e w1 ⟨ao, cap, rfl, hO, hm1, hn1⟩
  have B0 : Hid (Bk w1 w.heap.size 28 #[.int .i64 0, .int .i64 0, .int .i64 0, .int .i64 0, .int .i64 0, .int .i64 0, .int .i64 0, .bool false, .int .i64 0, .int .i64 0, .int .i64 0, .int .i64 0, .slice none 0 0]) := (Bk.new w _ _).mod hm1 (fun h => h)
  have hM : Hid (Mod (fun _ => False) w w1) := ((Mod.refl (fun _ => False) w).alloc _).trans hm1 (fun _ _ h => h) (fun _ _ h => h)
  have hl1 : w.heap.size < w1.heap.size := B0.out.lt
  clear hm1 hn1 hO
  go_wp2_with (refine wpList_store_row info13 rfl rfl _ _ rfl w.heap.size _ rfl rfl (by first | exact B0.out.mod ((Mod.refl (fun _ => False) _).alloc _) (fun h => h) | exact B0.out.mod (((Mod.refl (fun _ => False) _).alloc _).alloc _) (fun h => h)) rfl rfl rfl ?_; intro wF hBF hMF)
  have hw : Mod (fun _ => False) w wF := ((hM.out.alloc _)).trans hMF (fun _ _ h => h) (fun i hi h => by have h' : i = w.heap.size := h; omega)
  exact bodyPost_ret (res1 rfl rfl hBF rfl) rfl ⟨_, rfl, ⟨_, _, _, _, _, _, _, _, _, _, _, _, none, 0, [], rfl, Sl.nil0 wF, by simp⟩, hw⟩
set_option maxRecDepth 100000 in
theorem tu23 (w : World) : Calls Try.prog 35 #[.int .i64 23] w fun e w' => ∃ m, e = .returned m ∧ IsM w' m ∧ Mod (fun _ => False) w w' := by
  go_enter Try.func35, Try.ntmps35
  go_wp2_with (fail)
  refine (text _).mono ?_
  rintro e w1 ⟨ao, cap, rfl, hO, hm1, hn1⟩
  have B0 : Hid (Bk w1 w.heap.size 28 #[.int .i64 0, .int .i64 0, .int .i64 0, .int .i64 0, .int .i64 0, .int .i64 0, .int .i64 0, .bool false, .int .i64 0, .int .i64 0, .int .i64 0, .int .i64 0, .slice none 0 0]) := (Bk.new w _ _).mod hm1 (fun h => h)
  have hM : Hid (Mod (fun _ => False) w w1) := ((Mod.refl (fun _ => False) w).alloc _).trans hm1 (fun _ _ h => h) (fun _ _ h => h)
  have hl1 : w.heap.size < w1.heap.size := B0.out.lt
  clear hm1 hn1 hO
  go_wp2_with (refine wpList_store_row info13 rfl rfl _ _ rfl w.heap.size _ rfl rfl (by first | exact B0.out.mod ((Mod.refl (fun _ => False) _).alloc _) (fun h => h) | exact B0.out.mod (((Mod.refl (fun _ => False) _).alloc _).alloc _) (fun h => h)) rfl rfl rfl ?_; intro wF hBF hMF)
  have hw : Mod (fun _ => False) w wF := ((hM.out.alloc _)).trans hMF (fun _ _ h => h) (fun i hi h => by have h' : i = w.heap.size := h; omega)
  exact bodyPost_ret (res1 rfl rfl hBF rfl) rfl ⟨_, rfl, ⟨_, _, _, _, _, _, _, _, _, _, _, _, none, 0, [], rfl, Sl.nil0 wF, by simp⟩, hw⟩
set_option maxRecDepth 100000 in
theorem tu24 (w : World) : Calls Try.prog 35 #[.int .i64 24] w fun e w' => ∃ m, e = .returned m ∧ IsM w' m ∧ Mod (fun _ => False) w w' := by
  go_enter Try.func35, Try.ntmps35
  go_wp2_with (fail)
  refine (text _).mono ?_
  rintro e w1 ⟨ao, cap, rfl, hO, hm1, hn1⟩
  have B0 : Hid (Bk w1 w.heap.size 28 #[.int .i64 0, .int .i64 0, .int .i64 0, .int .i64 0, .int .i64 0, .int .i64 0, .int .i64 0, .bool false, .int .i64 0, .int .i64 0, .int .i64 0, .int .i64 0, .slice none 0 0]) := (Bk.new w _ _).mod hm1 (fun h => h)
  have hM : Hid (Mod (fun _ => False) w w1) := ((Mod.refl (fun _ => False) w).alloc _).trans hm1 (fun _ _ h => h) (fun _ _ h => h)
  have hl1 : w.heap.size < w1.heap.size := B0.out.lt
  clear hm1 hn1 hO
  go_wp2_with (refine wpList_store_row info13 rfl rfl _ _ rfl w.heap.size _ rfl rfl (by first | exact B0.out.mod ((Mod.refl (fun _ => False) _).alloc _) (fun h => h) | exact B0.out.mod (((Mod.refl (fun _ => False) _).alloc _).alloc _) (fun h => h)) rfl rfl rfl ?_; intro wF hBF hMF)
  have hw : Mod (fun _ => False) w wF := ((hM.out.alloc _)).trans hMF (fun _ _ h => h) (fun i hi h => by have h' : i = w.heap.size := h; omega)
  exact bodyPost_ret (res1 rfl rfl hBF rfl) rfl ⟨_, rfl, ⟨_, _, _, _, _, _, _, _, _, _, _, _, none, 0, [], rfl, Sl.nil0 wF, by simp⟩, hw⟩
set_option maxRecDepth 100000 in
theorem tu25 (w : World) : Calls Try.prog 35 #[.int .i64 25] w fun e w' => ∃ m, e = .returned m ∧ IsM w' m ∧ Mod (fun _ => False) w w' := by
  have hmk : ∀ W : World, (Instr.makeSlice 26 (.int .i64 48) (.int .i64 48)).run Try.prog W = .ok (.slice (some ⟨W.heap.size, 0, none⟩) 48 48) (W.alloc (.cells (U [0, 0, 0, 0, 0, 0, 0, 0, 0, 0, 0, 0, 0, 0, 0, 0, 0, 0, 0, 0, 0, 0, 0, 0, 0, 0, 0, 0, 0, 0, 0, 0, 0, 0, 0, 0, 0, 0, 0, 0, 0, 0, 0, 0, 0, 0, 0, 0]).toArray 5)) := fun W => by kernel_rfl
  go_enter Try.func35, Try.ntmps35
  go_wp2_with (fail)
  refine (text _).mono ?_
  rintro e w1 ⟨ao, cap, rfl, hO, hm1, hn1⟩
  have B0 : Hid (Bk w1 w.heap.size 28 #[.int .i64 0, .int .i64 0, .int .i64 0, .int .i64 0, .int .i64 0, .int .i64 0, .int .i64 0, .bool false, .int .i64 0, .int .i64 0, .int .i64 0, .int .i64 0, .slice none 0 0]) := (Bk.new w _ _).mod hm1 (fun h => h)
  have hM : Hid (Mod (fun _ => False) w w1) := ((Mod.refl (fun _ => False) w).alloc _).trans hm1 (fun _ _ h => h) (fun _ _ h => h)
  have hl1 : w.heap.size < w1.heap.size := B0.out.lt
  clear hm1 hn1 hO
  go_wp2_with (refine wpList_store_row info13 rfl rfl _ _ rfl w.heap.size _ rfl rfl (by first | exact B0.out.mod ((Mod.refl (fun _ => False) _).alloc _) (fun h => h) | exact B0.out.mod (((Mod.refl (fun _ => False) _).alloc _).alloc _) (fun h => h)) rfl rfl rfl ?_; intro wF hBF hMF)
  have hw : Mod (fun _ => False) w wF := (((hM.out.alloc _).alloc _)).trans hMF (fun _ _ h => h) (fun i hi h => by have h' : i = w.heap.size := h; omega)
  have hS := Sl.mod ((Own.lit (w1.alloc _) [0, 0, 0, 0, 0, 0, 0, 0, 0, 0, 0, 0, 0, 0, 0, 0, 0, 0, 0, 0, 0, 0, 0, 0, 0, 0, 0, 0, 0, 0, 0, 0, 0, 0, 0, 0, 0, 0, 0, 0, 0, 0, 0, 0, 0, 0, 0, 0] (by simp [maxLen])).sl (by simp)) hMF (by
    intro g hg h
    simp [Value.ownBlock] at hg
    omega)
  rw [show (w1.alloc _).heap.size = w1.heap.size + 1 from by simp] at hS
  exact bodyPost_ret (res1 rfl rfl hBF rfl) rfl ⟨_, rfl, ⟨_, _, _, _, _, _, _, _, _, _, _, _, _, _, [0, 0, 0, 0, 0, 0, 0, 0, 0, 0, 0, 0, 0, 0, 0, 0, 0, 0, 0, 0, 0, 0, 0, 0, 0, 0, 0, 0, 0, 0, 0, 0, 0, 0, 0, 0, 0, 0, 0, 0, 0, 0, 0, 0, 0, 0, 0, 0], rfl, hS, by simp⟩, hw⟩
set_option maxRecDepth 100000 in
theorem tu26 (w : World) : Calls Try.prog 35 #[.int .i64 26] w fun e w' => ∃ m, e = .returned m ∧ IsM w' m ∧ Mod (fun _ => False) w w' := by
  go_enter Try.func35, Try.ntmps35
  go_wp2_with (fail)
  refine (text _).mono ?_
  rintro e w1 ⟨ao, cap, rfl, hO, hm1, hn1⟩
  have B0 : Hid (Bk w1 w.heap.size 28 #[.int .i64 0, .int .i64 0, .int .i64 0, .int .i64 0, .int .i64 0, .int .i64 0, .int .i64 0, .bool false, .int .i64 0, .int .i64 0, .int .i64 0, .int .i64 0, .slice none 0 0]) := (Bk.new w _ _).mod hm1 (fun h => h)
  have hM : Hid (Mod (fun _ => False) w w1) := ((Mod.refl (fun _ => False) w).alloc _).trans hm1 (fun _ _ h => h) (fun _ _ h => h)
  have HO : Hid (Own w1 (.slice ao 1 cap) [65]) := hO
  have HN : Hid (∀ g, (Value.slice ao 1 cap).ownBlock = some g → ¬ g = w.heap.size) := fun g hg e => by
    have := hn1 g hg
    simp at this
    omega
  have hl1 : w.heap.size < w1.heap.size := B0.out.lt
  clear hm1 hn1 hO
  go_wp2_with (refine wpList_store_row info13 rfl rfl _ _ rfl w.heap.size _ rfl rfl (by first | exact B0.out.mod ((Mod.refl (fun _ => False) _).alloc _) (fun h => h) | exact B0.out.mod (((Mod.refl (fun _ => False) _).alloc _).alloc _) (fun h => h)) rfl rfl rfl ?_; intro wF hBF hMF)
  have hw : Mod (fun _ => False) w wF := ((hM.out.alloc _)).trans hMF (fun _ _ h => h) (fun i hi h => by have h' : i = w.heap.size := h; omega)
  have h1 : Mod (fun i => i = w.heap.size) w1 wF := ((Mod.refl (fun _ => False) w1).alloc _).trans hMF (fun _ _ h => h.elim) (fun _ _ h => h)
  have hS : Sl wF (.slice ao 1 cap) [65] := (HO.out.mod h1 HN.out).sl (by simp)
  exact bodyPost_ret (res1 rfl rfl hBF rfl) rfl ⟨_, rfl, ⟨_, _, _, _, _, _, _, _, _, _, _, _, _, _, [65], rfl, hS, by simp⟩, hw⟩
set_option maxRecDepth 100000 in
theorem tu27 (w : World) : Calls Try.prog 35 #[.int .i64 27] w fun e w' => ∃ m, e = .returned m ∧ IsM w' m ∧ Mod (fun _ => False) w w' := by
  go_enter Try.func35, Try.ntmps35
  go_wp2_with (fail)
  refine (text _).mono ?_
  rintro e w1 ⟨ao, cap, rfl, hO, hm1, hn1⟩
  have B0 : Hid (Bk w1 w.heap.size 28 #[.int .i64 0, .int .i64 0, .int .i64 0, .int .i64 0, .int .i64 0, .int .i64 0, .int .i64 0, .bool false, .int .i64 0, .int .i64 0, .int .i64 0, .int .i64 0, .slice none 0 0]) := (Bk.new w _ _).mod hm1 (fun h => h)
  have hM : Hid (Mod (fun _ => False) w w1) := ((Mod.refl (fun _ => False) w).alloc _).trans hm1 (fun _ _ h => h) (fun _ _ h => h)
  have HO : Hid (Own w1 (.slice ao 1 cap) [65]) := hO
  have HN : Hid (∀ g, (Value.slice ao 1 cap).ownBlock = some g → ¬ g = w.heap.size) := fun g hg e => by
    have := hn1 g hg
    simp at this
    omega
  have hl1 : w.heap.size < w1.heap.size := B0.out.lt
  clear hm1 hn1 hO
  go_wp2_with (refine wpList_store_row info13 rfl rfl _ _ rfl w.heap.size _ rfl rfl (by first | exact B0.out.mod ((Mod.refl (fun _ => False) _).alloc _) (fun h => h) | exact B0.out.mod (((Mod.refl (fun _ => False) _).alloc _).alloc _) (fun h => h)) rfl rfl rfl ?_; intro wF hBF hMF)
  have hw : Mod (fun _ => False) w wF := ((hM.out.alloc _)).trans hMF (fun _ _ h => h) (fun i hi h => by have h' : i = w.heap.size := h; omega)
  have h1 : Mod (fun i => i = w.heap.size) w1 wF := ((Mod.refl (fun _ => False) w1).alloc _).trans hMF (fun _ _ h => h.elim) (fun _ _ h => h)
  have hS : Sl wF (.slice ao 1 cap) [65] := (HO.out.mod h1 HN.out).sl (by simp)
  exact bodyPost_ret (res1 rfl rfl hBF rfl) rfl ⟨_, rfl, ⟨_, _, _, _, _, _, _, _, _, _, _, _, _, _, [65], rfl, hS, by simp⟩, hw⟩
theorem turned_any (n : Nat) (hn : n < 28) (w : World) : Calls Try.prog 35 #[.int .i64 (n : Int)] w fun e w' => ∃ m, e = .returned m ∧ IsM w' m ∧ Mod (fun _ => False) w w' := by
  rcases (by omega : n = 0 ∨ n = 1 ∨ n = 2 ∨ n = 3 ∨ n = 4 ∨ n = 5 ∨ n = 6 ∨ n = 7 ∨ n = 8 ∨ n = 9 ∨ n = 10 ∨ n = 11 ∨ n = 12 ∨ n = 13 ∨ n = 14 ∨ n = 15 ∨ n = 16 ∨ n = 17 ∨ n = 18 ∨ n = 19 ∨ n = 20 ∨ n = 21 ∨ n = 22 ∨ n = 23 ∨ n = 24 ∨ n = 25 ∨ n = 26 ∨ n = 27) with rfl | rfl | rfl | rfl | rfl | rfl | rfl | rfl | rfl | rfl | rfl | rfl | rfl | rfl | rfl | rfl | rfl | rfl | rfl | rfl | rfl | rfl | rfl | rfl | rfl | rfl | rfl | rfl
  · exact tu0 w
  · exact tu1 w
  · exact tu2 w
  · exact tu3 w
  · exact tu4 w
  · exact tu5 w
  · exact tu6 w
  · exact tu7 w
  · exact tu8 w
  · exact tu9 w
  · exact tu10 w
  · exact tu11 w
  · exact tu12 w
  · exact tu13 w
  · exact tu14 w
  · exact tu15 w
  · exact tu16 w
  · exact tu17 w
  · exact tu18 w
  · exact tu19 w
  · exact tu20 w
  · exact tu21 w
  · exact tu22 w
  · exact tu23 w
  · exact tu24 w
  · exact tu25 w
  · exact tu26 w
  · exact tu27 w
end Go.Proofs.Ytajhpnfpjickbaa
