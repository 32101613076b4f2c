/- Contracts of the laws' own calls: one, old, numbersOf. No conditions. -/
import Derived.Test.YtbmhgglnoofnjaaOa
namespace Go.Proofs.Ytbmhgglnoofnjaa
open Go.RowKit Go.Maps
/-- Data with a number, a kind, safe or not. -/
def oz (k n : Int) (b : Bool) : Dt := ⟨1, 1, n, 1, 0, ⟨k, 1, 1, 0, 0, 1, 1, b, 0, 0, 0, 0, []⟩⟩
set_option maxRecDepth 100000 in
set_option maxHeartbeats 2000000 in
theorem one_any (n : Int) (b : Bool) (w : World) : Calls Try.prog 21 #[.int .i64 n, .bool b] w fun e w' => e = .returned (dv (oz 1 n b) (.slice none 0 0)) ∧ Mod (fun _ => False) w w' := by
  have hZ : Hid (Bk _ _ _ _) := Bk.new w #[.int .i64 0, .int .i64 0, .int .i64 0, .int .i64 0, .int .i64 0, .int .i64 0, .int .i64 0, .int .i64 0, .int .i64 0, .int .i64 0, .int .i64 0, .int .i64 0, .bool false, .int .i64 0, .int .i64 0, .int .i64 0, .int .i64 0, .slice none 0 0] 42
  have hA := (Mod.refl (fun _ => False) w).alloc (.cells #[.int .i64 0, .int .i64 0, .int .i64 0, .int .i64 0, .int .i64 0, .int .i64 0, .int .i64 0, .int .i64 0, .int .i64 0, .int .i64 0, .int .i64 0, .int .i64 0, .bool false, .int .i64 0, .int .i64 0, .int .i64 0, .int .i64 0, .slice none 0 0] 42)
  unfold dv oz
  go_enter Try.func21, Try.ntmps21
  go_wp2_with (refine wpList_store_row info18 rfl rfl _ _ rfl w.heap.size #[.int .i64 1, .int .i64 1, .int .i64 n, .int .i64 1, .int .i64 0, .int .i64 1, .int .i64 1, .int .i64 1, .int .i64 0, .int .i64 0, .int .i64 1, .int .i64 1, .bool b, .int .i64 0, .int .i64 0, .int .i64 0, .int .i64 0, .slice none 0 0] rfl rfl hZ.out rfl rfl rfl ?_; intro wF hBF hMF)
  exact bodyPost_ret (resT info18 Try.underlying42 rfl rfl rfl hBF rfl) rfl ⟨rfl, hA.trans hMF (V := fun _ => False) (fun _ _ h => h) (fun i hi h => by omega)⟩
set_option maxRecDepth 100000 in
set_option maxHeartbeats 2000000 in
theorem old_any (n : Int) (w : World) : Calls Try.prog 22 #[.int .i64 n] w fun e w' => e = .returned (dv (oz 5 n false) (.slice none 0 0)) ∧ Mod (fun _ => False) w w' := by
  have hZ : Hid (Bk _ _ _ _) := Bk.new w #[.int .i64 0, .int .i64 0, .int .i64 0, .int .i64 0, .int .i64 0, .int .i64 0, .int .i64 0, .int .i64 0, .int .i64 0, .int .i64 0, .int .i64 0, .int .i64 0, .bool false, .int .i64 0, .int .i64 0, .int .i64 0, .int .i64 0, .slice none 0 0] 42
  have hA := (Mod.refl (fun _ => False) w).alloc (.cells #[.int .i64 0, .int .i64 0, .int .i64 0, .int .i64 0, .int .i64 0, .int .i64 0, .int .i64 0, .int .i64 0, .int .i64 0, .int .i64 0, .int .i64 0, .int .i64 0, .bool false, .int .i64 0, .int .i64 0, .int .i64 0, .int .i64 0, .slice none 0 0] 42)
  have HA : Hid (Mod _ _ _) := hA
  have HS : Hid (w.heap.size < (w.alloc (.cells #[.int .i64 0, .int .i64 0, .int .i64 0, .int .i64 0, .int .i64 0, .int .i64 0, .int .i64 0, .int .i64 0, .int .i64 0, .int .i64 0, .int .i64 0, .int .i64 0, .bool false, .int .i64 0, .int .i64 0, .int .i64 0, .int .i64 0, .slice none 0 0] 42)).heap.size) := by unfold Hid; simp
  clear hA
  go_enter Try.func22, Try.ntmps22
  go_wp2_with (fail)
  refine (one_any n false _).mono ?_
  rintro e w1 ⟨rfl, hm1⟩
  have hZ1 : Hid (Bk _ _ _ _) := hZ.out.mod hm1 (fun h => h)
  have hZ2 : Hid (Bk _ _ _ _) := Bk.new w1 #[.int .i64 0, .int .i64 0, .int .i64 0, .int .i64 0, .int .i64 0, .int .i64 0, .int .i64 0, .int .i64 0, .int .i64 0, .int .i64 0, .int .i64 0, .int .i64 0, .bool false, .int .i64 0, .int .i64 0, .int .i64 0, .int .i64 0, .slice none 0 0] 42
  have hA2 := (Mod.refl (fun _ => False) w1).alloc (.cells #[.int .i64 0, .int .i64 0, .int .i64 0, .int .i64 0, .int .i64 0, .int .i64 0, .int .i64 0, .int .i64 0, .int .i64 0, .int .i64 0, .int .i64 0, .int .i64 0, .bool false, .int .i64 0, .int .i64 0, .int .i64 0, .int .i64 0, .slice none 0 0] 42)
  have HM : Hid (Mod (fun _ => False) w _) := (HA.out.and hm1).and hA2
  have hZ12 : Hid (Bk _ _ _ _) := hZ1.out.mod hA2 (fun h => h)
  have HS1 : Hid (w.heap.size < w1.heap.size) := Nat.lt_of_lt_of_le HS.out hm1.size
  clear hm1 hA2
  unfold dv oz
  go_upto_region 2 with (refine wpList_store_row info18 rfl rfl _ _ rfl w1.heap.size #[.int .i64 1, .int .i64 1, .int .i64 n, .int .i64 1, .int .i64 0, .int .i64 1, .int .i64 1, .int .i64 1, .int .i64 0, .int .i64 0, .int .i64 1, .int .i64 1, .bool false, .int .i64 0, .int .i64 0, .int .i64 0, .int .i64 0, .slice none 0 0] rfl rfl hZ2.out rfl rfl rfl ?_; intro wF hBF hMF; have c5 := hBF.cellv (j := 5) rfl; have f5 := hBF.frz 5)
  have hB3 := hBF.set 5 (.int .i64 5)
  simp only [List.setIfInBounds_toArray, List.set_cons_succ, List.set_cons_zero] at hB3
  have hZ3 := (hZ12.out.mod hMF (fun e => by have := HS1.out; omega)).other ⟨w1.heap.size, 5, none⟩ (.int .i64 5) (by have := HS1.out; simp; omega)
  have hM3 := (HM.out.trans hMF (V := fun _ => False) (fun _ _ h => h) (fun i hi h => by have := HS1.out; omega)).setCell ⟨w1.heap.size, 5, none⟩ (.int .i64 5) (.inr (by have := HS1.out; simp; omega))
  have HB3 : Hid (Bk _ _ _ _) := hB3
  have HZ3 : Hid (Bk _ _ _ _) := hZ3
  clear hB3 hZ3 hBF hMF
  go_upto_region 3 with (fail)
  go_wp2_with (first | (refine wpList_load_row info18 Try.underlying42 rfl rfl _ rfl w1.heap.size rfl HB3.out rfl ?_; simp only [Act.put, List.setIfInBounds_toArray, List.set_cons_succ, List.set_cons_zero]) | (refine wpList_store_row info18 rfl rfl _ _ rfl w.heap.size #[.int .i64 1, .int .i64 1, .int .i64 n, .int .i64 1, .int .i64 0, .int .i64 5, .int .i64 1, .int .i64 1, .int .i64 0, .int .i64 0, .int .i64 1, .int .i64 1, .bool false, .int .i64 0, .int .i64 0, .int .i64 0, .int .i64 0, .slice none 0 0] rfl rfl HZ3.out rfl rfl rfl ?_; intro wG hBG hMG))
  exact bodyPost_ret (resT info18 Try.underlying42 rfl rfl rfl hBG rfl) rfl ⟨rfl, hM3.trans hMG (V := fun _ => False) (fun _ _ h => h) (fun i hi h => by omega)⟩
set_option maxRecDepth 100000 in
set_option maxHeartbeats 2000000 in
theorem numbersOf_any (v : Value) (ds : List (Dt × Value)) (w : World) (hR : RG w 42 18 v ds.length (fd ds)) (hl : ds.length ≤ 1000000) : Calls Try.prog 24 #[v] w fun e w' => ∃ u, e = .returned u ∧ Cr.Own w' u (ds.map (·.1.n)) ∧ Mod (fun _ => False) w w' ∧ (∀ g, u.ownBlock = some g → w.heap.size ≤ g) := by
  have HR : Hid (RG w 42 18 v ds.length (fd ds)) := hR
  obtain ⟨av, cv, rfl⟩ := hR.shape
  clear hR
  go_enter Try.func24, Try.ntmps24
  go_wp2_with (fail)
  go_loopw [3, 4] (fun u i wr => ∃ (j : Nat), i = .int .i64 (j : Int) ∧ j ≤ ds.length ∧ Cr.Own wr u ((ds.take j).map (·.1.n)) ∧ Mod (fun _ => False) w wr ∧ Hid (∀ g, u.ownBlock = some g → w.heap.size ≤ g)) (fun _ i _ => ds.length - (intOf i).toNat)
  case atStart => exact ⟨0, rfl, Nat.zero_le _, by simpa using Cr.Own.nil _, Mod.refl _ _, by intro g hg; simp [Value.ownBlock] at hg⟩
  case round =>
    obtain ⟨j, rfl, hj, ho, hMr, hnew⟩ := hrel
    by_cases hlt : j < ds.length
    · have hlt' : (j : Int) < (ds.length : Int) := by omega
      obtain ⟨x, hx⟩ : ∃ x, ds[j]? = some x := ⟨ds[j], List.getElem?_eq_getElem hlt⟩
      obtain ⟨gb, of, cp, e, hrg⟩ := (HR.out.mod hMr (fun _ _ h => h)).range (by omega)
      cases e
      have c2 : wr.cell? ⟨gb, of + j * 18 + 2, none⟩ = some (.int .i64 x.1.n) := by
        have := hrg (j * 18 + 2) _ (fd_get ds j x hx 2 (.int .i64 x.1.n) rfl)
        rwa [← Nat.add_assoc] at this
      obtain ⟨ao, cp2, rfl⟩ := ho.shape
      have HT : Hid ((ds.take (j + 1)).map (·.1.n) = (ds.take j).map (·.1.n) ++ [x.1.n]) := by
        show _ = _
        rw [List.take_add_one, hx, List.map_append]
        rfl
      have HL : Hid (((ds.take j).map (·.1.n)).length + 1 ≤ 1000000000000) := by show _ ≤ _; simp; omega
      have hb1 : (0 : Int) ≤ (j : Int) := by omega
      have hjb : (j : Int) + 1 ≤ 1000000 := by omega
      have HLT : Hid (j < ds.length) := hlt
      clear hrg hx
      generalize (ds.take j).map (·.1.n) = L at *
      generalize x.1.n = y at *
      go_wp2_with (at_builtin; refine wpList_app1 rfl _ _ rfl _ L y wr.heap.size rfl rfl (ho.mod ((Mod.refl (fun _ => False) wr).alloc _) (fun _ _ h => h)) (Bk.new wr #[.int .i64 y] 3).cellz HL.out ?_; intro v4 w4 ho4 hm4 hf4)
      have HN4 : Hid (∀ g, v4.ownBlock = some g → w.heap.size ≤ g) := fun g hg => by
        rcases hf4 g hg with h1 | h1
        · exact hnew.out g h1
        · have := hMr.size; simp at h1; omega
      have HM4 : Hid (Mod (fun _ => False) w w4) := (hMr.alloc _).trans hm4 (fun _ _ h => h) (fun g hg e => by have := hnew.out g e; omega)
      clear hf4 hm4
      go_roundw
      case rel => exact ⟨j + 1, by go_num, HLT.out, by rw [HT.out]; exact ho4, HM4.out, HN4⟩
      case measure =>
        have := HLT.out
        simp [intOf]
        omega
    · have HE : Hid (j = ds.length) := by show _ = _; omega
      obtain ⟨ao, cp2, rfl⟩ := ho.shape
      go_wp2
      go_ret
      have hl2 : (ds.take j).map (·.1.n) = ds.map (·.1.n) := by rw [HE.out, List.take_length]
      refine ⟨_, rfl, ?_, hMr, hnew.out⟩
      rw [← hl2]
      exact ho
theorem Own.nilSl (w : World) : Sl w (.slice none 0 0) [] := (Own.nil w).sl (by simp)
end Go.Proofs.Ytbmhgglnoofnjaa
