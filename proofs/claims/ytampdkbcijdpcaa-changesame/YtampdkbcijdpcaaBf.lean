/- Contracts of the laws' own calls: one, ending, next, numbersOf, plain, kin. No conditions. -/
import Derived.Test.YtampdkbcijdpcaaBa
namespace Go.Proofs.Ytampdkbcijdpcaa
open Go.RowKit Go.Maps
/-- Data with a number, a sender, safe or not. -/
def oz (n s : Int) (b : Bool) : Dt := ⟨2, 1, n, s, 0, ⟨1, s, 1, 0, 0, 1, 1, b, 0, 0, 0, 0, []⟩⟩
def cgE : Cg := ⟨2, 1, 0, 0, 14, false, 0⟩
def cgX : Cg := ⟨5, 1, 0, 0, 22, false, 40⟩
theorem infoOld : (Try.prog.info? 27).map (·.size) = some 9 := by kernel_rfl
theorem infoCfg : (Try.prog.info? 25).map (·.size) = some 7 := by kernel_rfl
set_option maxRecDepth 100000 in
set_option maxHeartbeats 2000000 in
theorem one_w (n s : Int) (b : Bool) (w : World) : Calls Try.prog 27 #[.int .i64 n, .int .i64 s, .bool b] w fun e w' => e = .returned (dv (oz n s b) (.slice none 0 0)) ∧ Mod (fun _ => False) w w' := by
  have hZ : Hid (Bk _ _ _ _) := Bk.new w #[.int .i64 0, .int .i64 0, .int .i64 0, .int .i64 0, .int .i64 0, .int .i64 0, .int .i64 0, .int .i64 0, .int .i64 0, .int .i64 0, .int .i64 0, .int .i64 0, .bool false, .int .i64 0, .int .i64 0, .int .i64 0, .int .i64 0, .slice none 0 0] 44
  have hA := (Mod.refl (fun _ => False) w).alloc (.cells #[.int .i64 0, .int .i64 0, .int .i64 0, .int .i64 0, .int .i64 0, .int .i64 0, .int .i64 0, .int .i64 0, .int .i64 0, .int .i64 0, .int .i64 0, .int .i64 0, .bool false, .int .i64 0, .int .i64 0, .int .i64 0, .int .i64 0, .slice none 0 0] 44)
  unfold dv oz
  go_enter Try.func27, Try.ntmps27
  go_wp2_with (refine wpList_store_row info18 rfl rfl _ _ rfl w.heap.size #[.int .i64 2, .int .i64 1, .int .i64 n, .int .i64 s, .int .i64 0, .int .i64 1, .int .i64 s, .int .i64 1, .int .i64 0, .int .i64 0, .int .i64 1, .int .i64 1, .bool b, .int .i64 0, .int .i64 0, .int .i64 0, .int .i64 0, .slice none 0 0] rfl rfl hZ.out rfl rfl rfl ?_; intro wF hBF hMF)
  exact bodyPost_ret (resT info18 Try.underlying44 rfl rfl rfl hBF rfl) rfl ⟨rfl, hA.trans hMF (V := fun _ => False) (fun _ _ h => h) (fun i hi h => by omega)⟩
set_option maxRecDepth 100000 in
set_option maxHeartbeats 2000000 in
theorem ending_w (w : World) : Calls Try.prog 24 #[] w fun e w' => e = .returned (.agg #[.int .i64 2, .int .i64 1, .int .i64 0, .int .i64 0, .int .i64 14, .bool false, .int .i64 0, .int .i64 1, .int .i64 2]) ∧ Mod (fun _ => False) w w' := by
  have hZ : Hid (Bk _ _ _ _) := Bk.new w #[.int .i64 0, .int .i64 0, .int .i64 0, .int .i64 0, .int .i64 0, .bool false, .int .i64 0, .int .i64 0, .int .i64 0] 27
  have hA := (Mod.refl (fun _ => False) w).alloc (.cells #[.int .i64 0, .int .i64 0, .int .i64 0, .int .i64 0, .int .i64 0, .bool false, .int .i64 0, .int .i64 0, .int .i64 0] 27)
  go_enter Try.func24, Try.ntmps24
  go_wp2_with (refine wpList_store_row infoOld rfl rfl _ _ rfl w.heap.size #[.int .i64 2, .int .i64 1, .int .i64 0, .int .i64 0, .int .i64 14, .bool false, .int .i64 0, .int .i64 1, .int .i64 2] rfl rfl hZ.out rfl rfl rfl ?_; intro wF hBF hMF)
  exact bodyPost_ret (resT infoOld Try.underlying27 rfl rfl rfl hBF rfl) rfl ⟨rfl, hA.trans hMF (V := fun _ => False) (fun _ _ h => h) (fun i hi h => by omega)⟩
set_option maxRecDepth 100000 in
set_option maxHeartbeats 2000000 in
theorem next_w (w : World) : Calls Try.prog 25 #[] w fun e w' => e = .returned (.agg #[.int .i64 5, .int .i64 1, .int .i64 0, .int .i64 0, .int .i64 22, .bool false, .int .i64 40]) ∧ Mod (fun _ => False) w w' := by
  have hZ : Hid (Bk _ _ _ _) := Bk.new w #[.int .i64 0, .int .i64 0, .int .i64 0, .int .i64 0, .int .i64 0, .bool false, .int .i64 0] 25
  have hA := (Mod.refl (fun _ => False) w).alloc (.cells #[.int .i64 0, .int .i64 0, .int .i64 0, .int .i64 0, .int .i64 0, .bool false, .int .i64 0] 25)
  go_enter Try.func25, Try.ntmps25
  go_wp2_with (refine wpList_store_row infoCfg rfl rfl _ _ rfl w.heap.size #[.int .i64 5, .int .i64 1, .int .i64 0, .int .i64 0, .int .i64 22, .bool false, .int .i64 40] rfl rfl hZ.out rfl rfl rfl ?_; intro wF hBF hMF)
  exact bodyPost_ret (resT infoCfg Try.underlying25 rfl rfl rfl hBF rfl) rfl ⟨rfl, hA.trans hMF (V := fun _ => False) (fun _ _ h => h) (fun i hi h => by omega)⟩
/-- The number of an event. -/
def evN (e : Ev) : Int := if e.k = 2 then e.d.n else if e.c.tr = true then 0 else -1
set_option maxRecDepth 100000 in
set_option maxHeartbeats 4000000 in
theorem numbersOf_w (v : Value) (es : List (Ev × Value)) (w : World) (hR : RG w 52 26 v es.length (fe es)) (hl : es.length ≤ 10000000) : Calls Try.prog 20 #[v] w fun e w' => ∃ u, e = .returned u ∧ Cr.Own w' u (es.map fun x => evN x.1) ∧ Mod (fun _ => False) w w' ∧ (∀ g, u.ownBlock = some g → w.heap.size ≤ g) := by
  have HR : Hid (RG w 52 26 v es.length (fe es)) := hR
  obtain ⟨av, cv, rfl⟩ := hR.shape
  clear hR
  go_enter Try.func20, Try.ntmps20
  go_wp2_with (fail)
  go_loopw [3, 4] (fun u i wr => ∃ (j : Nat), i = .int .i64 (j : Int) ∧ j ≤ es.length ∧ Cr.Own wr u ((es.take j).map fun x => evN x.1) ∧ Mod (fun _ => False) w wr ∧ Hid (∀ g, u.ownBlock = some g → w.heap.size ≤ g)) (fun _ i _ => es.length - (intOf i).toNat)
  case atStart => exact ⟨0, rfl, Nat.zero_le _, by simpa using Cr.Own.nil _, Mod.refl _ _, by intro g hg; simp [Value.ownBlock] at hg⟩
  case round =>
    obtain ⟨j, rfl, hj, ho, hMr, hnew⟩ := hrel
    by_cases hlt : j < es.length
    · have hlt' : (j : Int) < (es.length : Int) := by omega
      obtain ⟨x, hx⟩ : ∃ x, es[j]? = some x := ⟨es[j], List.getElem?_eq_getElem hlt⟩
      obtain ⟨gb, of, cp, e, hrg⟩ := (HR.out.mod hMr (fun _ _ h => h)).range (by omega)
      cases e
      have c0 : wr.cell? ⟨gb, of + j * 26, none⟩ = some (.int .i64 x.1.k) := hrg (j * 26) _ (by simpa using fe_get es j x hx 0 (.int .i64 x.1.k) rfl)
      have c6 : wr.cell? ⟨gb, of + j * 26 + 6, none⟩ = some (.bool x.1.c.tr) := by
        have := hrg (j * 26 + 6) _ (fe_get es j x hx 6 (.bool x.1.c.tr) rfl)
        rwa [← Nat.add_assoc] at this
      have c10 : wr.cell? ⟨gb, of + j * 26 + 10, none⟩ = some (.int .i64 x.1.d.n) := by
        have := hrg (j * 26 + 10) _ (fe_get es j x hx 10 (.int .i64 x.1.d.n) rfl)
        rwa [← Nat.add_assoc] at this
      obtain ⟨ao, cp2, rfl⟩ := ho.shape
      have HT0 : Hid ((es.take (j + 1)).map (fun x => evN x.1) = (es.take j).map (fun x => evN x.1) ++ [evN x.1]) := by
        show _ = _
        rw [List.take_add_one, hx, List.map_append]
        rfl
      have HL : Hid (((es.take j).map fun x => evN x.1).length + 1 ≤ 1000000000000) := by show _ ≤ _; simp; omega
      have hb1 : (0 : Int) ≤ (j : Int) := by omega
      have hjb : (j : Int) + 1 ≤ 10000000 := by omega
      have HLT : Hid (j < es.length) := hlt
      clear hrg hx
      generalize (es.take j).map (fun x => evN x.1) = L at *
      by_cases h2 : x.1.k = 2
      · have HT : Hid ((es.take (j + 1)).map (fun x => evN x.1) = L ++ [x.1.d.n]) := by show _ = _; rw [HT0.out, evN, if_pos h2]
        have hb2 : (x.1.k == 2) = true := by simp [h2]
        clear HT0
        rw [h2] at c0
        clear h2 hb2
        generalize x.1.d.n = y at *
        go_wp2_with (at_builtin; refine wpList_app1 rfl _ _ rfl _ L y wr.heap.size rfl rfl (ho.mod ((Mod.refl (fun _ => False) wr).alloc _) (fun _ _ h => h)) (Bk.new wr #[.int .i64 y] 3).cellz HL.out ?_; intro v4 w4 ho4 hm4 hf4)
        have HN4 : Hid (∀ g, v4.ownBlock = some g → w.heap.size ≤ g) := fun g hg => by
          rcases hf4 g hg with h1 | h1
          · exact hnew.out g h1
          · have := hMr.size; simp at h1; omega
        have HM4 : Hid (Mod (fun _ => False) w w4) := (hMr.alloc _).trans hm4 (fun _ _ h => h) (fun g hg e => by have := hnew.out g e; omega)
        clear hf4 hm4
        go_roundw
        case rel => exact ⟨j + 1, by go_num, HLT.out, by rw [HT.out]; exact ho4, HM4.out, HN4⟩
        case measure =>
          have := HLT.out
          simp [intOf]
          omega
      · cases htr : x.1.c.tr with
        | true =>
          have HT : Hid ((es.take (j + 1)).map (fun x => evN x.1) = L ++ [0]) := by show _ = _; rw [HT0.out, evN, if_neg h2, if_pos htr]
          have hb2 : (x.1.k == 2) = false := by simp [h2]
          rw [htr] at c6
          clear HT0 htr h2
          generalize x.1.k = kk at *
          go_wp2_with (at_builtin; refine wpList_app1 rfl _ _ rfl _ L 0 wr.heap.size rfl rfl (ho.mod ((Mod.refl (fun _ => False) wr).alloc _) (fun _ _ h => h)) (Bk.new wr #[.int .i64 0] 3).cellz HL.out ?_; intro v4 w4 ho4 hm4 hf4)
          have HN4 : Hid (∀ g, v4.ownBlock = some g → w.heap.size ≤ g) := fun g hg => by
            rcases hf4 g hg with h1 | h1
            · exact hnew.out g h1
            · have := hMr.size; simp at h1; omega
          have HM4 : Hid (Mod (fun _ => False) w w4) := (hMr.alloc _).trans hm4 (fun _ _ h => h) (fun g hg e => by have := hnew.out g e; omega)
          clear hf4 hm4
          go_roundw
          case rel => exact ⟨j + 1, by go_num, HLT.out, by rw [HT.out]; exact ho4, HM4.out, HN4⟩
          case measure =>
            have := HLT.out
            simp [intOf]
            omega
        | false =>
          have HT : Hid ((es.take (j + 1)).map (fun x => evN x.1) = L ++ [-1]) := by show _ = _; rw [HT0.out, evN, if_neg h2, if_neg (by rw [htr]; decide)]
          have hb2 : (x.1.k == 2) = false := by simp [h2]
          rw [htr] at c6
          clear HT0 htr h2
          generalize x.1.k = kk at *
          go_wp2_with (at_builtin; refine wpList_app1 rfl _ _ rfl _ L (-1) wr.heap.size rfl rfl (ho.mod ((Mod.refl (fun _ => False) wr).alloc _) (fun _ _ h => h)) (Bk.new wr #[.int .i64 (-1)] 3).cellz HL.out ?_; intro v4 w4 ho4 hm4 hf4)
          have HN4 : Hid (∀ g, v4.ownBlock = some g → w.heap.size ≤ g) := fun g hg => by
            rcases hf4 g hg with h1 | h1
            · exact hnew.out g h1
            · have := hMr.size; simp at h1; omega
          have HM4 : Hid (Mod (fun _ => False) w w4) := (hMr.alloc _).trans hm4 (fun _ _ h => h) (fun g hg e => by have := hnew.out g e; omega)
          clear hf4 hm4
          go_roundw
          case rel => exact ⟨j + 1, by go_num, HLT.out, by rw [HT.out]; exact ho4, HM4.out, HN4⟩
          case measure =>
            have := HLT.out
            simp [intOf]
            omega
    · have HE : Hid (j = es.length) := by show _ = _; omega
      obtain ⟨ao, cp2, rfl⟩ := ho.shape
      go_wp2
      go_ret
      have hl2 : (es.take j).map (fun x => evN x.1) = es.map (fun x => evN x.1) := by rw [HE.out, List.take_length]
      refine ⟨_, rfl, ?_, hMr, hnew.out⟩
      rw [← hl2]
      exact ho
end Go.Proofs.Ytampdkbcijdpcaa
