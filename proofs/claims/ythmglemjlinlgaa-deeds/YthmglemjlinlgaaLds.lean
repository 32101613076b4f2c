/- LaneDeeds: lanes are as the chapter says, of all deeds. No conditions. -/
import Derived.Test.YthmglemjlinlgaaLst
import Derived.Deep.RegionWith
namespace Go.Proofs.Ythmglemjlinlgaa
open Go.RowKit
/-- The two lanes are alike. -/
def Iv (w wr : World) (a b c : Nat) : Prop := ∃ L s u A B C, St w wr a b c L L s s u A B C (fun _ => False) ∧ Nds L ∧ L.length ≤ 4096
theorem sl_nil' (w : World) : Sl w (.slice none 0 0) (Dg.mk 1 2 []).b := (Own.nil w).sl (by simp)
set_option maxRecDepth 100000 in
set_option maxHeartbeats 16000000 in
theorem deeds_walk (v : Value) (ds : List Dd) (fill : Int) (w : World) (hd : Deeds w v ds) (hf : I64 fill) : Calls Try.prog 3 #[v, .int .i64 fill] w fun e w' => e = .returned (.bool true) ∧ Mod (fun _ => False) w w' := by
  obtain ⟨ao, cap, rfl, hdl, _⟩ := hd.form
  have hN0 : 0 ≤ fill % (4098 : Nat) ∧ fill % (4098 : Nat) < 4098 := by omega
  have HBF := fun w => bring_any fill 4098 w (by omega) (by omega) hf.1 hf.2
  generalize fill % (4098 : Nat) = N at hN0 HBF
  clear hf
  go_enter Try.func3, Try.ntmps3
  go_wp2_with (fail)
  refine (New_any w).mono ?_
  rintro e w1 ⟨a, A, rfl, hA, hm1, hn1⟩
  go_wp2_with (fail)
  refine (dNew_any w1).mono ?_
  rintro e w2 ⟨b, B, rfl, hB, hm2, hn2⟩
  go_wp2_with (fail)
  refine (New_any w2).mono ?_
  rintro e w3 ⟨c, C, rfl, hC, hm3, hn3⟩
  have T : St w w3 a b c [] [] 0 0 0 A B C (fun _ => False) := {
    la := (hA.mod hm2 (fun _ _ h => h)).mod hm3 (fun _ _ h => h)
    lb := by rw [side_zero]; exact hB.mod hm3 (fun _ _ h => h)
    lc := hC
    ab := fun k hk hB' => by have := hA.lt hk; have := hn2 k hB'; omega
    ac := fun k hk hC' => by have := hA.lt hk; have := hn3 k hC'; have := hm2.size; omega
    bc := fun k hk hC' => by have := hB.lt hk; have := hn3 k hC'; omega
    na := hn1
    nb := fun k hk => Nat.le_trans hm1.size (hn2 k hk)
    nc := fun k hk => Nat.le_trans (Nat.le_trans hm1.size hm2.size) (hn3 k hk)
    x := fun k hk => hk.elim
    mod := (hm1.and hm2).and hm3 }
  have I : Hid (Iv w w3 a b c) := ⟨[], 0, 0, A, B, C, T, (by intro d hd; cases hd), (by simp)⟩
  clear hA hB hC hm1 hm2 hm3 hn1 hn2 hn3 T
  go_wp2_with (fail)
  go_loopw [8] (fun i wr => ∃ (j : Nat), i = .int .i64 j ∧ (j : Int) ≤ N ∧ Hid (Iv w wr a b c)) (fun i _ => N.toNat - (intOf i).toNat)
  case atStart => exact ⟨0, rfl, hN0.1, I⟩
  case round =>
    obtain ⟨j, rfl, hj, IJ⟩ := hrel
    clear I
    go_wp2_with (fail)
    refine (HBF _).mono ?_
    rintro e wq ⟨rfl, hq⟩
    replace hq := hq.symm
    subst hq
    by_cases hlt : (j : Int) < N
    · obtain ⟨L, s, u, A, B, C, T, hnd, hlen⟩ := IJ.out
      clear IJ hd
      have T1 := T.alloc (.cells #[.int .i64 1, .int .i64 2, .slice none 0 0] 30)
      have B1 := heap_alloc_new wr (.cells #[.int .i64 1, .int .i64 2, .slice none 0 0] 30)
      go_wp2_with (fail)
      have hg : T1.x wr.heap.size (.inr rfl) = T1.x wr.heap.size (.inr rfl) := rfl
      clear hg
      have hgx := T1.x wr.heap.size (.inr rfl)
      generalize wr.heap.size = g at *
      generalize wr.alloc (.cells #[.int .i64 1, .int .i64 2, .slice none 0 0] 30) = W at *
      have c0 : W.cell? ⟨g, 0, none⟩ = some (.int .i64 1) := by simp [World.cell?, B1]
      have c1 : W.cell? ⟨g, 1, none⟩ = some (.int .i64 2) := by simp [World.cell?, B1]
      have c2 : W.cell? ⟨g, 2, none⟩ = some (.slice none 0 0) := by simp [World.cell?, B1]
      replace T1 := T1.quiet ((Mod.refl (fun _ => False) W).drew)
      have HA := fun w' (h : La w' a L s A) => Put_any (d := ⟨1, 2, []⟩) h (sl_nil' w') (by simp)
      have HD := fun w' (h : Da w' b L (side s) B) => dPut_any (d := ⟨1, 2, []⟩) h (sl_nil' w') (by simp)
      generalize pE L ⟨1, 2, []⟩ = E at HA HD
      have hn2 := hnd.put ⟨1, 2, []⟩
      have hl2 := put_len hlen ⟨1, 2, []⟩
      generalize pL L ⟨1, 2, []⟩ = L2 at HA HD hn2 hl2
      clear B1 T
      go_region_held3 (fun y => y.cell? ⟨g, 0, none⟩ = some (.int .i64 1) ∧ y.cell? ⟨g, 1, none⟩ = some (.int .i64 2) ∧ y.cell? ⟨g, 2, none⟩ = some (.slice none 0 0)) (first | exact ⟨c0, c1, c2⟩ | go_keep)
        (first | (go_at_call 10; refine (HA _ T1.la).mono ?_; rintro e w6 ⟨rfl, A2, hL, hG⟩; replace c0 := hG.1.cell c0 (hgx.1); replace c1 := hG.1.cell c1 (hgx.1); replace c2 := hG.1.cell c2 (hgx.1); have T2 := T1.onA hL hG; clear hL hG) |
          (go_at_call 11; refine (HD _ T2.lb).mono ?_; rintro e w6 ⟨rfl, B2, hL, hG⟩; replace c0 := hG.1.cell c0 (hgx.2.1); replace c1 := hG.1.cell c1 (hgx.2.1); replace c2 := hG.1.cell c2 (hgx.2.1); have T3 := T2.onB hL hG; clear hL hG))
      have I : Hid (Iv w w6 a b c) := ⟨L2, s, u, A2, B2, C, T3.less (fun _ h => h.elim), hn2, hl2⟩
      clear T1 T2 T3 HA HD hn2 hl2 hgx c0 c1 c2 hnd hlen
      go_wp2
      go_roundw
      case rel => exact ⟨j + 1, by go_num, by omega, I⟩
      case measure => simp [intOf]; omega
    · clear hj HBF hN0
      go_wp2_with (fail)
      clear hlt
      go_loopw [10] (fun i wr => ∃ (k : Nat), i = .int .i64 k ∧ k ≤ ds.length ∧ Hid (Iv w wr a b c)) (fun i _ => ds.length - (intOf i).toNat)
      case atStart => exact ⟨0, rfl, by omega, IJ⟩
      case round =>
        obtain ⟨k, rfl, hk, IK⟩ := hrel
        clear IJ
        unfold maxLen at hdl
        by_cases hlt : k < ds.length
        · obtain ⟨d, hdk⟩ : ∃ d, ds[k]? = some d := ⟨ds[k], by simp [hlt]⟩
          obtain ⟨lb, lo', rfl, hcells⟩ := hd.at hdk
          obtain ⟨_, hbl, ik, ia, ib, iff, it⟩ := hd.each d (List.mem_of_getElem? hdk)
          obtain ⟨L, s, u, A, B, C, T, hnd, hlen⟩ := IK.out
          clear IK
          obtain ⟨⟨q0, q1, q2, q3, q4, q5⟩, _⟩ := hcells _ T.mod
          have HSL := fun w' hm => (hcells w' hm).2
          have hki : (k : Int) < ds.length := by omega
          obtain ⟨aob, cpb, eb, _⟩ := (HSL _ T.mod).form
          obtain ⟨x, da, db, dd, bv⟩ := d
          dsimp only at *
          subst eb
          have T1 := T.alloc (.cells #[.int .i64 x, .int .i64 da, .int .i64 db, .int .i64 dd.f, .int .i64 dd.t, .slice aob dd.b.length cpb] 34)
          have B1 := heap_alloc_new wr (.cells #[.int .i64 x, .int .i64 da, .int .i64 db, .int .i64 dd.f, .int .i64 dd.t, .slice aob dd.b.length cpb] 34)
          have hgx := T1.x wr.heap.size (.inr rfl)
          clear hcells hdk T
          have HB6 := fun w => bring_any x 6 w (by omega) (by omega) ik.1 ik.2
          have hy6 : 0 ≤ x % (6 : Nat) ∧ x % (6 : Nat) < 6 := by omega
          generalize x % (6 : Nat) = y at HB6 hy6
          go_wp2_with (fail)
          generalize wr.heap.size = g at *
          generalize wr.alloc (.cells #[.int .i64 x, .int .i64 da, .int .i64 db, .int .i64 dd.f, .int .i64 dd.t, .slice aob dd.b.length cpb] 34) = W at *
          refine (HB6 _).mono ?_
          rintro e wq ⟨rfl, hq⟩
          replace hq := hq.symm
          subst hq
          have c1 : W.cell? ⟨g, 1, none⟩ = some (.int .i64 da) := by simp [World.cell?, B1]
          have c2 : W.cell? ⟨g, 2, none⟩ = some (.int .i64 db) := by simp [World.cell?, B1]
          have c3 : W.cell? ⟨g, 3, none⟩ = some (.int .i64 dd.f) := by simp [World.cell?, B1]
          have c4 : W.cell? ⟨g, 4, none⟩ = some (.int .i64 dd.t) := by simp [World.cell?, B1]
          have c5 : W.cell? ⟨g, 5, none⟩ = some (.slice aob dd.b.length cpb) := by simp [World.cell?, B1]
          clear HB6 q0 q1 q2 q3 q4 q5 B1
          rcases (by omega : (y = 0 ∨ y = 1) ∨ y = 2 ∨ y = 3 ∨ y = 4 ∨ y = 5) with hy | rfl | rfl | rfl | rfl
          · have HA := fun w' (ui : Value) (h : La w' a L s A) (hs : Sl w' ui dd.b) => Put_any (d := dd) h hs hbl
            have HD := fun w' (h : Da w' b L (side s) B) (hs : Sl w' (.slice aob dd.b.length cpb) dd.b) => dPut_any (d := dd) h hs hbl
            have HC := Copy_any (d := dd) (HSL _ T1.mod) hbl
            have OC : Oct dd.b := ⟨(HSL _ T1.mod).rng, hbl⟩
            have hn2 := hnd.put dd
            have hl2 := put_len hlen dd
            generalize pE L dd = E at HA HD
            generalize pL L dd = L2 at HA HD hn2 hl2
            clear c1 c2
            have lg : g < W.heap.size := hgx.2.2.2.1
            rcases hy with rfl | rfl
            all_goals
              go_wp2_with (fail)
              refine HC.mono ?_
              rintro e w6 ⟨ui, rfl, OI, hm6, hn6⟩
              have T2 := T1.fresh hm6 OI hn6
              obtain ⟨aoi, cpi, ei⟩ := OI.shape
              subst ei
              have T3 := T2.alloc (.cells #[.int .i64 dd.f, .int .i64 dd.t, .slice aoi dd.b.length cpi] 30)
              have hA6 := (Mod.refl (fun _ => False) w6).alloc (.cells #[.int .i64 dd.f, .int .i64 dd.t, .slice aoi dd.b.length cpi] 30)
              have BI := heap_alloc_new w6 (.cells #[.int .i64 dd.f, .int .i64 dd.t, .slice aoi dd.b.length cpi] 30)
              have hM := hm6.and hA6
              replace OI := OI.mod hA6 (fun _ _ h => h)
              replace c3 := hM.cell c3 (fun h => h)
              replace c4 := hM.cell c4 (fun h => h)
              replace c5 := hM.cell c5 (fun h => h)
              have hgg := T3.x g (.inl (.inl (.inr rfl)))
              have hgi := T3.x w6.heap.size (.inr rfl)
              clear T1 T2 hm6 hn6 hA6 hM HC hgx lg
              go_wp2_with (fail)
              generalize w6.heap.size = gi at *
              generalize w6.alloc (.cells #[.int .i64 dd.f, .int .i64 dd.t, .slice aoi dd.b.length cpi] 30) = W6 at *
              have i0 : W6.cell? ⟨gi, 0, none⟩ = some (.int .i64 dd.f) := by simp [World.cell?, BI]
              have i1 : W6.cell? ⟨gi, 1, none⟩ = some (.int .i64 dd.t) := by simp [World.cell?, BI]
              have i2 : W6.cell? ⟨gi, 2, none⟩ = some (.slice aoi dd.b.length cpi) := by simp [World.cell?, BI]
              replace T3 := T3.quiet ((Mod.refl (fun _ => False) W6).drew)
              replace OI := OI.mod ((Mod.refl (fun _ => False) W6).drew) (fun _ _ h => h)
              replace BI := ((Mod.refl (fun _ => False) W6).drew).obj BI (fun h => h)
              go_region_held3 (fun y => (y.cell? ⟨gi, 0, none⟩ = some (.int .i64 dd.f) ∧ y.cell? ⟨gi, 1, none⟩ = some (.int .i64 dd.t) ∧ y.cell? ⟨gi, 2, none⟩ = some (.slice aoi dd.b.length cpi)) ∧ y.cell? ⟨g, 3, none⟩ = some (.int .i64 dd.f) ∧ y.cell? ⟨g, 4, none⟩ = some (.int .i64 dd.t) ∧ y.cell? ⟨g, 5, none⟩ = some (.slice aob dd.b.length cpb)) (first | exact ⟨⟨i0, i1, i2⟩, c3, c4, c5⟩ | go_keep)
                (first | (go_at_call 10; refine (HA _ _ T3.la (OI.sl OC.1)).mono ?_; rintro e w7 ⟨rfl, A2, hL, hG⟩; replace i0 := hG.1.cell i0 hgi.1; replace i1 := hG.1.cell i1 hgi.1; replace i2 := hG.1.cell i2 hgi.1; replace c3 := hG.1.cell c3 hgg.1; replace c4 := hG.1.cell c4 hgg.1; replace c5 := hG.1.cell c5 hgg.1; replace OI := OI.mod hG.1 (fun k hk => (T3.x k (.inl (.inr hk))).1); replace BI := hG.1.obj BI hgi.1; have T4 := T3.onA hL hG; clear hL hG) |
                  (go_at_call 11; refine (HD _ T4.lb (HSL _ T4.mod)).mono ?_; rintro e w7 ⟨rfl, B2, hL, hG⟩; replace i0 := hG.1.cell i0 hgi.2.1; replace i1 := hG.1.cell i1 hgi.2.1; replace i2 := hG.1.cell i2 hgi.2.1; replace c3 := hG.1.cell c3 hgg.2.1; replace c4 := hG.1.cell c4 hgg.2.1; replace c5 := hG.1.cell c5 hgg.2.1; replace OI := OI.mod hG.1 (fun k hk => (T4.x k (.inl (.inr hk))).2.1); replace BI := hG.1.obj BI hgi.2.1; have T5 := T4.onB hL hG; clear hL hG))
              have TI := T5.less (Y := fun k => (Value.slice aoi dd.b.length cpi).ownBlock = some k) (fun _ h => .inl (.inr h))
              clear T3 T4 T5 HA HD hgi hgg c3 c4 c5 i0 i1 i2 hnd hlen
              go_wp2_with (fail)
              go_loopw [15] (fun i wr => ∃ (m : Nat) (l1 : List Int), i = .int .i64 m ∧ m ≤ (dd.b).length ∧ Hid (l1.length = (dd.b).length) ∧ Hid (Oct l1) ∧ Hid (Own wr (.slice aoi (dd.b).length cpi) l1) ∧ Hid (wr.heap[gi]? = some (.cells #[.int .i64 (dd.f), .int .i64 (dd.t), .slice aoi (dd.b).length cpi] 30 (0, 0))) ∧ Hid (St w wr a b c L2 L2 s s u A2 B2 C (fun k => (Value.slice aoi (dd.b).length cpi).ownBlock = some k))) (fun i _ => (dd.b).length - (intOf i).toNat)
              case atStart => exact ⟨0, dd.b, rfl, by omega, rfl, OC, OI, BI, TI⟩
              case round =>
                obtain ⟨m, l1, rfl, hm, hl1, ho1, hw1, hb1, hT1⟩ := hrel
                clear OI BI TI
                have z2 : wr.cell? ⟨gi, 2, none⟩ = some (.slice aoi (dd.b).length cpi) := by simp [World.cell?, hb1.out]
                have hlm : (dd.b).length ≤ 9223372036854775807 := by have := OC.2; omega
                by_cases hlt3 : m < (dd.b).length
                · obtain ⟨g2, cp2, e2, _⟩ := hw1.out.form (by rw [hl1.out]; omega)
                  simp only [Value.slice.injEq] at e2
                  obtain ⟨rfl, _, rfl⟩ := e2
                  have hmm : m < l1.length := by rw [hl1.out]; exact hlt3
                  have hcr := ho1.out.1 (l1.getD m 0) (by simp [hmm])
                  have hcell : wr.cell? ⟨g2, m, none⟩ = some (.int .u8 (l1.getD m 0)) := by
                    obtain ⟨_, _, e3, _, _, _, h4⟩ := (hw1.out.sl ho1.out.1).form
                    obtain ⟨_, _, e4, h5⟩ := h4 (by intro e; rw [e] at hmm; simp at hmm)
                    rw [Value.slice.injEq] at e3
                    obtain ⟨e3, _, _⟩ := e3
                    rw [← e3] at e4
                    cases e4
                    have := h5 m hmm
                    rwa [Nat.zero_add] at this
                  obtain ⟨cur, hcur⟩ := hw1.out.kind (g := g2) rfl
                  have hfz : wr.frozen? ⟨g2, m, none⟩ = false := by simp [World.frozen?, hcur]
                  have hgne : ¬ gi = g2 := fun e => by
                    have h1 := hb1.out
                    rw [e, hcur] at h1
                    simp at h1
                  obtain ⟨y, hy⟩ : ∃ y, (l1.getD m 0 + 1) % 256 = y := ⟨_, rfl⟩
                  have hyr : 0 ≤ y ∧ y ≤ 255 := by omega
                  have hS := (Mod.refl (fun q => q = g2) wr).setCell ⟨g2, m, none⟩ (.int .u8 y) (.inl rfl)
                  have HO : Hid (Own (wr.setCell ⟨g2, m, none⟩ (.int .u8 y)) (.slice (some ⟨g2, 0, none⟩) (dd.b).length cpi) (l1.set m y)) := hw1.out.set (g := g2) rfl hmm y
                  have HB : Hid ((wr.setCell ⟨g2, m, none⟩ (.int .u8 y)).heap[gi]? = some (.cells #[.int .i64 (dd.f), .int .i64 (dd.t), .slice (some ⟨g2, 0, none⟩) (dd.b).length cpi] 30 (0, 0))) := hS.obj hb1.out hgne
                  have HT : Hid (St w (wr.setCell ⟨g2, m, none⟩ (.int .u8 y)) a b c L2 L2 s s u A2 B2 C (fun k => (Value.slice (some ⟨g2, 0, none⟩) (dd.b).length cpi).ownBlock = some k)) := hT1.out.onX hS (fun k e => by rw [e]; rfl)
                  have HL : Hid ((l1.set m y).length = (dd.b).length) := by rw [Hid, List.length_set]; exact hl1.out
                  have HC : Hid (Oct (l1.set m y)) := ⟨fun z hz => by
                    rcases List.mem_or_eq_of_mem_set hz with hz | rfl
                    · exact ho1.out.1 z hz
                    · exact hyr, by rw [HL.out]; exact OC.2⟩
                  generalize l1.getD m 0 = x at hcell hy
                  have hmi : (m : Int) < (dd.b).length := by omega
                  clear hS hcur hT1 hw1 hb1 hl1 ho1 hcr hmm
                  have HO' : Hid (Own (wr.setCell ⟨g2, m, none⟩ (.int .u8 y)).drew (.slice (some ⟨g2, 0, none⟩) (dd.b).length cpi) (l1.set m y)) := HO.out.mod ((Mod.refl (fun _ => False) _).drew) (fun _ _ h => h)
                  have HT' : Hid (St w (wr.setCell ⟨g2, m, none⟩ (.int .u8 y)).drew a b c L2 L2 s s u A2 B2 C (fun k => (Value.slice (some ⟨g2, 0, none⟩) (dd.b).length cpi).ownBlock = some k)) := HT.out.quiet ((Mod.refl (fun _ => False) _).drew)
                  have HB' : Hid ((wr.setCell ⟨g2, m, none⟩ (.int .u8 y)).drew.heap[gi]? = some (.cells #[.int .i64 (dd.f), .int .i64 (dd.t), .slice (some ⟨g2, 0, none⟩) (dd.b).length cpi] 30 (0, 0))) := HB
                  clear HO HT HB
                  go_wp2
                  go_region
                  all_goals
                    go_wp2
                    go_roundw
                    case rel => exact ⟨m + 1, l1.set m y, by go_num, by omega, HL, HC, HO', HB', HT'⟩
                    case measure => simp [intOf]; omega
                · have TT := hT1.out.less (Y := fun _ => False) (fun _ h => h.elim)
                  clear hT1 hw1 hb1 hl1 ho1
                  have hE : (E != E) = false := by simp
                  go_wp2_with (fail)
                  refine (Len_any TT.la).mono ?_
                  rintro e wq ⟨rfl, hq⟩
                  replace hq := hq.symm
                  subst hq
                  go_wp2_with (fail)
                  refine (dLen_any TT.lb).mono ?_
                  rintro e wq ⟨rfl, hq⟩
                  replace hq := hq.symm
                  subst hq
                  have hLL : (((L2).length : Int) != ((L2).length : Int)) = false := by simp
                  go_wp2_with (fail)
                  go_loopw [21] (fun i wr => ∃ (m : Nat), i = .int .i64 m ∧ m ≤ 100 ∧ Hid (St w wr a b c L2 L2 s s u A2 B2 C (fun _ => False))) (fun i _ => 100 - (intOf i).toNat)
                  case atStart => exact ⟨0, rfl, by omega, TT⟩
                  case round =>
                    obtain ⟨m, rfl, hm, TM⟩ := hrel
                    clear TT
                    by_cases hlt2 : m < 100
                    · have hi4 : (m : Int) < 100 := by omega
                      have g1 : (m : Int).tdiv 10 = ((m / 10 : Nat) : Int) := by rw [Int.tdiv_eq_ediv_of_nonneg (by omega)]; omega
                      have g2 : (m : Int).tmod 10 = ((m % 10 : Nat) : Int) := by rw [Int.tmod_eq_emod_of_nonneg (by omega)]; omega
                      have H1 := Reaches_any TM.out.la ((m / 10 : Nat) : Int) ((m % 10 : Nat) : Int)
                      have H2 := fun W (hW : Da W b L2 (side s) B2) => dReaches_any hW ((m / 10 : Nat) : Int) ((m % 10 : Nat) : Int)
                      have b1 : m / 10 < 10 := by omega
                      have b2 : m % 10 < 10 := by omega
                      generalize m / 10 = K at *
                      generalize m % 10 = J at *
                      generalize rc s (K : Int) (J : Int) = r at H1 H2
                      have hr : (r != r) = false := by simp
                      go_wp2_with (fail)
                      refine H1.mono ?_
                      rintro e w9 ⟨rfl, hm9⟩
                      have T9 := TM.out.quiet hm9
                      clear TM H1 hm9
                      go_wp2_with (fail)
                      refine (H2 _ T9.lb).mono ?_
                      rintro e w10 ⟨rfl, hm10⟩
                      have T10 : Hid (St _ _ _ _ _ _ _ _ _ _ _ _ _ _) := T9.quiet hm10
                      clear T9 H2 hm10 g1 g2
                      go_wp2
                      go_roundw
                      case rel => exact ⟨m + 1, by go_num, by omega, T10⟩
                      case measure => simp [intOf]; omega
                    · have I : Hid (Iv w wr a b c) := ⟨L2, s, u, A2, B2, C, TM.out, hn2, hl2⟩
                      clear TM
                      go_wp2
                      go_roundw
                      case rel => exact ⟨k + 1, by go_num, by omega, I⟩
                      case measure => simp [intOf]; omega
          · -- Take
            have H1 := Take_any (i := da) T1.la
            have H2 := fun w' (h : Da w' b L (side s) B) => dTake_any (i := da) h hlen
            have hn2 := hnd.take da
            have hl2 := take_len hlen da
            generalize tE L da = E at H1 H2
            generalize tL L da = L2 at H1 H2 hn2 hl2
            generalize tD L da = d at H1 H2
            clear c2 c3 c4 c5 hnd hlen
            go_wp2_with (fail)
            refine H1.mono ?_
            rintro e w6 ⟨ux, A2, rfl, hL, hG, hT⟩
            have T2 := T1.takenA hL hG hT
            replace c1 := hG.1.cell c1 hgx.1
            obtain ⟨aox, cpx, ex⟩ := hT.own.shape
            subst ex
            have OX := hT.own
            have OC := hT.oct
            clear T1 H1 hL hG hT hgx
            have T3 := T2.alloc (.cells #[.int .i64 d.f, .int .i64 d.t, .slice aox d.b.length cpx] 30)
            have BX := heap_alloc_new w6 (.cells #[.int .i64 d.f, .int .i64 d.t, .slice aox d.b.length cpx] 30)
            have hA6 := (Mod.refl (fun _ => False) w6).alloc (.cells #[.int .i64 d.f, .int .i64 d.t, .slice aox d.b.length cpx] 30)
            replace OX := OX.mod hA6 (fun _ _ h => h)
            replace c1 := hA6.cell c1 (fun h => h)
            clear T2 hA6
            go_wp2_with (fail)
            generalize w6.heap.size = gx at *
            generalize w6.alloc (.cells #[.int .i64 d.f, .int .i64 d.t, .slice aox d.b.length cpx] 30) = W6 at *
            refine (H2 _ T3.lb).mono ?_
            rintro e w7 ⟨uy, B2, rfl, hL, hG, hT⟩
            replace OX := OX.mod hG.1 (fun k hk => (T3.x k (.inl (.inr hk))).2.1)
            replace BX := hG.1.obj BX ((T3.x gx (.inr rfl)).2.1)
            have T4 := T3.onB hL hG
            have OY := hT.own
            obtain ⟨aoy, cpy, ey⟩ := hT.own.shape
            subst ey
            clear T3 hL hG hT H2 c1
            have x0 : w7.cell? ⟨gx, 0, none⟩ = some (.int .i64 d.f) := by simp [World.cell?, BX]
            have x1 : w7.cell? ⟨gx, 1, none⟩ = some (.int .i64 d.t) := by simp [World.cell?, BX]
            have x2 : w7.cell? ⟨gx, 2, none⟩ = some (.slice aox d.b.length cpx) := by simp [World.cell?, BX]
            have lx := lt_of_block BX
            have hne : ¬ w7.heap.size = gx := by omega
            have hA7 := (Mod.refl (fun _ => False) w7).alloc (.cells #[.int .i64 d.f, .int .i64 d.t, .slice aoy d.b.length cpy] 30)
            replace OX := OX.mod hA7 (fun _ _ h => h)
            replace BX := hA7.obj BX (fun h => h)
            have H := Same_self (d := d) (OX.sl OC.1) ((OY.mod hA7 (fun _ _ h => h)).sl OC.1)
            have TX := (T4.quiet hA7).less (Y := fun k => (Value.slice aox d.b.length cpx).ownBlock = some k) (fun _ h => .inl (.inr h))
            clear hA7 T4 OY
            go_wp2_with (fail)
            refine H.mono ?_
            rintro e w8 ⟨rfl, hm8⟩
            replace TX := TX.quiet hm8
            replace OX := OX.mod hm8 (fun _ _ h => h)
            replace BX := hm8.obj BX (fun h => h)
            clear H hm8 x0 x1 x2 lx hne
            go_wp2_with (fail)
            go_loopw [20] (fun i wr => ∃ (m : Nat) (l1 : List Int), i = .int .i64 m ∧ m ≤ (d.b).length ∧ Hid (l1.length = (d.b).length) ∧ Hid (Oct l1) ∧ Hid (Own wr (.slice aox (d.b).length cpx) l1) ∧ Hid (wr.heap[gx]? = some (.cells #[.int .i64 (d.f), .int .i64 (d.t), .slice aox (d.b).length cpx] 30 (0, 0))) ∧ Hid (St w wr a b c L2 L2 s s u A2 B2 C (fun k => (Value.slice aox (d.b).length cpx).ownBlock = some k))) (fun i _ => (d.b).length - (intOf i).toNat)
            case atStart => exact ⟨0, d.b, rfl, by omega, rfl, OC, OX, BX, TX⟩
            case round =>
              obtain ⟨m, l1, rfl, hm, hl1, ho1, hw1, hb1, hT1⟩ := hrel
              clear OX BX TX
              have z2 : wr.cell? ⟨gx, 2, none⟩ = some (.slice aox (d.b).length cpx) := by simp [World.cell?, hb1.out]
              have hlm : (d.b).length ≤ 9223372036854775807 := by have := OC.2; omega
              by_cases hlt3 : m < (d.b).length
              · obtain ⟨g2, cp2, e2, _⟩ := hw1.out.form (by rw [hl1.out]; omega)
                simp only [Value.slice.injEq] at e2
                obtain ⟨rfl, _, rfl⟩ := e2
                have hmm : m < l1.length := by rw [hl1.out]; exact hlt3
                have hcr := ho1.out.1 (l1.getD m 0) (by simp [hmm])
                have hcell : wr.cell? ⟨g2, m, none⟩ = some (.int .u8 (l1.getD m 0)) := by
                  obtain ⟨_, _, e3, _, _, _, h4⟩ := (hw1.out.sl ho1.out.1).form
                  obtain ⟨_, _, e4, h5⟩ := h4 (by intro e; rw [e] at hmm; simp at hmm)
                  rw [Value.slice.injEq] at e3
                  obtain ⟨e3, _, _⟩ := e3
                  rw [← e3] at e4
                  cases e4
                  have := h5 m hmm
                  rwa [Nat.zero_add] at this
                obtain ⟨cur, hcur⟩ := hw1.out.kind (g := g2) rfl
                have hfz : wr.frozen? ⟨g2, m, none⟩ = false := by simp [World.frozen?, hcur]
                have hgne : ¬ gx = g2 := fun e => by
                  have h1 := hb1.out
                  rw [e, hcur] at h1
                  simp at h1
                obtain ⟨y, hy⟩ : ∃ y, (l1.getD m 0 + 1) % 256 = y := ⟨_, rfl⟩
                have hyr : 0 ≤ y ∧ y ≤ 255 := by omega
                have hS := (Mod.refl (fun q => q = g2) wr).setCell ⟨g2, m, none⟩ (.int .u8 y) (.inl rfl)
                have HO : Hid (Own (wr.setCell ⟨g2, m, none⟩ (.int .u8 y)) (.slice (some ⟨g2, 0, none⟩) (d.b).length cpx) (l1.set m y)) := hw1.out.set (g := g2) rfl hmm y
                have HB : Hid ((wr.setCell ⟨g2, m, none⟩ (.int .u8 y)).heap[gx]? = some (.cells #[.int .i64 (d.f), .int .i64 (d.t), .slice (some ⟨g2, 0, none⟩) (d.b).length cpx] 30 (0, 0))) := hS.obj hb1.out hgne
                have HT : Hid (St w (wr.setCell ⟨g2, m, none⟩ (.int .u8 y)) a b c L2 L2 s s u A2 B2 C (fun k => (Value.slice (some ⟨g2, 0, none⟩) (d.b).length cpx).ownBlock = some k)) := hT1.out.onX hS (fun k e => by rw [e]; rfl)
                have HL : Hid ((l1.set m y).length = (d.b).length) := by rw [Hid, List.length_set]; exact hl1.out
                have HC : Hid (Oct (l1.set m y)) := ⟨fun z hz => by
                  rcases List.mem_or_eq_of_mem_set hz with hz | rfl
                  · exact ho1.out.1 z hz
                  · exact hyr, by rw [HL.out]; exact OC.2⟩
                generalize l1.getD m 0 = x at hcell hy
                have hmi : (m : Int) < (d.b).length := by omega
                clear hS hcur hT1 hw1 hb1 hl1 ho1 hcr hmm
                have HO' : Hid (Own (wr.setCell ⟨g2, m, none⟩ (.int .u8 y)).drew (.slice (some ⟨g2, 0, none⟩) (d.b).length cpx) (l1.set m y)) := HO.out.mod ((Mod.refl (fun _ => False) _).drew) (fun _ _ h => h)
                have HT' : Hid (St w (wr.setCell ⟨g2, m, none⟩ (.int .u8 y)).drew a b c L2 L2 s s u A2 B2 C (fun k => (Value.slice (some ⟨g2, 0, none⟩) (d.b).length cpx).ownBlock = some k)) := HT.out.quiet ((Mod.refl (fun _ => False) _).drew)
                have HB' : Hid ((wr.setCell ⟨g2, m, none⟩ (.int .u8 y)).drew.heap[gx]? = some (.cells #[.int .i64 (d.f), .int .i64 (d.t), .slice (some ⟨g2, 0, none⟩) (d.b).length cpx] 30 (0, 0))) := HB
                clear HO HT HB
                go_wp2
                go_region
                all_goals
                  go_wp2
                  go_roundw
                  case rel => exact ⟨m + 1, l1.set m y, by go_num, by omega, HL, HC, HO', HB', HT'⟩
                  case measure => simp [intOf]; omega
              · have TT := hT1.out.less (Y := fun _ => False) (fun _ h => h.elim)
                clear hT1 hw1 hb1 hl1 ho1
                have hE : (E != E) = false := by simp
                go_wp2_with (fail)
                refine (Len_any TT.la).mono ?_
                rintro e wq ⟨rfl, hq⟩
                replace hq := hq.symm
                subst hq
                go_wp2_with (fail)
                refine (dLen_any TT.lb).mono ?_
                rintro e wq ⟨rfl, hq⟩
                replace hq := hq.symm
                subst hq
                have hLL : (((L2).length : Int) != ((L2).length : Int)) = false := by simp
                go_wp2_with (fail)
                go_loopw [21] (fun i wr => ∃ (m : Nat), i = .int .i64 m ∧ m ≤ 100 ∧ Hid (St w wr a b c L2 L2 s s u A2 B2 C (fun _ => False))) (fun i _ => 100 - (intOf i).toNat)
                case atStart => exact ⟨0, rfl, by omega, TT⟩
                case round =>
                  obtain ⟨m, rfl, hm, TM⟩ := hrel
                  clear TT
                  by_cases hlt2 : m < 100
                  · have hi4 : (m : Int) < 100 := by omega
                    have g1 : (m : Int).tdiv 10 = ((m / 10 : Nat) : Int) := by rw [Int.tdiv_eq_ediv_of_nonneg (by omega)]; omega
                    have g2 : (m : Int).tmod 10 = ((m % 10 : Nat) : Int) := by rw [Int.tmod_eq_emod_of_nonneg (by omega)]; omega
                    have H1 := Reaches_any TM.out.la ((m / 10 : Nat) : Int) ((m % 10 : Nat) : Int)
                    have H2 := fun W (hW : Da W b L2 (side s) B2) => dReaches_any hW ((m / 10 : Nat) : Int) ((m % 10 : Nat) : Int)
                    have b1 : m / 10 < 10 := by omega
                    have b2 : m % 10 < 10 := by omega
                    generalize m / 10 = K at *
                    generalize m % 10 = J at *
                    generalize rc s (K : Int) (J : Int) = r at H1 H2
                    have hr : (r != r) = false := by simp
                    go_wp2_with (fail)
                    refine H1.mono ?_
                    rintro e w9 ⟨rfl, hm9⟩
                    have T9 := TM.out.quiet hm9
                    clear TM H1 hm9
                    go_wp2_with (fail)
                    refine (H2 _ T9.lb).mono ?_
                    rintro e w10 ⟨rfl, hm10⟩
                    have T10 : Hid (St _ _ _ _ _ _ _ _ _ _ _ _ _ _) := T9.quiet hm10
                    clear T9 H2 hm10 g1 g2
                    go_wp2
                    go_roundw
                    case rel => exact ⟨m + 1, by go_num, by omega, T10⟩
                    case measure => simp [intOf]; omega
                  · have I : Hid (Iv w wr a b c) := ⟨L2, s, u, A2, B2, C, TM.out, hn2, hl2⟩
                    clear TM
                    go_wp2
                    go_roundw
                    case rel => exact ⟨k + 1, by go_num, by omega, I⟩
                    case measure => simp [intOf]; omega
          · -- Double
            have HA := fun w' (h : La w' a L s A) => Double_any (i := da) h
            have HD := fun w' (h : Da w' b L (side s) B) => dDouble_any (i := da) h
            rw [(dbl_same hnd da).1, (dbl_same hnd da).2] at HD
            have hn2 := hnd.dbl da
            have hl2 := dbl_len hlen da
            generalize dE L da = E at HA HD
            generalize dL L da = L2 at HA HD hn2 hl2
            clear c2 c3 c4 c5
            go_wp2_with (fail)
            replace T1 := T1.quiet ((Mod.refl (fun _ => False) W).drew)
            go_region_held3 (fun y => y.cell? ⟨g, 1, none⟩ = some (.int .i64 da)) (first | exact c1 | go_keep)
              (first | (go_at_call 16; refine (HA _ T1.la).mono ?_; rintro e w6 ⟨rfl, A2, hL, hG⟩; replace c1 := hG.1.cell c1 (hgx.1); have T2 := T1.onA hL hG; clear hL hG) |
                (go_at_call 17; refine (HD _ T2.lb).mono ?_; rintro e w6 ⟨rfl, B2, hL, hG⟩; replace c1 := hG.1.cell c1 (hgx.2.1); have T3 := T2.onB hL hG; clear hL hG))
            have TT := T3.less (Y := fun _ => False) (fun _ h => h.elim)
            clear T1 T2 T3 HA HD hgx c1 hnd hlen
            have hE : (E != E) = false := by simp
            go_wp2_with (fail)
            refine (Len_any TT.la).mono ?_
            rintro e wq ⟨rfl, hq⟩
            replace hq := hq.symm
            subst hq
            go_wp2_with (fail)
            refine (dLen_any TT.lb).mono ?_
            rintro e wq ⟨rfl, hq⟩
            replace hq := hq.symm
            subst hq
            have hLL : (((L2).length : Int) != ((L2).length : Int)) = false := by simp
            go_wp2_with (fail)
            go_loopw [21] (fun i wr => ∃ (m : Nat), i = .int .i64 m ∧ m ≤ 100 ∧ Hid (St w wr a b c L2 L2 s s u A2 B2 C (fun _ => False))) (fun i _ => 100 - (intOf i).toNat)
            case atStart => exact ⟨0, rfl, by omega, TT⟩
            case round =>
              obtain ⟨m, rfl, hm, TM⟩ := hrel
              clear TT
              by_cases hlt2 : m < 100
              · have hi4 : (m : Int) < 100 := by omega
                have g1 : (m : Int).tdiv 10 = ((m / 10 : Nat) : Int) := by rw [Int.tdiv_eq_ediv_of_nonneg (by omega)]; omega
                have g2 : (m : Int).tmod 10 = ((m % 10 : Nat) : Int) := by rw [Int.tmod_eq_emod_of_nonneg (by omega)]; omega
                have H1 := Reaches_any TM.out.la ((m / 10 : Nat) : Int) ((m % 10 : Nat) : Int)
                have H2 := fun W (hW : Da W b L2 (side s) B2) => dReaches_any hW ((m / 10 : Nat) : Int) ((m % 10 : Nat) : Int)
                have b1 : m / 10 < 10 := by omega
                have b2 : m % 10 < 10 := by omega
                generalize m / 10 = K at *
                generalize m % 10 = J at *
                generalize rc s (K : Int) (J : Int) = r at H1 H2
                have hr : (r != r) = false := by simp
                go_wp2_with (fail)
                refine H1.mono ?_
                rintro e w9 ⟨rfl, hm9⟩
                have T9 := TM.out.quiet hm9
                clear TM H1 hm9
                go_wp2_with (fail)
                refine (H2 _ T9.lb).mono ?_
                rintro e w10 ⟨rfl, hm10⟩
                have T10 : Hid (St _ _ _ _ _ _ _ _ _ _ _ _ _ _) := T9.quiet hm10
                clear T9 H2 hm10 g1 g2
                go_wp2
                go_roundw
                case rel => exact ⟨m + 1, by go_num, by omega, T10⟩
                case measure => simp [intOf]; omega
              · have I : Hid (Iv w wr a b c) := ⟨L2, s, u, A2, B2, C, TM.out, hn2, hl2⟩
                clear TM
                go_wp2
                go_roundw
                case rel => exact ⟨k + 1, by go_num, by omega, I⟩
                case measure => simp [intOf]; omega
          · -- Flip
            have HA := fun w' (h : La w' a L s A) => Flip_any (i := da) (t := db) h ib.2
            have HD := fun w' (h : Da w' b L (side s) B) => dFlip_any (i := da) (t := db) h ib.2
            have hn2 := hnd.flip da db
            have hl2 := flip_len hlen da db
            generalize fE L da db = E at HA HD
            generalize fL L da db = L2 at HA HD hn2 hl2
            clear c3 c4 c5
            go_wp2_with (fail)
            replace T1 := T1.quiet ((Mod.refl (fun _ => False) W).drew)
            go_region_held3 (fun y => y.cell? ⟨g, 1, none⟩ = some (.int .i64 da) ∧ y.cell? ⟨g, 2, none⟩ = some (.int .i64 db)) (first | exact ⟨c1, c2⟩ | go_keep)
              (first | (go_at_call 18; refine (HA _ T1.la).mono ?_; rintro e w6 ⟨rfl, hL, hG⟩; replace c1 := hG.cell c1 (hgx.1); replace c2 := hG.cell c2 (hgx.1); have T2 := T1.onA hL (Gone.same hG); clear hL hG) |
                (go_at_call 19; refine (HD _ T2.lb).mono ?_; rintro e w6 ⟨rfl, hL, hG⟩; replace c1 := hG.cell c1 (hgx.2.1); replace c2 := hG.cell c2 (hgx.2.1); have T3 := T2.onB hL (Gone.same hG); clear hL hG))
            have TT := T3.less (Y := fun _ => False) (fun _ h => h.elim)
            clear T1 T2 T3 HA HD hgx c1 c2 hnd hlen
            have hE : (E != E) = false := by simp
            go_wp2_with (fail)
            refine (Len_any TT.la).mono ?_
            rintro e wq ⟨rfl, hq⟩
            replace hq := hq.symm
            subst hq
            go_wp2_with (fail)
            refine (dLen_any TT.lb).mono ?_
            rintro e wq ⟨rfl, hq⟩
            replace hq := hq.symm
            subst hq
            have hLL : (((L2).length : Int) != ((L2).length : Int)) = false := by simp
            go_wp2_with (fail)
            go_loopw [21] (fun i wr => ∃ (m : Nat), i = .int .i64 m ∧ m ≤ 100 ∧ Hid (St w wr a b c L2 L2 s s u A B C (fun _ => False))) (fun i _ => 100 - (intOf i).toNat)
            case atStart => exact ⟨0, rfl, by omega, TT⟩
            case round =>
              obtain ⟨m, rfl, hm, TM⟩ := hrel
              clear TT
              by_cases hlt2 : m < 100
              · have hi4 : (m : Int) < 100 := by omega
                have g1 : (m : Int).tdiv 10 = ((m / 10 : Nat) : Int) := by rw [Int.tdiv_eq_ediv_of_nonneg (by omega)]; omega
                have g2 : (m : Int).tmod 10 = ((m % 10 : Nat) : Int) := by rw [Int.tmod_eq_emod_of_nonneg (by omega)]; omega
                have H1 := Reaches_any TM.out.la ((m / 10 : Nat) : Int) ((m % 10 : Nat) : Int)
                have H2 := fun W (hW : Da W b L2 (side s) B) => dReaches_any hW ((m / 10 : Nat) : Int) ((m % 10 : Nat) : Int)
                have b1 : m / 10 < 10 := by omega
                have b2 : m % 10 < 10 := by omega
                generalize m / 10 = K at *
                generalize m % 10 = J at *
                generalize rc s (K : Int) (J : Int) = r at H1 H2
                have hr : (r != r) = false := by simp
                go_wp2_with (fail)
                refine H1.mono ?_
                rintro e w9 ⟨rfl, hm9⟩
                have T9 := TM.out.quiet hm9
                clear TM H1 hm9
                go_wp2_with (fail)
                refine (H2 _ T9.lb).mono ?_
                rintro e w10 ⟨rfl, hm10⟩
                have T10 : Hid (St _ _ _ _ _ _ _ _ _ _ _ _ _ _) := T9.quiet hm10
                clear T9 H2 hm10 g1 g2
                go_wp2
                go_roundw
                case rel => exact ⟨m + 1, by go_num, by omega, T10⟩
                case measure => simp [intOf]; omega
              · have I : Hid (Iv w wr a b c) := ⟨L2, s, u, A, B, C, TM.out, hn2, hl2⟩
                clear TM
                go_wp2
                go_roundw
                case rel => exact ⟨k + 1, by go_num, by omega, I⟩
                case measure => simp [intOf]; omega
          · -- Cut
            have HA := fun w' (h : La w' a L s A) => Cut_any h da
            have HD := fun w' (h : Da w' b L (side s) B) => dCut_any h da
            have hn2 := hnd
            have hl2 := hlen
            clear c2 c3 c4 c5
            go_wp2_with (fail)
            replace T1 := T1.quiet ((Mod.refl (fun _ => False) W).drew)
            go_region_held3 (fun y => y.cell? ⟨g, 1, none⟩ = some (.int .i64 da)) (first | exact c1 | go_keep)
              (first | (go_at_call 20; refine (HA _ T1.la).mono ?_; rintro e w6 ⟨rfl, hL, hG⟩; replace c1 := hG.cell c1 (hgx.1); have T2 := T1.onA hL (Gone.same hG); clear hL hG) |
                (go_at_call 21; refine (HD _ T2.lb).mono ?_; rintro e w6 ⟨rfl, hL, hG⟩; replace c1 := hG.cell c1 (hgx.2.1); have T3 := T2.onB hL (Gone.same hG); clear hL hG))
            clear T1 T2 HA HD hgx c1 hnd hlen
            go_wp2_with (fail)
            refine (Cut_any T3.lc (k : Int)).mono ?_
            rintro e w7 ⟨rfl, hL, hG⟩
            have TT := (T3.onC hL hG).less (Y := fun _ => False) (fun _ h => h.elim)
            clear T3 hL hG
            obtain ⟨E, _⟩ : ∃ E : Int, E = 0 := ⟨_, rfl⟩
            have hE : (E != E) = false := by simp
            go_wp2_with (fail)
            refine (Len_any TT.la).mono ?_
            rintro e wq ⟨rfl, hq⟩
            replace hq := hq.symm
            subst hq
            go_wp2_with (fail)
            refine (dLen_any TT.lb).mono ?_
            rintro e wq ⟨rfl, hq⟩
            replace hq := hq.symm
            subst hq
            have hLL : (((L).length : Int) != ((L).length : Int)) = false := by simp
            go_wp2_with (fail)
            go_loopw [21] (fun i wr => ∃ (m : Nat), i = .int .i64 m ∧ m ≤ 100 ∧ Hid (St w wr a b c L L da da (k : Int) A B C (fun _ => False))) (fun i _ => 100 - (intOf i).toNat)
            case atStart => exact ⟨0, rfl, by omega, TT⟩
            case round =>
              obtain ⟨m, rfl, hm, TM⟩ := hrel
              clear TT
              by_cases hlt2 : m < 100
              · have hi4 : (m : Int) < 100 := by omega
                have g1 : (m : Int).tdiv 10 = ((m / 10 : Nat) : Int) := by rw [Int.tdiv_eq_ediv_of_nonneg (by omega)]; omega
                have g2 : (m : Int).tmod 10 = ((m % 10 : Nat) : Int) := by rw [Int.tmod_eq_emod_of_nonneg (by omega)]; omega
                have H1 := Reaches_any TM.out.la ((m / 10 : Nat) : Int) ((m % 10 : Nat) : Int)
                have H2 := fun W (hW : Da W b L (side da) B) => dReaches_any hW ((m / 10 : Nat) : Int) ((m % 10 : Nat) : Int)
                have b1 : m / 10 < 10 := by omega
                have b2 : m % 10 < 10 := by omega
                generalize m / 10 = K at *
                generalize m % 10 = J at *
                generalize rc da (K : Int) (J : Int) = r at H1 H2
                have hr : (r != r) = false := by simp
                go_wp2_with (fail)
                refine H1.mono ?_
                rintro e w9 ⟨rfl, hm9⟩
                have T9 := TM.out.quiet hm9
                clear TM H1 hm9
                go_wp2_with (fail)
                refine (H2 _ T9.lb).mono ?_
                rintro e w10 ⟨rfl, hm10⟩
                have T10 : Hid (St _ _ _ _ _ _ _ _ _ _ _ _ _ _) := T9.quiet hm10
                clear T9 H2 hm10 g1 g2
                go_wp2
                go_roundw
                case rel => exact ⟨m + 1, by go_num, by omega, T10⟩
                case measure => simp [intOf]; omega
              · have I : Hid (Iv w wr a b c) := ⟨L, da, (k : Int), A, B, C, TM.out, hn2, hl2⟩
                clear TM
                go_wp2
                go_roundw
                case rel => exact ⟨k + 1, by go_num, by omega, I⟩
                case measure => simp [intOf]; omega
        · go_wp2_with (fail)
          clear hlt hk hdl hd
          go_loopw [22] (fun i wr => ∃ (m : Nat), i = .int .i64 m ∧ m ≤ 60 ∧ Hid (Iv w wr a b c)) (fun i _ => 60 - (intOf i).toNat)
          case atStart => exact ⟨0, rfl, by omega, IK⟩
          case round =>
            obtain ⟨m, rfl, hm, IM⟩ := hrel
            clear IK
            by_cases hlt : m < 60
            · have hmi : (m : Int) < 60 := by omega
              obtain ⟨L, s, u, A, B, C, T, hnd, hlen⟩ := IM.out
              clear IM
              by_cases hl0 : 0 < L.length
              · have hli : (0 : Int) < L.length := by omega
                have hne : ¬ ((0 : Int) < 0 ∨ (L.length : Int) ≤ 0) := by omega
                have hTE : tE L 0 = 0 := by unfold tE; rw [if_neg hne]
                have H1 := Take_any (i := 0) T.la
                have H2 := fun w' (h : Da w' b L (side s) B) => dTake_any (i := 0) h hlen
                rw [hTE] at H1 H2
                have hn2 := hnd.take 0
                have hl2 := take_len hlen 0
                generalize tL L 0 = L2 at H1 H2 hn2 hl2
                generalize tD L 0 = d at H1 H2
                clear hTE hne hnd hlen
                go_wp2_with (fail)
                refine (dLen_any T.lb).mono ?_
                rintro e wq ⟨rfl, hq⟩
                replace hq := hq.symm
                subst hq
                go_wp2_with (fail)
                refine H1.mono ?_
                rintro e w6 ⟨ux, A2, rfl, hL, hG, hT⟩
                have T2 := T.takenA hL hG hT
                obtain ⟨aox, cpx, ex⟩ := hT.own.shape
                subst ex
                have OX := hT.own
                have OC := hT.oct
                clear T H1 hL hG hT
                have T3 := T2.alloc (.cells #[.int .i64 d.f, .int .i64 d.t, .slice aox d.b.length cpx] 30)
                have BX := heap_alloc_new w6 (.cells #[.int .i64 d.f, .int .i64 d.t, .slice aox d.b.length cpx] 30)
                replace OX := OX.mod ((Mod.refl (fun _ => False) w6).alloc (.cells #[.int .i64 d.f, .int .i64 d.t, .slice aox d.b.length cpx] 30)) (fun _ _ h => h)
                clear T2
                go_wp2_with (fail)
                generalize w6.heap.size = gx at *
                generalize w6.alloc (.cells #[.int .i64 d.f, .int .i64 d.t, .slice aox d.b.length cpx] 30) = W6 at *
                refine (H2 _ T3.lb).mono ?_
                rintro e w7 ⟨uy, B2, rfl, hL, hG, hT⟩
                replace OX := OX.mod hG.1 (fun k hk => (T3.x k (.inl (.inr hk))).2.1)
                replace BX := hG.1.obj BX ((T3.x gx (.inr rfl)).2.1)
                have T4 := T3.onB hL hG
                have OY := hT.own
                obtain ⟨aoy, cpy, ey⟩ := hT.own.shape
                subst ey
                clear T3 hL hG hT H2
                have x0 : w7.cell? ⟨gx, 0, none⟩ = some (.int .i64 d.f) := by simp [World.cell?, BX]
                have x1 : w7.cell? ⟨gx, 1, none⟩ = some (.int .i64 d.t) := by simp [World.cell?, BX]
                have x2 : w7.cell? ⟨gx, 2, none⟩ = some (.slice aox d.b.length cpx) := by simp [World.cell?, BX]
                have lx := lt_of_block BX
                have hne : ¬ w7.heap.size = gx := by omega
                clear BX
                have hA7 := (Mod.refl (fun _ => False) w7).alloc (.cells #[.int .i64 d.f, .int .i64 d.t, .slice aoy d.b.length cpy] 30)
                have H := Same_self (d := d) ((OX.mod hA7 (fun _ _ h => h)).sl OC.1) ((OY.mod hA7 (fun _ _ h => h)).sl OC.1)
                have TT := (T4.quiet hA7).less (Y := fun _ => False) (fun _ h => h.elim)
                clear hA7 T4 OX OY OC
                go_wp2_with (fail)
                refine H.mono ?_
                rintro e w8 ⟨rfl, hm8⟩
                have I : Hid (Iv w w8 a b c) := ⟨L2, s, u, A2, B2, C, TT.quiet hm8, hn2, hl2⟩
                clear TT H hm8 hn2 hl2 x0 x1 x2
                go_wp2
                go_roundw
                case rel => exact ⟨m + 1, by go_num, by omega, I⟩
                case measure => simp [intOf]; omega
              · have hl1 : ¬ (0 : Int) < L.length := by omega
                have hl00 : L.length = 0 := by omega
                have HL := dLen_any T.lb
                rw [hl00] at HL
                clear hl1 hl00 hl0
                go_wp2_with (fail)
                refine HL.mono ?_
                rintro e wq ⟨rfl, hq⟩
                replace hq := hq.symm
                subst hq
                go_wp2_with (fail)
                refine (works _).mono ?_
                rintro e w9 ⟨rfl, hm9⟩
                go_wp2
                go_ret
                exact ⟨rfl, T.mod.and hm9⟩
            · obtain rfl : m = 60 := by omega
              obtain ⟨L, s, u, A, B, C, T, hnd, hlen⟩ := IM.out
              clear IM
              go_wp2_with (fail)
              refine (works _).mono ?_
              rintro e w9 ⟨rfl, hm9⟩
              go_wp2
              go_ret
              exact ⟨rfl, T.mod.and hm9⟩
namespace laneDeeds
open Go.ChangeShapes Go.WideShapes Go.ChangeAt Go.RowKit
set_option maxRecDepth 100000 in
theorem lifted (os : Os) (started : os.Started) (H : Type) (enc : TypeId × Value → H) :
    ReturnsInHanded {} Try.checked os 3 .any (Rows.laneDeedsSpec.pre6 enc Try.prog Try.f3 Rows.laneDeedsRow.domain false) (Rows.laneDeedsSpec.post enc Try.prog Try.f3 false true false false) := by
  refine returnsInHanded_of_change_sized (C := Try.checked) own started (by kernel_rfl) Try.func3
    (ChangeSpec.witness6 (enc := enc) (C := Try.checked) false ⟨#[], #[.slice none 0 0, .int .i64 0], []⟩ 8 (by kernel_rfl) (by kernel_rfl) (by kernel_rfl) (by kernel_rfl)) ?_
  intro W base args ds gs before hval0 hW hcnd hsz0 _
  have hval : ∀ (j : Nat) t v, Try.f3.params[j]? = some t → args[j]? = some v → Value.okWide Try.prog W .any base t v := hval0
  have hsz : (DataW.weightsEach Try.prog (Try.f3.params.toList ++ Rows.laneDeedsSpec.plain.varTypes Try.prog) (ds ++ gs)).all (· ≤ reachBytes) = true := hsz0
  have hW' := hW
  obtain ⟨p, q, hA0, hV, rfl, hfz, hnd⟩ := hW
  have hA : DataW.TrodAll enc Try.prog W 0 (fun _ => true) true Try.f3.params.toList args.toList ds p := hA0
  rw [Try.params3] at hA hval hsz
  obtain ⟨v0, vs0, d0, ds0, p0, q0, hargs, rfl, rfl, h0, r0⟩ := trodAll_cons hA
  obtain ⟨v1, vs1, d1, ds1, p1, q1, rfl, rfl, rfl, h1, r1⟩ := trodAll_cons r0
  obtain ⟨rfl, rfl, rfl⟩ := trodAll_nil r1
  obtain rfl : args = #[v0, v1] := by cases args; simp_all
  obtain ⟨rfl, rfl⟩ := trodVars_none hV
  have k0 := h0
  have lt0 : ∀ x ∈ p0, x.block < W.heap.size := by obtain ⟨m, hm⟩ := k0; exact DataW.trod_lt m _ _ _ hm
  obtain ⟨dl0, hd0⟩ := open_deeds h0 (okWide_slice Try.underlying22 (hval 0 22 v0 rfl rfl)) (fun n hn => by have := List.all_eq_true.1 hsz n (DataW.weights_mem_each (j := 0) (t := 22) rfl rfl n hn); simpa using this)
  obtain ⟨a1, rfl, rfl, rfl, w1⟩ := open_int Try.underlying3 (hval 1 3 v1 rfl rfl) h1
  clear hA0 hval0
  refine (deeds_walk v0 dl0 a1 W hd0 (i64_of_wf w1)).mono fun e W' ⟨he, hm⟩ => ?_
  subst he
  have bel : Below W.heap.size W W' := hm.below _ (Nat.le_refl _) (fun _ h => h.elim)
  exact ⟨_, rfl, _, _, _, [], _, [], hW', trodAll_mk1 (shut_bool Try.underlying4 _), (trodAll_cons_mk (Below.trod laidOut (by kernel_rfl) (of_decide_eq_true (by kernel_rfl)) k0 bel lt0) (trodAll_cons_mk (shut_int Try.underlying3 w1) trodAll_mk0)), rfl, bel.frame _, fun h => by cases h⟩

theorem over : Rows.laneDeedsRow.holds Try.pinned (OpenSpec.ofChange Rows.laneDeedsSpec) :=
  OpenClaim.holds_of_wide 3 Try.f3 rfl rfl rfl rfl rfl rfl rfl ⟨rfl, rfl, rfl, rfl, rfl⟩ rfl rfl rfl rfl rfl (by kernel_rfl) Try.func3 (by kernel_rfl)
    (of_decide_eq_true (by kernel_rfl)) (by unfold Func.isWrapper; first | (rw [if_pos (by decide +kernel)]; kernel_rfl) | (rw [if_neg (by decide +kernel)]; exact ⟨rfl, rfl⟩))
    (fun os started H enc _ => lifted os started H enc)
end laneDeeds
theorem laneDeeds_holds : Rows.LaneDeedsSaid := laneDeeds.over
end Go.Proofs.Ythmglemjlinlgaa
