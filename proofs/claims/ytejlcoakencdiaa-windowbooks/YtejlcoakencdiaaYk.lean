/- WindowBooks: what a window tells is what a book of it says; of every list of ints, as the statement says it. No conditions. -/
import Derived.Test.YtejlcoakencdiaaYj
namespace Go.Proofs.Ytejlcoakencdiaa
open Go.RowKit Go.Maps
set_option maxRecDepth 100000 in
set_option maxHeartbeats 40000000 in
theorem books_walk (v0 : Value) (l : List Int) (w : World) (hl : Si w v0 l) : Calls Try.prog 5 #[v0] w fun e w' => e = .returned (.bool true) ∧ Mod (fun _ => False) w w' := by
  have HL : Hid (Si w v0 l) := hl
  obtain ⟨av, cv, rfl, hlc, hcm, hcn, hfm⟩ := hl.form
  clear hfm hcn hl
  go_enter Try.func5, Try.ntmps5
  go_wp2_with (fail)
  refine (awake_any w).mono ?_
  rintro e w1 ⟨rfl, hm1⟩
  go_wp2_with (fail)
  refine (wNew w1).mono ?_
  rintro e w2 ⟨p, X2, rfl, hW2, hX2, hm2⟩
  have HB0 : Hid (Bo w (w2.alloc (.cells #[.bool false, .bool false, .bool false, .bool false, .bool false, .bool false, .bool false, .bool false, .bool false, .bool false, .bool false, .bool false, .bool false, .bool false, .bool false, .bool false, .bool false, .bool false, .bool false, .bool false, .bool false, .bool false, .bool false, .bool false, .bool false, .bool false, .bool false, .bool false, .bool false, .bool false, .bool false, .bool false, .bool false, .bool false, .bool false, .bool false, .bool false, .bool false, .bool false, .bool false, .bool false, .bool false, .bool false, .bool false, .bool false, .bool false, .bool false, .bool false, .bool false, .bool false, .bool false, .bool false, .bool false, .bool false, .bool false, .bool false, .bool false, .bool false, .bool false, .bool false, .bool false, .bool false] 59)) p w2.heap.size (fun _ => none) 0 0 0) := by
    have hA := (Mod.refl (fun _ => False) w2).alloc (.cells (bcl fun _ => none) 59)
    rw [show (#[.bool false, .bool false, .bool false, .bool false, .bool false, .bool false, .bool false, .bool false, .bool false, .bool false, .bool false, .bool false, .bool false, .bool false, .bool false, .bool false, .bool false, .bool false, .bool false, .bool false, .bool false, .bool false, .bool false, .bool false, .bool false, .bool false, .bool false, .bool false, .bool false, .bool false, .bool false, .bool false, .bool false, .bool false, .bool false, .bool false, .bool false, .bool false, .bool false, .bool false, .bool false, .bool false, .bool false, .bool false, .bool false, .bool false, .bool false, .bool false, .bool false, .bool false, .bool false, .bool false, .bool false, .bool false, .bool false, .bool false, .bool false, .bool false, .bool false, .bool false, .bool false, .bool false] : Array Value) = bcl fun _ => none from rfl]
    refine ⟨⟨X2, hW2.keep hA, fun i hi => ?_, fun hi => ?_⟩, Bk.new w2 _ _, ?_, (hm1.and hm2).and hA, by omega, by simp⟩
    · have := hX2 i hi; have := hm1.size; omega
    · have := hW2.mem.lt _ hi; omega
    · have := hm1.size; have := hm2.size; omega
  clear hm1 hm2 hX2 hW2
  go_wp2_with (fail)
  have HC : Hid (∃ b off, l ≠ [] → av = some ⟨b, off, none⟩ ∧ ∀ wx, Mod (fun _ => False) w wx → ∀ i, i < l.length → wx.cell? ⟨b, off + i, none⟩ = some (.int .i64 (l.getD i 0))) := by
    obtain ⟨av', cv', e, _, _, _, hfm⟩ := HL.out.form
    cases e
    by_cases hne : l = []
    · exact ⟨0, 0, fun h => absurd hne h⟩
    · obtain ⟨b, off, rfl, hc⟩ := hfm hne
      exact ⟨b, off, fun _ => ⟨rfl, fun wx hm i hi => hm.cell (hc i hi) (fun h => h)⟩⟩
  have HI : Hid (∀ i, i < l.length → I64 (l.getD i 0)) := fun i hi => HL.out.rng _ (by rw [List.getD_eq_getElem?_getD, List.getElem?_eq_getElem hi]; exact List.getElem_mem hi)
  go_loopw [5, 6, 7] (fun t r i wr => ∃ (j : Nat) (J : Int → Option Dt) (a h : Int), t = .int .i64 h ∧ r = .int .i64 a ∧ i = .int .i64 (j : Int) ∧ j ≤ l.length ∧ j ≤ 100 ∧ Bo w wr p w2.heap.size J a h j) (fun _ _ i _ => l.length - (intOf i).toNat)
  case atStart => exact ⟨0, _, _, _, rfl, rfl, rfl, Nat.zero_le _, by decide, HB0.out⟩
  case round =>
    obtain ⟨j, J, a, h, rfl, rfl, rfl, hj, hj100, hBo⟩ := hrel
    obtain ⟨bk, ebk⟩ : ∃ bk, bk = w2.heap.size := ⟨_, rfl⟩
    rw [← ebk] at hBo ⊢
    have HBK : Hid (bk = w2.heap.size) := ebk
    clear ebk HB0
    by_cases hjl : j < l.length
    · have hjl' : (j : Int) < (l.length : Int) := by omega
      by_cases hjc : j < 100
      · have hjc' : (j : Int) < 100 := by omega
        obtain ⟨b, off, hcs0⟩ := HC.out
        obtain ⟨rfl, hcs⟩ := hcs0 (by intro e; rw [e] at hjl; simp at hjl)
        have c1 := hcs wr hBo.mod j hjl
        have HCS : Hid (∀ wx, Mod (fun _ => False) w wx → ∀ i, i < l.length → wx.cell? ⟨b, off + i, none⟩ = some (.int .i64 (l.getD i 0))) := hcs
        have hi := HI.out j hjl
        clear hcs hcs0
        generalize ex : l.getD j 0 = x at c1 hi
        have HX : Hid (l.getD j 0 = x) := ex
        clear ex
        have hj0 : (0 : Int) ≤ (j : Int) := by omega
        obtain ⟨q, hq⟩ : ∃ q, wrap64 (x.tdiv 2) = q := ⟨_, rfl⟩
        have hqi : I64 q := by
          rw [← hq]
          unfold wrap64 I64
          omega
        go_wp2_with (fail)
        refine (bring60 q wr hqi).mono ?_
        rintro e w4 ⟨rfl, rfl⟩
        have hz := br_rng q 60 (by omega)
        obtain ⟨z, ez⟩ : ∃ z, z = br q (60 : Nat) := ⟨_, rfl⟩
        rw [← ez] at hz ⊢
        obtain ⟨k, hkz⟩ : ∃ k : Nat, 1 + z = (k : Int) := ⟨(1 + z).toNat, by omega⟩
        have hk0 : (1 : Int) ≤ (k : Int) := by omega
        have hk1 : (k : Int) ≤ 60 := by omega
        have HK : Hid (1 ≤ k ∧ k ≤ 60) := ⟨by omega, by omega⟩
        obtain ⟨hz0, hz1⟩ : 0 ≤ z ∧ z < 60 := by omega
        clear hz ez hqi hq
        go_upto_if 41 with (fail)
        obtain ⟨bb, hbb⟩ : ∃ bb, (x.tmod 2 == 0) = bb := ⟨_, rfl⟩
        have HBB : Hid ((x.tmod 2 == 0) = bb) := hbb
        rw [hbb]
        clear hbb HX hi c1
        go_cut [] (fun wx => Bif w wx p bk a (max h (k : Int)) (j + 1))
        case first =>
          cases bb with
          | true =>
            go_wp2_with (fail)
            refine (one_any (k : Int) w4).mono ?_
            rintro e w5 ⟨rfl, hm5⟩
            have hB5 := hBo.keep hm5
            go_wp2_with (fail)
            refine (hB5.put (k : Int) (by omega) (by omega)).mono ?_
            rintro e w6 ⟨a6, rfl, hB6, ha6⟩
            have ck : w6.cell? ⟨bk, k, none⟩ = some (.bool (J (k : Int)).isSome) := hB6.row.cellv (bcl_get J k (by omega))
            have fk : w6.frozen? ⟨bk, k, none⟩ = false := hB6.row.frz k
            have HON : Hid (∀ k d, J k = some d → d = on k) := hBo.isOn
            have HH6 : Hid (0 ≤ h ∧ h ≤ 60) := hBo.h60
            have HNW : Hid (w.heap.size ≤ bk) := hBo.nw
            have HA6 : Hid (a ≤ a6) := ha6
            have hk62 : (k : Int) < 62 := by omega
            have hk00 : (0 : Int) ≤ (k : Int) := by omega
            clear hB5 hm5 hBo ha6
            generalize (J (k : Int)).isSome = bo at ck ⊢
            cases bo with
            | true =>
              go_wp2_with (fail)
              go_meet
              exact ⟨_, _, hB6.book HK.out HNW.out HH6.out HON.out, HA6.out⟩
            | false =>
              go_wp2_with (fail)
              go_meet
              exact ⟨_, _, hB6.book HK.out HNW.out HH6.out HON.out, HA6.out⟩
          | false =>
            go_wp2_with (fail)
            refine (hBo.see (k : Int) (by omega)).mono ?_
            rintro e w5 ⟨rfl, hB5⟩
            clear hBo
            go_wp2_with (fail)
            go_meet
            exact ⟨_, _, hB5, Int.le_refl _⟩
        case rest =>
        obtain ⟨⟨J1, a1, hB, ha⟩⟩ := hcut
        generalize wc = w5 at *
        obtain ⟨h1, hmx⟩ : ∃ h1, max h (k : Int) = h1 := ⟨_, rfl⟩
        rw [hmx] at hB
        obtain ⟨X, hW, hX, hXb⟩ := hB.ex
        obtain ⟨t, rfl⟩ : ∃ t : Nat, a1 = (t : Int) := ⟨a1.toNat, by have := hW.wp.a_le; omega⟩
        obtain ⟨hp0, hp60⟩ := hB.h60
        have hth := hW.wp.a_le
        have HCB : Hid (∀ wx, Mod (fun _ => False) w5 wx → ∀ i, i < 62 → wx.cell? ⟨bk, i, none⟩ = some (.bool (J1 (i : Int)).isSome)) := fun wx hm i hi => (hB.row.mod hm (fun h => h)).cellv (bcl_get J1 i hi)
        have ct : w5.cell? ⟨bk, t + 1, none⟩ = some (.bool false) := by
          rw [HCB.out w5 (Mod.refl _ _) (t + 1) (by omega)]
          have := hW.wp.aru.2.2
          simp [this]
        have HW : Hid (Wn w5 p X J1 (t : Int) h1 (j + 1)) := hW
        have HON : Hid (∀ k d, J1 k = some d → d = on k) := hB.isOn
        have HBo : Hid (Bo w w5 p bk J1 (t : Int) h1 (j + 1)) := hB
        have HRU := Aru_w hW
        have HHI := High_w hW
        have hta : ¬ (t : Int) < a := by omega
        have ht0 : (0 : Int) ≤ (t : Int) + 1 := by omega
        have ht62 : (t : Int) + 1 < 62 := by omega
        clear hB hW hX hXb ha hth hBo
        go_wp2_with (fail)
        refine HRU.mono ?_
        rintro e w6 ⟨rfl, rfl⟩
        go_wp2_with (fail)
        refine HHI.mono ?_
        rintro e w6 ⟨rfl, rfl⟩
        go_wp2_with (fail)
        refine HRU.mono ?_
        rintro e w6 ⟨rfl, rfl⟩
        go_wp2_with (fail)
        refine HRU.mono ?_
        rintro e w6 ⟨rfl, rfl⟩
        clear HRU HHI ct
        go_wp2_with (fail)
        go_loopw [11, 12, 13] (fun g1 g2 kk wr => ∃ s : Nat, kk = .int .i64 ((s : Int) + 1) ∧ (s : Int) ≤ h1 ∧ Cr.Own wr g1 (fil J1 s) ∧ Cr.Own wr g2 (thr J1 s) ∧ Hid ((∀ g, g1.ownBlock = some g → g2.ownBlock ≠ some g) ∧ (∀ g, g1.ownBlock = some g → w6.heap.size ≤ g) ∧ (∀ g, g2.ownBlock = some g → w6.heap.size ≤ g)) ∧ Mod (fun _ => False) w6 wr) (fun _ _ kk _ => h1.toNat + 1 - (intOf kk).toNat)
        case atStart => exact ⟨0, rfl, by omega, Cr.Own.nil _, Cr.Own.nil _, ⟨by simp [Value.ownBlock], by simp [Value.ownBlock], by simp [Value.ownBlock]⟩, Mod.refl _ _⟩
        case round =>
          obtain ⟨s, rfl, hs, ho1, ho2, hap, hMr⟩ := hrel
          obtain ⟨ag, cg, rfl⟩ := ho1.shape
          obtain ⟨ah, ch, rfl⟩ := ho2.shape
          by_cases hsh : (s : Int) + 1 ≤ h1
          · have cb := HCB.out wr hMr (s + 1) (by omega)
            have hs0 : (0 : Int) ≤ (s : Int) + 1 := by omega
            have hs62 : (s : Int) + 1 < 62 := by omega
            have HS : Hid (s < 60) := by show _ < _; omega
            have hi1 : I64 ((s : Int) + 1) := ⟨by omega, by omega⟩
            have HLF : Hid ((fil J1 s).length + 1 ≤ 1000000000000) := by show _ ≤ _; have := fil_len (J := J1) s; omega
            have HLT : Hid ((thr J1 s).length + 1 ≤ 1000000000000) := by show _ ≤ _; have := thr_len (J := J1) s; omega
            cases hJk : J1 ((s : Int) + 1) with
            | some d =>
              have ed := HON.out _ _ hJk
              subst ed
              rw [show ((s + 1 : Nat) : Int) = (s : Int) + 1 by omega, hJk] at cb
              have hf : fil J1 (s + 1) = fil J1 s := by rw [fil, if_pos (by rw [hJk]; rfl)]
              have ht : thr J1 (s + 1) = thr J1 s ++ [(s : Int) + 1] := by rw [thr, if_pos (by rw [hJk]; rfl)]
              have HF : Hid (fil J1 (s + 1) = fil J1 s) := hf
              have HT : Hid (thr J1 (s + 1) = thr J1 s ++ [(s : Int) + 1]) := ht
              have HJ : Hid (J1 ((s : Int) + 1) = some (on ((s : Int) + 1))) := hJk
              clear hf ht hJk
              generalize fil J1 s = L1 at *
              generalize thr J1 s = L2 at *
              simp only [Option.isSome_some] at cb
              go_wp2_with (at_builtin; refine wpList_app1 rfl _ _ rfl _ L2 ((s : Int) + 1) wr.heap.size rfl rfl (ho2.mod ((Mod.refl (fun _ => False) wr).alloc _) (fun _ _ h => h)) (Bk.new wr #[.int .i64 ((s : Int) + 1)] 3).cellz HLT.out ?_; intro v7 w7 ho7 hm7 hf7)
              have hM7 : Mod (fun _ => False) w6 w7 := (hMr.alloc _).trans hm7 (fun _ _ h => h) (fun g hg e => by have := hap.out.2.2 g e; omega)
              have ho17 := (ho1.mod ((Mod.refl (fun _ => False) wr).alloc (.cells #[.int .i64 ((s : Int) + 1)] 3)) (fun _ _ h => h)).mod hm7 (fun g hg e => hap.out.1 g hg e)
              have HAP7 : Hid ((∀ g, (Value.slice ag L1.length cg).ownBlock = some g → v7.ownBlock ≠ some g) ∧ (∀ g, (Value.slice ag L1.length cg).ownBlock = some g → w6.heap.size ≤ g) ∧ (∀ g, v7.ownBlock = some g → w6.heap.size ≤ g)) := by
                refine ⟨fun g hg e => ?_, hap.out.2.1, fun g hg => ?_⟩
                · rcases hf7 g e with h' | h'
                  · exact hap.out.1 g hg h'
                  · have := ho1.lt g hg; simp at h'; omega
                · rcases hf7 g hg with h' | h'
                  · exact hap.out.2.2 g h'
                  · have := hMr.size; simp at h'; omega
              clear hm7 hf7 ho1 ho2 hMr cb hap
              refine (Get_w (HW.out.keep hM7) ((s : Int) + 1) hi1).mono ?_
              rintro e w8 ⟨v8, rfl, ho8, hm8, -⟩
              rw [HJ.out] at ho8 ⊢
              simp only [Option.getD_some, Option.isSome_some] at ho8 ⊢
              obtain ⟨a8, c8, rfl⟩ := ho8.shape
              have hM8 := hM7.and hm8
              have HO1 := ho17.mod hm8 (fun _ _ h => h)
              have HO2 := ho7.mod hm8 (fun _ _ h => h)
              clear ho17 ho7 hM7 hm8 ho8
              unfold dv on
              obtain ⟨av7, cv7, e7⟩ := HO2.shape
              rw [List.length_append, List.length_singleton] at e7
              subst e7
              go_wp2_with (refine wpList_store_row info18 rfl rfl _ _ rfl w8.heap.size #[.int .i64 1, .int .i64 1, .int .i64 ((s : Int) + 1), .int .i64 1, .int .i64 0, .int .i64 3, .int .i64 1, .int .i64 0, .int .i64 ((s : Int) + 1), .int .i64 0, .int .i64 0, .int .i64 0, .bool false, .int .i64 0, .int .i64 0, .int .i64 0, .int .i64 0, .slice a8 0 c8] rfl rfl (Bk.new w8 _ _) rfl rfl rfl ?_; intro wF hBF hMF; have c8' := hBF.cellv (j := 8) rfl; have cbF := HCB.out wF ((hM8.alloc _).trans hMF (fun _ _ h => h) (fun g hg e => by have := hM8.size; omega)) (s + 1) (by have := HS.out; omega); rw [show ((s + 1 : Nat) : Int) = (s : Int) + 1 by omega, HJ.out] at cbF; simp only [Option.isSome_some] at cbF)
              all_goals
                have HM9 : Hid (Mod (fun _ => False) w6 wF) := (hM8.alloc _).trans hMF (fun _ _ h => h) (fun g hg e => by have := hM8.size; omega)
                have HA9 := (Mod.refl (fun _ => False) w8).alloc (.cells #[.int .i64 0, .int .i64 0, .int .i64 0, .int .i64 0, .int .i64 0, .int .i64 0, .int .i64 0, .int .i64 0, .int .i64 0, .int .i64 0, .int .i64 0, .int .i64 0, .bool false, .int .i64 0, .int .i64 0, .int .i64 0, .int .i64 0, .slice none 0 0] 35)
                have HP1 : Hid (Cr.Own wF (.slice ag L1.length cg) L1) := (HO1.mod HA9 (fun _ _ h => h)).mod hMF (fun g hg e => by have := HO1.lt g hg; omega)
                have HP2 : Hid (Cr.Own wF (.slice av7 (L2.length + 1) cv7) (L2 ++ [(s : Int) + 1])) := (HO2.mod HA9 (fun _ _ h => h)).mod hMF (fun g hg e => by have := HO2.lt g hg; omega)
                clear HO1 HO2 hMF hBF HA9 hM8 c8' cbF
                go_roundw
                case rel => exact ⟨s + 1, by go_num, by omega, by rw [HF.out]; exact HP1.out, by rw [HT.out]; exact HP2.out, HAP7, HM9.out⟩
                case measure => simp [intOf]; omega
            | none =>
              rw [show ((s + 1 : Nat) : Int) = (s : Int) + 1 by omega, hJk] at cb
              have hf : fil J1 (s + 1) = fil J1 s ++ [(s : Int) + 1] := by rw [fil, if_neg (by rw [hJk]; simp)]
              have ht : thr J1 (s + 1) = thr J1 s := by rw [thr, if_neg (by rw [hJk]; simp)]
              have hnt : ¬ (s : Int) + 1 ≤ (t : Int) := fun hle => by
                have := HW.out.wp.aru.2.1 ((s : Int) + 1) (by omega) hle
                rw [hJk] at this
                cases this
              have HF : Hid (fil J1 (s + 1) = fil J1 s ++ [(s : Int) + 1]) := hf
              have HT : Hid (thr J1 (s + 1) = thr J1 s) := ht
              have HJ : Hid (J1 ((s : Int) + 1) = none) := hJk
              clear hf ht hJk
              generalize fil J1 s = L1 at *
              generalize thr J1 s = L2 at *
              simp only [Option.isSome_none] at cb
              go_wp2_with (at_builtin; refine wpList_app1 rfl _ _ rfl _ L1 ((s : Int) + 1) wr.heap.size rfl rfl (ho1.mod ((Mod.refl (fun _ => False) wr).alloc _) (fun _ _ h => h)) (Bk.new wr #[.int .i64 ((s : Int) + 1)] 3).cellz HLF.out ?_; intro v7 w7 ho7 hm7 hf7)
              have hM7 : Mod (fun _ => False) w6 w7 := (hMr.alloc _).trans hm7 (fun _ _ h => h) (fun g hg e => by have := hap.out.2.1 g e; omega)
              have ho17 := (ho2.mod ((Mod.refl (fun _ => False) wr).alloc (.cells #[.int .i64 ((s : Int) + 1)] 3)) (fun _ _ h => h)).mod hm7 (fun g hg e => hap.out.1 g e hg)
              have HAP7 : Hid ((∀ g, v7.ownBlock = some g → (Value.slice ah L2.length ch).ownBlock ≠ some g) ∧ (∀ g, v7.ownBlock = some g → w6.heap.size ≤ g) ∧ (∀ g, (Value.slice ah L2.length ch).ownBlock = some g → w6.heap.size ≤ g)) := by
                refine ⟨fun g hg e => ?_, fun g hg => ?_, hap.out.2.2⟩
                · rcases hf7 g hg with h' | h'
                  · exact hap.out.1 g h' e
                  · have := ho2.lt g e; simp at h'; omega
                · rcases hf7 g hg with h' | h'
                  · exact hap.out.2.1 g h'
                  · have := hMr.size; simp at h'; omega
              clear hm7 hf7 ho1 ho2 hMr cb hap
              refine (Get_w (HW.out.keep hM7) ((s : Int) + 1) hi1).mono ?_
              rintro e w8 ⟨v8, rfl, ho8, hm8, -⟩
              rw [HJ.out] at ho8 ⊢
              simp only [Option.getD_none, Option.isSome_none] at ho8 ⊢
              obtain ⟨a8, c8, e8⟩ := ho8.shape
              rw [show d0.m.body.length = 0 from rfl] at e8
              subst e8
              have hM8 := hM7.and hm8
              have HO2 := ho17.mod hm8 (fun _ _ h => h)
              have HO1 := ho7.mod hm8 (fun _ _ h => h)
              clear ho17 ho7 hM7 hm8 ho8
              unfold dv d0
              obtain ⟨av7, cv7, e7⟩ := HO1.shape
              rw [List.length_append, List.length_singleton] at e7
              subst e7
              go_wp2_with (refine wpList_store_row info18 rfl rfl _ _ rfl w8.heap.size #[.int .i64 0, .int .i64 0, .int .i64 0, .int .i64 0, .int .i64 0, .int .i64 0, .int .i64 0, .int .i64 0, .int .i64 0, .int .i64 0, .int .i64 0, .int .i64 0, .bool false, .int .i64 0, .int .i64 0, .int .i64 0, .int .i64 0, .slice a8 0 c8] rfl rfl (Bk.new w8 _ _) rfl rfl rfl ?_; intro wF hBF hMF; have c8' := hBF.cellv (j := 8) rfl; have cbF := HCB.out wF ((hM8.alloc _).trans hMF (fun _ _ h => h) (fun g hg e => by have := hM8.size; omega)) (s + 1) (by have := HS.out; omega); rw [show ((s + 1 : Nat) : Int) = (s : Int) + 1 by omega, HJ.out] at cbF; simp only [Option.isSome_none] at cbF)
              all_goals
                have HM9 : Hid (Mod (fun _ => False) w6 wF) := (hM8.alloc _).trans hMF (fun _ _ h => h) (fun g hg e => by have := hM8.size; omega)
                have HA9 := (Mod.refl (fun _ => False) w8).alloc (.cells #[.int .i64 0, .int .i64 0, .int .i64 0, .int .i64 0, .int .i64 0, .int .i64 0, .int .i64 0, .int .i64 0, .int .i64 0, .int .i64 0, .int .i64 0, .int .i64 0, .bool false, .int .i64 0, .int .i64 0, .int .i64 0, .int .i64 0, .slice none 0 0] 35)
                have HP1 : Hid (Cr.Own wF (.slice av7 (L1.length + 1) cv7) (L1 ++ [(s : Int) + 1])) := (HO1.mod HA9 (fun _ _ h => h)).mod hMF (fun g hg e => by have := HO1.lt g hg; omega)
                have HP2 : Hid (Cr.Own wF (.slice ah L2.length ch) L2) := (HO2.mod HA9 (fun _ _ h => h)).mod hMF (fun g hg e => by have := HO2.lt g hg; omega)
                clear HO1 HO2 hMF hBF HA9 hM8 c8' cbF
                go_roundw
                case rel => exact ⟨s + 1, by go_num, by omega, by rw [HF.out]; exact HP1.out, by rw [HT.out]; exact HP2.out, HAP7, HM9.out⟩
                case measure => simp [intOf]; omega
          · have es : s = h1.toNat := by omega
            obtain ⟨mm, emm⟩ : ∃ mm : Nat, mm = min (fil J1 s).length 16 := ⟨_, rfl⟩
            have emin : min ((fil J1 s).length : Int) 16 = (mm : Int) := by omega
            obtain ⟨ag', cg', e, hg1, hg2⟩ := ho1.rng
            cases e
            have hmc : mm ≤ cg := by omega
            have hmc' : (mm : Int) ≤ (cg : Int) := by omega
            have hm0 : (0 : Int) ≤ (mm : Int) := by omega
            have HAG2 : Hid ((ag = none ∧ (fil J1 s).length = 0 ∧ cg = 0) ∨ ∃ g, ag = some ⟨g, 0, none⟩) := by
              rcases ho1.2 with ⟨e, q0⟩ | ⟨g, c', cur, e, _⟩
              · simp only [Value.slice.injEq] at e
                exact .inl ⟨e.1, by simpa using q0, e.2.2⟩
              · simp only [Value.slice.injEq] at e
                exact .inr ⟨g, e.1⟩
            have hdr := (Mod.refl (fun _ => False) wr).drew
            have HWr : Hid (Wn wr.drew p X J1 (t : Int) h1 (j + 1)) := (HW.out.keep hMr).keep hdr
            have ho1d := ho1.mod hdr (fun _ _ h => h)
            have ho2d := ho2.mod hdr (fun _ _ h => h)
            have HTK : Hid ((fil J1 h1.toNat).take (min 4611686018427387904 16 : Int).toNat = (fil J1 s).take mm) := by
              show _ = _
              rw [← es, emm]
              rw [show (min 4611686018427387904 16 : Int).toNat = 16 by decide]
              rcases Nat.le_total (fil J1 s).length 16 with hle | hle
              · rw [Nat.min_eq_left hle, List.take_of_length_le hle, List.take_length]
              · rw [Nat.min_eq_right hle]
            have HMML : Hid (mm ≤ (fil J1 s).length) := by show _ ≤ _; omega
            have HGA : Calls Try.prog 23 #[.pointer (some ⟨p, 0, none⟩), .int .i64 4611686018427387904] wr.drew fun e w' => ∃ r, e = .returned r ∧ Hid (Cr.Own w' r ((fil J1 s).take mm)) ∧ Mod (fun _ => False) wr.drew w' := by
              refine (Gaps_w HWr.out 4611686018427387904).mono ?_
              rintro e w' ⟨v, rfl, q1, q2, -⟩
              rw [HTK.out] at q1
              exact ⟨v, rfl, q1, q2⟩
            have HKT : Hid (Ks J1 0 (thr J1 s)) := by rw [es]; exact thr_ks HW.out.wp
            have HAG : Hid (((t : Int) == h1) = ((fil J1 s).length == 0)) := by rw [es]; exact aru_gaps HW.out.wp
            have HMd : Hid (Mod (fun _ => False) w wr.drew) := (HBo.out.mod.and hMr).and hdr
            have HJ100 : Hid (j + 1 ≤ 1000000) := by show _ ≤ _; omega
            clear es emm hg1 hg2 ho1 ho2 hap hdr HTK
            generalize fil J1 s = L1 at *
            generalize thr J1 s = L2 at *
            obtain ⟨bq, hbq⟩ : ∃ bq, ((t : Int) == h1) = bq := ⟨_, rfl⟩
            have hbl : ((L1.length : Int) == 0) = bq := by
              rw [← hbq, HAG.out]
              cases L1 <;> simp <;> omega
            have hbn : (bq != bq) = false := by simp
            have HBQ : Hid (((t : Int) == h1) = bq) := hbq
            clear HAG
            go_upto_region 31 with (fail)
            go_cut [158] (fun v wx => v = .bool false ∧ Mod (fun _ => False) wr.drew wx)
            case first =>
              clear hlc hcm hj hj100 hjl hjl' hjc hjc' hj0 hkz hk0 hk1 hz0 hz1 hmx hp0 hp60 hta ht0 ht62 hs hsh hMr hmc HBB HBK HI HC HL HK HCB HON HBo HW HMd HCS HBQ
              rcases HAG2.out with ⟨rfl, -, -⟩ | ⟨gg, rfl⟩
              all_goals clear HAG2
              · skip
                go_region_held3 (fun _ => True) (trivial) ((first
                  | (go_at_call 23; refine HGA.mono ?_; rintro e w8 ⟨r8, rfl, ho8, hm8⟩)
                  | (go_at_call 22; first | (refine (EqI_st ho11.out.sl ((((ho2d.mod hM9 (fun _ _ h => h)).mod hm10 (fun _ _ h => h)).mod hm11 (fun _ _ h => h)).sl) HZ10.out).mono ?_; rintro e w12 ⟨r12, rfl, rfl, hm12⟩) | (refine (EqI_st ho8.out.sl ((ho1d.mod hm8 (fun _ _ h => h)).sl.take mm HMML.out) rfl).mono ?_; rintro e w9 ⟨r9, rfl, rfl, hm9⟩; have hM9 := hm8.and hm9))
                  | (go_at_call 17; refine (Ab_st (HWr.out.keep hM9) HJ100.out).mono ?_; rintro e w10 ⟨r10, rfl, d10, z10, hR10, hk10, hz10, hl10, hm10⟩; have HR10 : Hid (Rd18 w10 _ r10 d10) := hR10; have HZ10 : Hid (d10.map (·.1.n) = L2) := hz10.trans (hk10.uniq HKT.out (fun _ => rfl)); clear hR10 hz10 hk10)
                  | (go_at_call 30; refine (numbersOf_st r10 d10 w10 HR10.out.row hl10).mono ?_; rintro e w11 ⟨r11, rfl, ho11, hm11⟩)))
                all_goals go_wp2
                all_goals go_meet
                all_goals exact ⟨rfl, ((hM9.and hm10).and hm11).and hm12⟩
              · skip
                go_region_held3 (fun _ => True) (trivial) ((first
                  | (go_at_call 23; refine HGA.mono ?_; rintro e w8 ⟨r8, rfl, ho8, hm8⟩)
                  | (go_at_call 22; first | (refine (EqI_st ho11.out.sl ((((ho2d.mod hM9 (fun _ _ h => h)).mod hm10 (fun _ _ h => h)).mod hm11 (fun _ _ h => h)).sl) HZ10.out).mono ?_; rintro e w12 ⟨r12, rfl, rfl, hm12⟩) | (refine (EqI_st ho8.out.sl ((ho1d.mod hm8 (fun _ _ h => h)).sl.take mm HMML.out) rfl).mono ?_; rintro e w9 ⟨r9, rfl, rfl, hm9⟩; have hM9 := hm8.and hm9))
                  | (go_at_call 17; refine (Ab_st (HWr.out.keep hM9) HJ100.out).mono ?_; rintro e w10 ⟨r10, rfl, d10, z10, hR10, hk10, hz10, hl10, hm10⟩; have HR10 : Hid (Rd18 w10 _ r10 d10) := hR10; have HZ10 : Hid (d10.map (·.1.n) = L2) := hz10.trans (hk10.uniq HKT.out (fun _ => rfl)); clear hR10 hz10 hk10)
                  | (go_at_call 30; refine (numbersOf_st r10 d10 w10 HR10.out.row hl10).mono ?_; rintro e w11 ⟨r11, rfl, ho11, hm11⟩)))
                all_goals go_wp2
                all_goals go_meet
                all_goals exact ⟨rfl, ((hM9.and hm10).and hm11).and hm12⟩
            case rest =>
            obtain ⟨rfl, hmc9⟩ := hcut
            generalize wc = w9 at *
            have HB9 : Hid (Bo w w9 p bk J1 (t : Int) h1 (j + 1)) := (HBo.out.keep (hMr.and ((Mod.refl (fun _ => False) wr).drew))).keep hmc9
            clear HGA ho1d ho2d hmc9 hbq hbl hbn emin
            go_wp2_with (fail)
            go_roundw
            case rel => exact ⟨j + 1, J1, (t : Int), h1, rfl, rfl, by go_num, by omega, by omega, by have := HB9.out; rwa [HBK.out] at this⟩
            case measure => simp [intOf]; omega
      · have hjc' : ¬ (j : Int) < 100 := by omega
        go_wp2_with (fail)
        go_ret
        exact ⟨rfl, hBo.mod⟩
    · go_wp2_with (fail)
      go_ret
      exact ⟨rfl, hBo.mod⟩
namespace windowBooks
open Go.ChangeShapes Go.WideShapes Go.ChangeAt Go.RowKit
set_option maxRecDepth 100000 in
theorem lifted (os : Os) (started : os.Started) (H : Type) (enc : TypeId × Value → H) :
    ReturnsInHanded {} Try.checked os 5 .any (Rows.windowBooksSpec.pre6 enc Try.prog Try.f5 Rows.windowBooksRow.domain false) (Rows.windowBooksSpec.post enc Try.prog Try.f5 false true false false) := by
  refine returnsInHanded_of_change_sized (C := Try.checked) own started (by kernel_rfl) Try.func5
    (ChangeSpec.witness6 (enc := enc) (C := Try.checked) false ⟨#[], #[.slice none 0 0], []⟩ 8 (by kernel_rfl) (by kernel_rfl) (by kernel_rfl) (by kernel_rfl)) ?_
  intro W base args ds gs before hval0 hW hcnd hsz0 _
  have hval : ∀ (j : Nat) t v, Try.f5.params[j]? = some t → args[j]? = some v → Value.okWide Try.prog W .any base t v := hval0
  have hsz : (DataW.weightsEach Try.prog (Try.f5.params.toList ++ Rows.windowBooksSpec.plain.varTypes Try.prog) (ds ++ gs)).all (· ≤ reachBytes) = true := hsz0
  have hW' := hW
  obtain ⟨p, q, hA0, hV, rfl, hfz, hnd⟩ := hW
  have hA : DataW.TrodAll enc Try.prog W 0 (fun _ => true) true Try.f5.params.toList args.toList ds p := hA0
  rw [Try.params5] at hA hval hsz
  obtain ⟨v0, vs0, d0, ds0, p0, q0, hargs, rfl, rfl, h0, r0⟩ := trodAll_cons hA
  obtain ⟨rfl, rfl, rfl⟩ := trodAll_nil r0
  obtain rfl : args = #[v0] := by cases args; simp_all
  obtain ⟨rfl, rfl⟩ := trodVars_none hV
  have k0 := h0
  have lt0 : ∀ x ∈ p0, x.block < W.heap.size := by obtain ⟨m, hm⟩ := k0; exact DataW.trod_lt m _ _ _ hm
  obtain ⟨B0, hB0⟩ := open_l h0 (okWide_slice Try.underlying50 (hval 0 50 v0 rfl rfl))
  clear hA0 hval0
  refine (books_walk v0 B0 W hB0).mono fun e W' ⟨he, hm⟩ => ?_
  subst he
  have bel : Below W.heap.size W W' := hm.below _ (Nat.le_refl _) (fun _ h => h.elim)
  exact ⟨_, rfl, _, _, _, [], _, [], hW', trodAll_mk1 (shut_bool Try.underlying4 _), (trodAll_cons_mk (Below.trod laidOut (by kernel_rfl) (of_decide_eq_true (by kernel_rfl)) k0 bel lt0) trodAll_mk0), rfl, bel.frame _, fun h => by cases h⟩

theorem over : Rows.windowBooksRow.holds Try.pinned (OpenSpec.ofChange Rows.windowBooksSpec) :=
  OpenClaim.holds_of_wide 5 Try.f5 rfl rfl rfl rfl rfl rfl rfl ⟨rfl, rfl, rfl, rfl, rfl⟩ rfl rfl rfl rfl rfl (by kernel_rfl) Try.func5 (by kernel_rfl)
    (of_decide_eq_true (by kernel_rfl)) (by unfold Func.isWrapper; first | (rw [if_pos (by decide +kernel)]; kernel_rfl) | (rw [if_neg (by decide +kernel)]; exact ⟨rfl, rfl⟩))
    (fun os started H enc _ => lifted os started H enc)
end windowBooks
theorem windowBooks_holds : Rows.WindowBooksSaid := windowBooks.over
end Go.Proofs.Ytejlcoakencdiaa
