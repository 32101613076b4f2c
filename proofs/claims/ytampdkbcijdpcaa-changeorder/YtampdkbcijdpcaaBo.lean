/- ChangeOrder holds. No conditions. -/
import Derived.Test.YtampdkbcijdpcaaBj
namespace Go.Proofs.Ytampdkbcijdpcaa
open Go.RowKit Go.Maps
theorem rise30 : rise 2 1 5 1 = true := by decide +kernel
theorem few30 {J : Int → Option Dt} {a h N : Int} (hp : Wp J a h) (hh : h ≤ 30) (hN : 0 ≤ N) : Few J N 1000000 := fun m hm => by
  rcases Nat.lt_or_ge m 40 with h1 | h1
  · omega
  · have h2 := hp.high.2.2 _ (hm 35 (by omega))
    omega
theorem at30 {N k : Int} (hN : 0 ≤ N) : atOK (⟨2, 1, 0, 0, 30, false, 0⟩ : Cg) (⟨5, 1, 0, 0, 30, false, 0⟩ : Cg) N (kk k) = true := by
  unfold atOK
  rw [decide_eq_false (by omega), rise30, (kk_ok k).1]
  rfl
set_option maxRecDepth 100000 in
set_option maxHeartbeats 16000000 in
theorem order_walk (v : Value) (L : List Int) (k done safe : Int) (w : World) (hs : Si w v L) (hd : I64 done) (hsf : I64 safe) : Calls Try.prog 5 #[.agg #[v, .int .i64 k], .int .i64 done, .int .i64 safe] w fun e w' => e = .returned (.bool true) ∧ Mod (fun _ => False) w w' := by
  obtain ⟨va, vc, rfl⟩ : ∃ ao c, v = .slice ao L.length c := by
    obtain ⟨ao, cap, e, _⟩ := hs.form
    exact ⟨ao, cap, e⟩
  obtain ⟨w1, ew1⟩ : ∃ W, W = w.alloc (.cells #[.slice va L.length vc, .int .i64 k] 57) := ⟨_, rfl⟩
  obtain ⟨kb, ekb⟩ : ∃ k, k = w.heap.size := ⟨_, rfl⟩
  have hM : Mod (fun _ => False) w w1 := by rw [ew1]; exact (Mod.refl _ w).alloc _
  have hB : Bk w1 kb 57 #[.slice va L.length vc, .int .i64 k] := by rw [ew1, ekb]; exact Bk.new w _ _
  have HM1 : Hid (Mod (fun _ => False) w w1) := hM
  have HB : Hid (Bk w1 kb 57 #[.slice va L.length vc, .int .i64 k]) := hB
  have HSI : Hid (Si w1 (.slice va L.length vc) L) := hs.mod hM
  have HBD := fun W => bring done 32 W (by decide) (by decide) hd
  have HBS := fun W => bring safe 32 W (by decide) (by decide) hsf
  have HN := br_rng done 32 (by decide)
  have HS := br_rng safe 32 (by decide)
  rw [show ((32 : Nat) : Int) = 32 from rfl] at HBD HBS HN HS
  generalize br done 32 = N at HBD HN
  generalize br safe 32 = s at HBS HS
  have HNR : Hid (0 ≤ N ∧ N < 32) := ⟨HN.1, HN.2.1⟩
  have HSR : Hid (0 ≤ s ∧ s < 32) := ⟨HS.1, HS.2.1⟩
  clear hs hd hsf hM hB HN HS
  go_enter Try.func5, Try.ntmps5
  go_upto_region 1 with (fail)
  rw [← ew1, ← ekb]
  clear ew1 ekb
  go_wp2_with (fail)
  refine (awake_any _).mono ?_
  rintro e w2 ⟨rfl, hm2⟩
  have HM2 : Hid (Mod (fun _ => False) w1 w2) := hm2
  clear hm2
  have c0 := (HB.out.mod HM2.out (fun h => h)).cellv (j := 0) rfl
  have c1 := (HB.out.mod HM2.out (fun h => h)).cellv (j := 1) rfl
  go_wp2_with (fail)
  refine (window_w _ L k _ (HSI.out.mod HM2.out)).mono ?_
  rintro e w3 ⟨p, rfl, J, a, h, n, hz, hn, hh, hgd⟩
  have HZ : Hid (Wz w2 w3 (fun _ => False) p J a h n ∧ n ≤ 60 ∧ h ≤ 30 ∧ gdJ J) := ⟨hz, hn, hh, hgd⟩
  clear c0 c1 hz hn hh hgd
  go_wp2_with (fail)
  refine (HBD _).mono ?_
  rintro e w4 ⟨rfl, e1⟩
  replace e1 := e1.symm
  subst e1
  go_wp2_with (fail)
  refine (HBS _).mono ?_
  rintro e w4 ⟨rfl, e1⟩
  replace e1 := e1.symm
  subst e1
  have HM3 : Hid (Mod (fun _ => False) w1 w3) := HM2.out.and HZ.out.1.mod
  have c0 := (HB.out.mod HM3.out (fun h => h)).cellv (j := 0) rfl
  have c1 := (HB.out.mod HM3.out (fun h => h)).cellv (j := 1) rfl
  clear HBD HBS
  go_wp2_with (fail)
  refine (kin_w _ k _ ⟨va, _, vc, rfl⟩).mono ?_
  rintro e w5 ⟨rfl, hm5⟩
  have HM5 : Hid (Mod (fun _ => False) w3 w5) := hm5
  clear c0 c1 hm5
  obtain ⟨X, hX, -, -⟩ := (HZ.out.1.keep HM5.out).ex
  have HP : Hid (Wp J a h) := hX.wp
  have HAT := At_w hX (by have := HZ.out.2.1; omega) (⟨2, 1, 0, 0, 30, false, 0⟩ : Cg) (⟨5, 1, 0, 0, 30, false, 0⟩ : Cg) N s (kk k) (by have := HNR.out; unfold I64; omega) (kk_ok k).2 ⟨by decide, by decide⟩ ⟨by decide, by decide⟩ (at30 HNR.out.1) (few30 hX.wp HZ.out.2.2.1 HNR.out.1)
  clear hX
  have HKR : Hid (0 ≤ kk k ∧ kk k ≤ 30) := by
    obtain ⟨y, h1, h2, h3⟩ := kk_nat k
    show _ ∧ _
    rw [h1]
    exact ⟨by omega, by omega⟩
  have HKIN := fun W => kin_w (.slice va L.length vc) k W ⟨va, _, vc, rfl⟩
  generalize kk k = kq at *
  go_wp2_with (fail)
  refine HAT.mono ?_
  rintro e w6 ⟨kN, tv, es, zs, rfl, hnc, -, hks, hmap, hre, hle, hm6⟩
  obtain ⟨EL, hEL⟩ : ∃ EL, EL = (dl J N kN).map evD ++ (evC (cgT (⟨2, 1, 0, 0, 30, false, 0⟩ : Cg) (⟨5, 1, 0, 0, 30, false, 0⟩ : Cg) kq) :: (lf kq true (N + kN) (zs.map (fun k => (J k).getD d0))).map evD) := ⟨_, rfl⟩
  have hmap2 : es.map (·.1) = EL ++ [evC (cgN (⟨5, 1, 0, 0, 30, false, 0⟩ : Cg))] := by
    rw [hmap, hEL, tld]
    simp
  have hlen : es.length = EL.length + 1 := by have := congrArg List.length hmap2; simpa using this
  have hEL1 : 1 ≤ EL.length := by rw [hEL]; simp; omega
  obtain ⟨g, of, cp, rfl, hrg⟩ := hre.row.range (by omega)
  have HNC : Hid (Nc J s N kN ∧ Ks J (N + kN) zs) := ⟨hnc, hks⟩
  have HEL : Hid (EL = (dl J N kN).map evD ++ (evC (cgT (⟨2, 1, 0, 0, 30, false, 0⟩ : Cg) (⟨5, 1, 0, 0, 30, false, 0⟩ : Cg) kq) :: (lf kq true (N + kN) (zs.map (fun k => (J k).getD d0))).map evD)) := hEL
  have HMP : Hid (es.map (·.1) = EL ++ [evC (cgN (⟨5, 1, 0, 0, 30, false, 0⟩ : Cg))]) := hmap2
  have HLN : Hid (es.length = EL.length + 1 ∧ 1 ≤ EL.length ∧ es.length ≤ 3000000) := ⟨hlen, hEL1, hle⟩
  have HRE : Hid (Re w6 w5.heap.size (.slice (some ⟨g, of, none⟩) es.length cp) es) := hre
  have HM6 : Hid (Mod (fun _ => False) w5 w6) := hm6
  have hl2 : ¬ (es.length : Int) < 2 := by omega
  have hl3 : (es.length : Int) ≤ 3000000 := by omega
  have hl4 : (1 : Int) ≤ (es.length : Int) := by omega
  have HNB := numbersOf_w _ es w6 hre.row (by omega)
  clear hnc hks hmap hmap2 hlen hEL1 hrg hre hle hm6 HAT hEL
  go_wp2_with (fail)
  refine HNB.mono ?_
  rintro e w7 ⟨u, rfl, hu, hm7, -⟩
  obtain ⟨ua, uc, rfl⟩ := hu.shape
  simp only [List.length_map] at hu ⊢
  have HU : Hid (Cr.Own w7 (.slice ua es.length uc) (es.map fun x => evN x.1)) := hu
  have HM7 : Hid (Mod (fun _ => False) w6 w7) := hm7
  obtain ⟨au, cu, eu, -, -, -, hcu⟩ := hu.sl
  simp only [List.length_map, Value.slice.injEq, true_and] at eu
  obtain ⟨rfl, rfl⟩ := eu
  obtain ⟨gu, ou, rfl, hcell⟩ := hcu (by intro e; have h1 := congrArg List.length e; have h2 := HLN.out.1; simp only [List.length_map, List.length_nil] at h1; omega)
  have HNUM : Hid (∀ W, Mod (fun _ => False) w7 W → ∀ (j : Nat) (x : Ev × Value), es[j]? = some x → W.cell? ⟨gu, ou + j, none⟩ = some (.int .i64 (evN x.1))) := fun W hW j x hx => by
    obtain ⟨hj, -⟩ := List.getElem?_eq_some_iff.1 hx
    have h1 := hcell j (by simpa using hj)
    rw [show (es.map fun x => evN x.1).getD j 0 = evN x.1 by simp [List.getD, hx]] at h1
    exact hW.cell h1 (fun h => h)
  have hlast : w7.cell? ⟨gu, ou + (es.length - 1), none⟩ = some (.int .i64 (-1)) := by
    obtain ⟨x, hx⟩ : ∃ x, es[es.length - 1]? = some x := ⟨_, List.getElem?_eq_getElem (by have := HLN.out.1; omega)⟩
    have h1 := HNUM.out w7 (Mod.refl _ _) _ x hx
    have h2 : (es.map (·.1))[es.length - 1]? = some x.1 := by rw [List.getElem?_map, hx]; rfl
    rw [HMP.out, show es.length - 1 = EL.length by have := HLN.out.1; omega, List.getElem?_append_right (Nat.le_refl _), Nat.sub_self] at h2
    simp at h2
    rw [h1, ← h2]
    rfl
  have hix : ((es.length : Int) - 1).toNat = es.length - 1 := by omega
  clear hu hm7 hcu hcell HNB
  have hN0 : 0 ≤ N := HNR.out.1
  have hN1 : N < 32 := HNR.out.2
  go_wp2_with (fail)
  clear hl2
  have HM17 : Hid (Mod (fun _ => False) w w7) := ((((HM1.out.and HM3.out).and HM5.out).and HM6.out).and HM7.out)
  have HM27 : Hid (Mod (fun _ => False) w3 w7) := (HM5.out.and HM6.out).and HM7.out
  have HM67 : Hid (Mod (fun _ => False) w6 w7) := HM7.out
  go_loopw [13] (fun z wr => ∃ g : Nat, z = .int .i64 (N + 1 + (g : Int)) ∧ Hid (∀ i : Nat, i < g → (J (N + 1 + i)).isSome = true) ∧ Hid (Mod (fun _ => False) w7 wr)) (fun z _ => (100 - intOf z).toNat)
  case atStart => exact ⟨0, by simp, (fun i hi => by omega), Mod.refl _ _⟩
  case round =>
    obtain ⟨gg, rfl, hgs, hmr⟩ := hrel
    have hg30 : N + gg ≤ 32 := by
      rcases Nat.eq_zero_or_pos gg with e | e
      · subst e; have := HNR.out; omega
      · have h1 := HP.out.high.2.2 _ (hgs.out (gg - 1) (by omega))
        have h2 := HZ.out.2.2.1
        omega
    obtain ⟨G, hG⟩ : ∃ G : Int, G = N + 1 + (gg : Int) := ⟨_, rfl⟩
    have HG : Hid (G = N + 1 + (gg : Int)) := hG
    have hGr : 1 ≤ G ∧ G ≤ 40 := by have := HNR.out; omega
    have HGR : Hid (1 ≤ G ∧ G ≤ 40) := hGr
    rw [← hG]
    clear hG hg30
    obtain ⟨X, hX, -, -⟩ := ((HZ.out.1.keep HM27.out).keep hmr.out).ex
    have HGT := Get_w hX G (by unfold I64; omega)
    clear hX
    go_wp2_with (fail)
    refine HGT.mono ?_
    rintro e w8 ⟨ub, rfl, hub, hm8, -⟩
    have HM8 : Hid (Mod (fun _ => False) w7 w8) := hmr.out.and hm8
    have hZr : Hid (Bk _ _ _ _) := Bk.new w8 #[.int .i64 0, .int .i64 0, .int .i64 0, .int .i64 0, .int .i64 0, .int .i64 0, .int .i64 0, .int .i64 0, .int .i64 0, .int .i64 0, .int .i64 0, .int .i64 0, .bool false, .int .i64 0, .int .i64 0, .int .i64 0, .int .i64 0, .slice none 0 0] 44
    have hA := (Mod.refl (fun _ => False) w8).alloc (.cells #[.int .i64 0, .int .i64 0, .int .i64 0, .int .i64 0, .int .i64 0, .int .i64 0, .int .i64 0, .int .i64 0, .int .i64 0, .int .i64 0, .int .i64 0, .int .i64 0, .bool false, .int .i64 0, .int .i64 0, .int .i64 0, .int .i64 0, .slice none 0 0] 44)
    clear hm8 HGT hGr
    cases hJ : J G with
    | some d =>
      as_aux_lemma =>
        rw [hJ] at hub
        simp only [Option.isSome_some, Option.getD_some] at hub ⊢
        obtain ⟨ao, cq, rfl⟩ := hub.shape
        have HJ : Hid (J G = some d) := hJ
        clear hJ hub
        unfold dv
        have hG2 : 1 ≤ G ∧ G ≤ 40 := HGR.out
        go_wp2_with (refine wpList_store_row info18 rfl rfl _ _ rfl w8.heap.size #[.int .i64 d.q, .int .i64 d.r, .int .i64 d.n, .int .i64 d.s, .int .i64 d.t, .int .i64 d.m.kind, .int .i64 d.m.origin, .int .i64 d.m.life, .int .i64 d.m.id, .int .i64 d.m.part, .int .i64 d.m.parts, .int .i64 d.m.groups, .bool d.m.safe, .int .i64 d.m.st, .int .i64 d.m.rs, .int .i64 d.m.rr, .int .i64 d.m.sq, .slice ao d.m.body.length cq] rfl rfl hZr.out rfl rfl rfl ?_; intro wF hBF hMF)
        have HMF : Hid (Mod (fun _ => False) w7 wF) := HM8.out.and (hA.trans hMF (V := fun _ => False) (fun _ _ h => h) (fun i hi h => by omega))
        clear hA hMF hBF hZr
        go_roundw
        case rel => exact ⟨gg + 1, by rw [HG.out]; go_num, (fun i hi => by
          rcases Nat.lt_or_ge i gg with h1 | h1
          · exact hgs.out i h1
          · obtain rfl : i = gg := by omega
            rw [← HG.out, HJ.out]; rfl), HMF⟩
        case measure =>
          have := HGR.out
          simp [intOf]
          omega
    | none =>
      rw [hJ] at hub
      simp only [Option.isSome_none, Option.getD_none] at hub ⊢
      obtain ⟨ao, cp2, rfl⟩ : ∃ ao cp2, ub = .slice ao 0 cp2 := hub.shape
      have HJ : Hid (J G = none) := hJ
      clear hJ hub
      unfold dv d0
      go_upto_region 16 with (refine wpList_store_row info18 rfl rfl _ _ rfl w8.heap.size #[.int .i64 0, .int .i64 0, .int .i64 0, .int .i64 0, .int .i64 0, .int .i64 0, .int .i64 0, .int .i64 0, .int .i64 0, .int .i64 0, .int .i64 0, .int .i64 0, .bool false, .int .i64 0, .int .i64 0, .int .i64 0, .int .i64 0, .slice ao 0 cp2] rfl rfl hZr.out rfl rfl rfl ?_; intro wF hBF hMF)
      have HMF : Hid (Mod (fun _ => False) w7 wF) := HM8.out.and (hA.trans hMF (V := fun _ => False) (fun _ _ h => h) (fun i hi h => by omega))
      have HOK : Hid (okL kq s G N 0 EL = true) := by
        show _ = _
        rw [HEL.out]
        exact tld_ok HP.out HNR.out.1 HNC.out.1 HNC.out.2 HJ.out (fun y h1 h2 => by
          have h3 := hgs.out (y - N - 1).toNat (by have := HG.out; omega)
          rwa [show N + 1 + ((y - N - 1).toNat : Int) = y by omega] at h3) (by have := HG.out; omega)
      clear hA hMF hBF hZr hgs HM8 hmr
      obtain ⟨wG, ewG⟩ : ∃ W, W = wF := ⟨_, rfl⟩
      subst ewG
      go_wp2_with (fail)
      go_loopw [11, 12, 16] (fun lz tz iz wr => ∃ (j : Nat) (l t : Int), iz = .int .i64 (j : Int) ∧ lz = .int .i64 l ∧ tz = .int .i64 t ∧ j ≤ EL.length ∧ Hid (okL kq s G l t (EL.drop j) = true) ∧ 0 ≤ t ∧ t ≤ j ∧ Hid (Mod (fun _ => False) w7 wr)) (fun _ _ iz _ => EL.length - (intOf iz).toNat)
      case atStart => exact ⟨0, N, 0, rfl, rfl, rfl, Nat.zero_le _, HOK.out, by omega, by omega, HMF.out⟩
      case round =>
        obtain ⟨j, l, t, rfl, rfl, rfl, hj, hok, ht0, htj, hmr⟩ := hrel
        have hls : (es.length : Int) = (EL.length : Int) + 1 := by have := HLN.out.1; omega
        have HHL : Hid ((es.length : Int) = (EL.length : Int) + 1) := hls
        by_cases hlt : j < EL.length
        · have hlt1 : (j : Int) < (es.length : Int) - 1 := by omega
          have hlt2 : (j : Int) < (es.length : Int) := by omega
          have hj0 : (0 : Int) ≤ (j : Int) := by omega
          have HLT : Hid (j < EL.length ∧ 0 ≤ t ∧ t ≤ j ∧ es.length ≤ 3000000) := ⟨hlt, ht0, htj, HLN.out.2.2⟩
          have ht2 : t ≤ 3000000 := by omega
          obtain ⟨⟨e, u⟩, hx⟩ : ∃ x, es[j]? = some x := ⟨_, List.getElem?_eq_getElem (by omega)⟩
          have hEj : EL[j]? = some e := by
            have h2 : (es.map (·.1))[j]? = some e := by rw [List.getElem?_map, hx]; rfl
            rwa [HMP.out, List.getElem?_append_left hlt] at h2
          have hdr : EL.drop j = e :: EL.drop (j + 1) := by
            obtain ⟨h1, h2⟩ := List.getElem?_eq_some_iff.1 hEj
            rw [List.drop_eq_getElem_cons h1, h2]
          have hok2 := hok.out
          rw [hdr, okL] at hok2
          have HR := HRE.out.keep (HM67.out.and hmr.out)
          obtain ⟨ow, -, -⟩ := HR.each _ (List.mem_of_getElem? hx)
          simp only at ow
          obtain ⟨ao, cq, rfl⟩ := ow.shape
          obtain ⟨g', of', cp', e', hrg⟩ := HR.row.range (by omega)
          simp only [Value.slice.injEq, Option.some.injEq, Addr.mk.injEq, and_true, true_and] at e'
          obtain ⟨⟨rfl, rfl⟩, rfl⟩ := e'
          have hcl : ∀ k c, (ecl e (.slice ao e.d.m.body.length cq))[k]? = some c → wr.cell? ⟨g, of + (j * 26 + k), none⟩ = some c := fun k c hk => hrg (j * 26 + k) _ (fe_get es j _ hx k c hk)
          have x0 : wr.cell? ⟨g, of + j * 26 + 8, none⟩ = some (.int .i64 e.d.q) := by have := hcl 8 _ rfl; rwa [← Nat.add_assoc] at this
          have x1 : wr.cell? ⟨g, of + j * 26 + 9, none⟩ = some (.int .i64 e.d.r) := by have := hcl 9 _ rfl; rwa [← Nat.add_assoc] at this
          have x2 : wr.cell? ⟨g, of + j * 26 + 10, none⟩ = some (.int .i64 e.d.n) := by have := hcl 10 _ rfl; rwa [← Nat.add_assoc] at this
          have x3 : wr.cell? ⟨g, of + j * 26 + 11, none⟩ = some (.int .i64 e.d.s) := by have := hcl 11 _ rfl; rwa [← Nat.add_assoc] at this
          have x4 : wr.cell? ⟨g, of + j * 26 + 12, none⟩ = some (.int .i64 e.d.t) := by have := hcl 12 _ rfl; rwa [← Nat.add_assoc] at this
          have x5 : wr.cell? ⟨g, of + j * 26 + 13, none⟩ = some (.int .i64 e.d.m.kind) := by have := hcl 13 _ rfl; rwa [← Nat.add_assoc] at this
          have x6 : wr.cell? ⟨g, of + j * 26 + 14, none⟩ = some (.int .i64 e.d.m.origin) := by have := hcl 14 _ rfl; rwa [← Nat.add_assoc] at this
          have x7 : wr.cell? ⟨g, of + j * 26 + 15, none⟩ = some (.int .i64 e.d.m.life) := by have := hcl 15 _ rfl; rwa [← Nat.add_assoc] at this
          have x8 : wr.cell? ⟨g, of + j * 26 + 16, none⟩ = some (.int .i64 e.d.m.id) := by have := hcl 16 _ rfl; rwa [← Nat.add_assoc] at this
          have x9 : wr.cell? ⟨g, of + j * 26 + 17, none⟩ = some (.int .i64 e.d.m.part) := by have := hcl 17 _ rfl; rwa [← Nat.add_assoc] at this
          have x10 : wr.cell? ⟨g, of + j * 26 + 18, none⟩ = some (.int .i64 e.d.m.parts) := by have := hcl 18 _ rfl; rwa [← Nat.add_assoc] at this
          have x11 : wr.cell? ⟨g, of + j * 26 + 19, none⟩ = some (.int .i64 e.d.m.groups) := by have := hcl 19 _ rfl; rwa [← Nat.add_assoc] at this
          have x12 : wr.cell? ⟨g, of + j * 26 + 20, none⟩ = some (.bool e.d.m.safe) := by have := hcl 20 _ rfl; rwa [← Nat.add_assoc] at this
          have x13 : wr.cell? ⟨g, of + j * 26 + 21, none⟩ = some (.int .i64 e.d.m.st) := by have := hcl 21 _ rfl; rwa [← Nat.add_assoc] at this
          have x14 : wr.cell? ⟨g, of + j * 26 + 22, none⟩ = some (.int .i64 e.d.m.rs) := by have := hcl 22 _ rfl; rwa [← Nat.add_assoc] at this
          have x15 : wr.cell? ⟨g, of + j * 26 + 23, none⟩ = some (.int .i64 e.d.m.rr) := by have := hcl 23 _ rfl; rwa [← Nat.add_assoc] at this
          have x16 : wr.cell? ⟨g, of + j * 26 + 24, none⟩ = some (.int .i64 e.d.m.sq) := by have := hcl 24 _ rfl; rwa [← Nat.add_assoc] at this
          have x17 : wr.cell? ⟨g, of + j * 26 + 25, none⟩ = some (.slice ao e.d.m.body.length cq) := by have := hcl 25 _ rfl; rwa [← Nat.add_assoc] at this
          have cn : wr.cell? ⟨gu, ou + j, none⟩ = some (.int .i64 (evN e)) := HNUM.out wr hmr.out j _ hx
          have HMR : Hid (Mod (fun _ => False) w7 wr) := hmr
          have HSZ : Hid (w7.heap.size ≤ wr.heap.size) := hmr.out.size
          have hZr : Hid (Bk _ _ _ _) := Bk.new wr #[.int .i64 0, .int .i64 0, .int .i64 0, .int .i64 0, .int .i64 0, .int .i64 0, .int .i64 0, .int .i64 0, .int .i64 0, .int .i64 0, .int .i64 0, .int .i64 0, .bool false, .int .i64 0, .int .i64 0, .int .i64 0, .int .i64 0, .slice none 0 0] 44
          have hA := (Mod.refl (fun _ => False) wr).alloc (.cells #[.int .i64 0, .int .i64 0, .int .i64 0, .int .i64 0, .int .i64 0, .int .i64 0, .int .i64 0, .int .i64 0, .int .i64 0, .int .i64 0, .int .i64 0, .int .i64 0, .bool false, .int .i64 0, .int .i64 0, .int .i64 0, .int .i64 0, .slice none 0 0] 44)
          have hcn := fun W hW => (HNUM.out W hW j (e, .slice ao e.d.m.body.length cq) hx)
          have HCN : Hid (∀ W, Mod (fun _ => False) w7 W → W.cell? ⟨gu, ou + j, none⟩ = some (.int .i64 (evN e))) := hcn
          have HIX : Hid (e.d = e.d) := rfl
          generalize evN e = z at hok2 cn HCN
          clear hcl hrg HR ow hdr hEj hx hj hok hlt hmr hcn HIX hls
          generalize e.d = d at *
          by_cases hz : z = 0
          · as_aux_lemma =>
              rw [if_pos hz] at hok2
              have HOK2 : Hid (okL kq s G l (t + 1) (EL.drop (j + 1)) = true) := hok2
              subst hz
              clear hok2
              go_upto_region 20 with (refine wpList_store_row info18 rfl rfl _ _ rfl wr.heap.size #[.int .i64 d.q, .int .i64 d.r, .int .i64 d.n, .int .i64 d.s, .int .i64 d.t, .int .i64 d.m.kind, .int .i64 d.m.origin, .int .i64 d.m.life, .int .i64 d.m.id, .int .i64 d.m.part, .int .i64 d.m.parts, .int .i64 d.m.groups, .bool d.m.safe, .int .i64 d.m.st, .int .i64 d.m.rs, .int .i64 d.m.rr, .int .i64 d.m.sq, .slice ao d.m.body.length cq] rfl rfl hZr.out rfl rfl rfl ?_; intro wF hBF hMF)
              have hq : Mod (fun _ => False) wr wF := hA.trans hMF (V := fun _ => False) (fun _ _ h => h) (fun i hi h => by omega)
              have HMF2 : Hid (Mod (fun _ => False) w7 wF) := HMR.out.and hq
              have cn2 := HCN.out wF HMF2.out
              clear hA hMF hq hBF hZr cn x0 x1 x2 x3 x4 x5 x6 x7 x8 x9 x10 x11 x12 x13 x14 x15 x16 x17
              go_wp2
              go_roundw
              case rel => exact ⟨j + 1, l, t + 1, by go_num, rfl, rfl, HLT.out.1, HOK2.out, by have := HLT.out; omega, by have := HLT.out; omega, HMF2.out⟩
              case measure =>
                have := HLT.out.1
                simp [intOf]
                omega
          · as_aux_lemma =>
              rw [if_neg hz] at hok2
              simp only [Bool.and_eq_true, decide_eq_true_eq, bne_iff_ne, ne_eq] at hok2
              obtain ⟨o1, o2, o3, o4⟩ := hok2
              have hzb : (z == 0) = false := by simp [hz]
              have h5b : (d.m.kind == 5) = false := by simp [o2]
              have hlz : ¬ z ≤ l := by omega
              have HOK2 : Hid (okL kq s G z t (EL.drop (j + 1)) = true) := o4
              have HO3 : Hid ((((t == 0) && ((d.m.safe && decide (s < d.n)) || decide (G < d.n))) || (decide (G < d.n) && !Cr.has kq d.s)) = false) := by
                show _ = _
                simpa only [Bool.not_eq_true'] using o3
              clear o1 o2 o3 o4 hz
              go_upto_region 20 with (refine wpList_store_row info18 rfl rfl _ _ rfl wr.heap.size #[.int .i64 d.q, .int .i64 d.r, .int .i64 d.n, .int .i64 d.s, .int .i64 d.t, .int .i64 d.m.kind, .int .i64 d.m.origin, .int .i64 d.m.life, .int .i64 d.m.id, .int .i64 d.m.part, .int .i64 d.m.parts, .int .i64 d.m.groups, .bool d.m.safe, .int .i64 d.m.st, .int .i64 d.m.rs, .int .i64 d.m.rr, .int .i64 d.m.sq, .slice ao d.m.body.length cq] rfl rfl hZr.out rfl rfl rfl ?_; intro wF hBF hMF)
              have hq : Mod (fun _ => False) wr wF := hA.trans hMF (V := fun _ => False) (fun _ _ h => h) (fun i hi h => by omega)
              have HMF2 : Hid (Mod (fun _ => False) w7 wF) := HMR.out.and hq
              have cn2 := HCN.out wF HMF2.out
              obtain ⟨db, edb⟩ : ∃ db, db = wr.heap.size := ⟨_, rfl⟩
              rw [← edb] at hBF ⊢
              have q5 : wF.cell? ⟨db, 5, none⟩ = some (.int .i64 d.m.kind) := hBF.cellv (j := 5) rfl
              have HBK : Hid (Bk wF kb 57 #[.slice va L.length vc, .int .i64 k]) := HB.out.mod ((HM3.out.and HM27.out).and HMF2.out) (fun h => h)
              have HBF : Hid (Bk wF db 44 #[.int .i64 d.q, .int .i64 d.r, .int .i64 d.n, .int .i64 d.s, .int .i64 d.t, .int .i64 d.m.kind, .int .i64 d.m.origin, .int .i64 d.m.life, .int .i64 d.m.id, .int .i64 d.m.part, .int .i64 d.m.parts, .int .i64 d.m.groups, .bool d.m.safe, .int .i64 d.m.st, .int .i64 d.m.rs, .int .i64 d.m.rr, .int .i64 d.m.sq, .slice ao d.m.body.length cq]) := hBF
              clear hA hMF hq hBF hZr cn edb x0 x1 x2 x3 x4 x5 x6 x7 x8 x9 x10 x11 x12 x13 x14 x15 x16 x17
              go_upto_region 25 with (fail)
              refine rco db kb t s G d.n d.s k kq d.m.safe (Cr.has kq d.s) (.slice va L.length vc) ⟨⟨⟨_, rfl, rfl, rfl, rfl, by decide +kernel⟩⟩, ⟨⟨_, rfl, rfl, rfl, rfl, by decide +kernel⟩⟩, ⟨⟨_, rfl, rfl, rfl, rfl, by decide +kernel⟩⟩, ⟨⟨_, rfl, rfl, rfl, rfl, by decide +kernel⟩⟩, ⟨⟨_, rfl, rfl, rfl, rfl, by decide +kernel⟩⟩, ⟨⟨_, rfl, rfl, rfl, rfl, by decide +kernel⟩⟩, ⟨⟨_, rfl, rfl, rfl, rfl, by decide +kernel⟩⟩, ⟨⟨_, rfl, rfl, rfl, rfl, by decide +kernel⟩⟩, ⟨⟨_, rfl, rfl, rfl, rfl, by decide +kernel⟩⟩, ⟨⟨_, rfl, rfl, rfl, rfl, by decide +kernel⟩⟩, ⟨⟨_, rfl, rfl, rfl, rfl, by decide +kernel⟩⟩, ⟨⟨_, rfl, rfl, rfl, rfl, by decide +kernel⟩⟩, ⟨⟨_, rfl, rfl, rfl, rfl, by decide +kernel⟩⟩, ⟨⟨_, rfl, rfl, rfl, rfl, by decide +kernel⟩⟩, ⟨⟨_, rfl, rfl, rfl, rfl, by decide +kernel⟩⟩, ⟨⟨_, rfl, rfl, rfl, rfl, by decide +kernel⟩⟩, ⟨⟨_, rfl, rfl, rfl, rfl, by decide +kernel⟩⟩, ⟨⟨_, rfl, rfl, rfl, rfl, by decide +kernel⟩⟩, ⟨⟨_, rfl, rfl, rfl, rfl, by decide +kernel⟩⟩, ⟨⟨_, rfl, rfl, rfl, rfl, by decide +kernel⟩⟩, ⟨⟨_, rfl, rfl, rfl, rfl, by decide +kernel⟩⟩, ⟨⟨_, rfl, rfl, rfl, rfl, by decide +kernel⟩⟩, ⟨⟨_, rfl, rfl, rfl, rfl, by decide +kernel⟩⟩, ⟨⟨_, rfl, rfl, rfl, rfl, by decide +kernel⟩⟩, ⟨⟨_, rfl, rfl, rfl, rfl, by decide +kernel⟩⟩, ⟨⟨_, rfl, rfl, rfl, rfl, by decide +kernel⟩⟩, ⟨⟨_, rfl, rfl, rfl, rfl, by decide +kernel⟩⟩, ⟨⟨_, rfl, rfl, rfl, rfl, by decide +kernel⟩⟩, ⟨⟨_, rfl, rfl, rfl, rfl, by decide +kernel⟩⟩, ⟨⟨_, rfl, rfl, rfl, rfl, by decide +kernel⟩⟩, ⟨⟨_, rfl, rfl, rfl, rfl, by decide +kernel⟩⟩, ⟨⟨_, rfl, rfl, rfl, rfl, by decide +kernel⟩⟩, ⟨⟨_, rfl, rfl, rfl, rfl, by decide +kernel⟩⟩⟩ rfl (by decide +kernel) rfl (by decide +kernel) rfl rfl rfl rfl rfl rfl (HBF.out.cellv rfl) (HBF.out.cellv rfl) (HBF.out.cellv rfl) (HBK.out.cellv rfl) (HBK.out.cellv rfl) (fun W _ => HKIN W) (fun W _ => (Cr.Has kq d.s W).mono fun e w' hh => ⟨hh.1, hh.2 ▸ Mod.refl _ _⟩) ?_
              intro f w9 hm9
              simp only [puts, Act.put, List.setIfInBounds_toArray, List.set_cons_succ, List.set_cons_zero]
              rw [HO3.out]
              have HM9 : Hid (Mod (fun _ => False) w7 w9) := HMF2.out.and hm9
              clear hm9 q5 cn2 h5b hzb
              go_wp2
              go_roundw
              case rel => exact ⟨j + 1, z, t, by go_num, rfl, rfl, HLT.out.1, HOK2.out, by have := HLT.out; omega, by have := HLT.out; omega, HM9.out⟩
              case measure =>
                have := HLT.out.1
                simp [intOf]
                omega
        · have hje : j = EL.length := by omega
          have hlt' : ¬ (j : Int) < (es.length : Int) - 1 := by omega
          have hT : t = 1 := by
            have h1 := hok.out
            rw [hje, List.drop_length, okL] at h1
            simpa using h1
          subst hT
          clear hls hlt
          go_wp2
          go_ret
          exact ⟨rfl, HM17.out.and hmr.out⟩
namespace changeOrder
open Go.ChangeShapes Go.WideShapes Go.ChangeAt Go.RowKit
set_option maxRecDepth 100000 in
theorem lifted (os : Os) (started : os.Started) (H : Type) (enc : TypeId × Value → H) :
    ReturnsInHanded {} Try.checked os 5 .any (Rows.changeOrderSpec.pre6 enc Try.prog Try.f5 Rows.changeOrderRow.domain false) (Rows.changeOrderSpec.post enc Try.prog Try.f5 false true false false) := by
  refine returnsInHanded_of_change_sized (C := Try.checked) own started (by kernel_rfl) Try.func5
    (ChangeSpec.witness6 (enc := enc) (C := Try.checked) false ⟨#[], #[.agg #[.slice none 0 0, .int .i64 0], .int .i64 0, .int .i64 0], []⟩ 8 (by kernel_rfl) (by kernel_rfl) (by kernel_rfl) (by kernel_rfl)) ?_
  intro W base args ds gs before hval0 hW hcnd hsz0 _
  have hval : ∀ (j : Nat) t v, Try.f5.params[j]? = some t → args[j]? = some v → Value.okWide Try.prog W .any base t v := hval0
  have hsz : (DataW.weightsEach Try.prog (Try.f5.params.toList ++ Rows.changeOrderSpec.plain.varTypes Try.prog) (ds ++ gs)).all (· ≤ reachBytes) = true := hsz0
  have hW' := hW
  obtain ⟨p, q, hA0, hV, rfl, hfz, hnd⟩ := hW
  have hA : DataW.TrodAll enc Try.prog W 0 (fun _ => true) true Try.f5.params.toList args.toList ds p := hA0
  rw [Try.params5] at hA hval hsz
  obtain ⟨v0, vs0, d0, ds0, p0, q0, hargs, rfl, rfl, h0, r0⟩ := trodAll_cons hA
  obtain ⟨v1, vs1, d1, ds1, p1, q1, rfl, rfl, rfl, h1, r1⟩ := trodAll_cons r0
  obtain ⟨v2, vs2, d2, ds2, p2, q2, rfl, rfl, rfl, h2, r2⟩ := trodAll_cons r1
  obtain ⟨rfl, rfl, rfl⟩ := trodAll_nil r2
  obtain rfl : args = #[v0, v1, v2] := by cases args; simp_all
  obtain ⟨rfl, rfl⟩ := trodVars_none hV
  have k0 := h0
  have lt0 : ∀ x ∈ p0, x.block < W.heap.size := by obtain ⟨m, hm⟩ := k0; exact DataW.trod_lt m _ _ _ hm
  obtain ⟨u0, L0, k0x, rfl, hS0, _⟩ := open_story (hval 0 57 v0 rfl rfl) h0
  obtain ⟨a1, rfl, rfl, rfl, w1⟩ := open_int Try.underlying3 (hval 1 3 v1 rfl rfl) h1
  obtain ⟨a2, rfl, rfl, rfl, w2⟩ := open_int Try.underlying3 (hval 2 3 v2 rfl rfl) h2
  clear hA0 hval0
  refine (order_walk u0 L0 k0x a1 a2 W hS0 (i64_of_wf w1) (i64_of_wf w2)).mono fun e W' ⟨he, hm⟩ => ?_
  subst he
  have bel : Below W.heap.size W W' := hm.below _ (Nat.le_refl _) (fun _ h => h.elim)
  exact ⟨_, rfl, _, _, _, [], _, [], hW', trodAll_mk1 (shut_bool Try.underlying4 _), (trodAll_cons_mk (Below.trod laidOut (by kernel_rfl) (of_decide_eq_true (by kernel_rfl)) k0 bel lt0) (trodAll_cons_mk (shut_int Try.underlying3 w1) (trodAll_cons_mk (shut_int Try.underlying3 w2) trodAll_mk0))), rfl, bel.frame _, fun h => by cases h⟩

theorem over : Rows.changeOrderRow.holds Try.pinned (OpenSpec.ofChange Rows.changeOrderSpec) :=
  OpenClaim.holds_of_wide 5 Try.f5 rfl rfl rfl rfl rfl rfl rfl ⟨rfl, rfl, rfl, rfl, rfl⟩ rfl rfl rfl rfl rfl (by kernel_rfl) Try.func5 (by kernel_rfl)
    (of_decide_eq_true (by kernel_rfl)) (by unfold Func.isWrapper; first | (rw [if_pos (by decide +kernel)]; kernel_rfl) | (rw [if_neg (by decide +kernel)]; exact ⟨rfl, rfl⟩))
    (fun os started H enc _ => lifted os started H enc)
end changeOrder
theorem changeOrder_holds : Rows.ChangeOrderSaid := changeOrder.over
end Go.Proofs.Ytampdkbcijdpcaa
