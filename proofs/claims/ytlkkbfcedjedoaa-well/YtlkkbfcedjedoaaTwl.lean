/- TwinWell: one lane at least is well at any time, whatever comes over which; a lane that is never behind stays well. For every list and number; no conditions. -/
import Derived.Test.YtlkkbfcedjedoaaTw2
namespace Go.Proofs.Ytlkkbfcedjedoaa
open Go.RowKit
theorem Kf.cast {K : Int → Option Kw} {i j : Int} (h : Kf K i) (e : i = j) : Kf K j := e ▸ h
set_option maxRecDepth 100000 in
set_option maxHeartbeats 8000000 in
theorem well_walk (lv : Value) (l : List Int) (st : Int) (w : World) (hl : Si w lv l) (hst : I64 st) :
    Calls Try.prog 7 #[lv, .int .i64 st] w fun e w' => e = .returned (.bool true) ∧ Mod (fun _ => False) w w' := by
  obtain ⟨ao, cap, rfl, hf1, hf2, hf3, hf4⟩ := hl.form
  have hrl := hl.rng
  have HLc : Hid (∀ W, Mod (fun _ => False) w W → ∀ j, j < l.length → ∃ b off, ao = some ⟨b, off, none⟩ ∧ W.cell? ⟨b, off + j, none⟩ = some (.int .i64 (l.getD j 0))) := fun W hW j hj => by
    obtain ⟨b, off, rfl, hc⟩ := hf4 (by rintro rfl; simp at hj)
    exact ⟨b, off, rfl, hW.cell (hc j hj) (fun h => h)⟩
  have HBr : Hid (∀ (x : Int) (W : World), I64 x → ∃ L : Nat, L < 3 ∧ Calls Try.prog 20 #[.int .i64 x, .int .i64 3] W fun e w' => e = .returned (.int .i64 (L : Int)) ∧ w' = W) := fun x W hx => by
    have h := br_rng x 3 (by omega)
    refine ⟨(br x ((3 : Nat) : Int)).toNat, by omega, ?_⟩
    refine (bring x 3 W (by omega) (by omega) hx).mono ?_
    rintro e w' ⟨rfl, rfl⟩
    exact ⟨by congr 2; omega, rfl⟩
  have HR : Hid (∀ n ∈ l, I64 n) := hrl
  have HST : Hid (I64 st) := hst
  clear hl hf1 hf2 hf3 hf4 hrl hst
  go_enter Try.func7, Try.ntmps7
  go_wp2_with (fail)
  refine (works_any _).mono ?_
  rintro e w1 ⟨rfl, hm1⟩
  go_wp2_with (fail)
  refine (tNew_ok 2 3 3 true w1 rfl ⟨by omega, by omega⟩).mono ?_
  rintro e w2 ⟨t, X, rfl, hTt, hm2, hX⟩
  have hM2 := hm1.and hm2
  go_wp2_with (fail)
  refine (tNew_ok 2 3 3 true w2 rfl ⟨by omega, by omega⟩).mono ?_
  rintro e w3 ⟨u, Y, rfl, hTu, hm3, hY⟩
  have ok := ok0 (nd := 2) (lf := 3) (z := 3) true rfl ⟨by omega, by omega⟩
  have hE : E2 w w3 t u X Y (tn0 2 3 3 true) (tn0 2 3 3 true) (fun _ => none) (fun _ => none) 0 :=
    ⟨hM2.and hm3, hTt.mod hm3 (fun _ _ h => h), ok, hTu, ok, fun i hi hy => by have := hTt.lt i hi; have := hY i hy; omega, fun i hi => Nat.le_trans hm1.size (hX i hi), fun i hi => Nat.le_trans hM2.size (hY i hi)⟩
  obtain ⟨sd, hsd, HB1⟩ := HBr.out st w3 HST.out
  have hSt : Hid (Stv 0 (tn0 2 3 3 true) sd) := ⟨rfl, rfl, fun k _ _ => by simp [tn0]⟩
  have hAa : Hid ((tn0 2 3 3 true).sz = 3 ∧ (tn0 2 3 3 true).ac = true) := ⟨rfl, rfl⟩
  clear hm1 hm2 hm3 hTt hTu hX hY hM2 ok HST
  generalize tn0 2 3 3 true = a0 at hE hSt hAa
  go_wp2_with (fail)
  refine HB1.mono ?_
  rintro e w4 ⟨rfl, hw4⟩
  rw [hw4]
  clear hw4 HB1
  go_wp2
  go_loopw [9] (fun i wr => ∃ (I : Nat) (X Y : Nat → Prop) (a b : Tn) (Ka Kb : Int → Option Kw) (N : Nat), i = .int .i64 (I : Int) ∧ I ≤ 200 ∧ I ≤ l.length ∧ N ≤ 10 * I ∧ E2 w wr t u X Y a b Ka Kb N ∧ Hid (a.sz = 3 ∧ a.ac = true) ∧ Hid (Stv 0 b sd) ∧ Hid (Kf Ka I) ∧ Hid (Kf Kb I)) (fun i _ => 200 - (intOf i).toNat)
  case atStart => exact ⟨0, X, Y, a0, a0, _, _, 0, rfl, by omega, by omega, by omega, hE, hAa, hSt, .inl ⟨rfl, rfl⟩, .inl ⟨rfl, rfl⟩⟩
  case round =>
    obtain ⟨I, X1, Y1, a1, b1, Ka, Kb, N, rfl, hI, hIl, hN, hE1, hA, hS, hKa, hKb⟩ := hrel
    clear hE hSt hAa
    by_cases hlen : I < l.length
    · have hli : (I : Int) < (l.length : Int) := by omega
      by_cases h200 : I < 200
      · have h2i : (I : Int) < 200 := by omega
        obtain ⟨lb, lof, rfl, _⟩ := HLc.out w (Mod.refl _ w) I hlen
        obtain ⟨b', off', e', lc⟩ := HLc.out wr hE1.m I hlen
        cases e'
        have hx64 : I64 (l.getD I 0) := HR.out _ (getD_mem hlen)
        generalize l.getD I 0 = x at lc hx64
        obtain ⟨L, hL, HB⟩ := HBr.out x wr hx64
        clear hx64
        have hokf : okF 5 1 (1 + (I : Int)) 0 = true := by unfold okF; simp; omega
        have h1I : (1 : Int) + (I : Int) = 1 + (I : Int) := rfl
        go_wp2_with (fail)
        refine HB.mono ?_
        rintro e w5 ⟨rfl, hw5⟩
        rw [hw5]
        clear hw5 HB lc
        go_wp2_with (fail)
        refine (frame_none 5 1 (1 + (I : Int)) hokf wr).mono ?_
        rintro e w6 ⟨vb, rfl, hvb, hm6, hgb⟩
        have hE6 := hE1.mod hm6
        have hnb : ∀ g, vb.ownBlock = some g → ¬ X1 g ∧ ¬ Y1 g := fun g hg => ⟨fun h => by have := hE1.tt.lt g h; have := hgb g hg; omega, fun h => by have := hE1.uu.lt g h; have := hgb g hg; omega⟩
        have hbl : ∀ g, vb.ownBlock = some g → g < w6.heap.size := hvb.lt (by rw [(paD_ok hokf).2]; intro e; have := congrArg List.length e; rw [Sm.sealed_len] at this; simp at this)
        obtain ⟨n1, n2⟩ := hKa.out.new
        have HC1 := comes_fr hE6.tt (N := N) (by omega) hE6.ta L (by rw [hA.out.1]; omega) hvb hokf
        rw [n1] at HC1
        have HK1 : Hid (Kf (nwK Ka 5 1 (1 + (I : Int))) (1 + (I : Int))) := n2
        clear n1 n2 hE1 hm6 hgb hKa
        go_wp2_with (fail)
        refine HC1.mono ?_
        rintro e w7 ⟨X2, rfl, hT7, hm7, hG7⟩
        have hE7 := hE6.t hT7 (hE6.ta.came L) hm7 hG7
        have hvb7 := hvb.mod hm7 (fun g hg => (hnb g hg).1)
        have hnb7 : ∀ g, vb.ownBlock = some g → ¬ Y1 g := fun g hg => (hnb g hg).2
        obtain ⟨n1, n2⟩ := hKb.out.new
        have HC2 := comes_fr hE7.uu (N := N + 1) (by omega) hE7.ub sd (by rw [hS.out.1]; omega) hvb7 hokf
        rw [n1] at HC2
        have HK2 : Hid (Kf (nwK Kb 5 1 (1 + (I : Int))) (1 + (I : Int))) := n2
        have hS2 : Hid (Stv 1 (b1.came sd) sd) := hS.out.same hE7.ub hsd
        have hA2 : Hid ((a1.came L).sz = 3 ∧ (a1.came L).ac = true) := hA
        clear n1 n2 HC1 hT7 hm7 hG7 hE6 hvb hnb hKb hS hA
        go_wp2_with (fail)
        refine HC2.mono ?_
        rintro e w8 ⟨Y2, rfl, hT8, hm8, hG8⟩
        have hE8 := hE7.u hT8 (hE7.ub.came sd) hm8 hG8
        have hvb8 := hvb7.mod hm8 hnb7
        clear HC2 hT8 hm8 hG8 hE7 hvb7 hnb7
        generalize a1.came L = a2 at *
        generalize b1.came sd = b2 at *
        generalize nwK Ka 5 1 (1 + (I : Int)) = Ka2 at *
        generalize nwK Kb 5 1 (1 + (I : Int)) = Kb2 at *
        by_cases hLs : L = sd
        · have hne : ((L : Int) != (sd : Int)) = false := by simp; omega
          have hS3 : Hid (Stv 0 b2 sd) := hS2.out.less
          have HK3 := HK2
          have hE9 : Hid (E2 w w8 t u X2 Y2 a2 b2 Ka2 Kb2 (N + 1 + 1)) := hE8
          clear hS2 HK2 hvb8 hbl
          have hFt := tFaulty hE9.out.tt hE9.out.ta
          have hFu := tFaulty hE9.out.uu hE9.out.ub
          rw [hA2.out.1] at hFt
          rw [hS3.out.1] at hFu
          have hr7 := faulty_rng hE9.out.ta hA2.out.1
          have hn7 : (((on a2.f true 3 : Nat) : Int) == 7) = false := by simp; omega
          have hn8 : ¬ (7 : Int) < ((on a2.f true 3 : Nat) : Int) := by omega
          have hnb := not_bit hsd hS3.out.2.1
          have hnf := not_faulty a2.f
          have HWr := tWrap_ok hE9.out.tt (N := N + 1 + 1) (by omega) hE9.out.ta (.slice none 0 0) [] ((Own.nil _).sl (by simp)) (by simp)
          have hov : a2.ser.over = on a2.f false 3 := by
            unfold Tn.over
            have e1 : a2.ser.ac = true := hA2.out.2
            have e2 : a2.ser.sz = 3 := hA2.out.1
            rw [e1, e2]
            rfl
          rw [hov] at HWr
          have hEN : Hid (∀ w', Tw w' t X2 a2.wrap Ka2 → Mod (fun i => i = t) w8 w' → E2 w w' t u X2 Y2 a2.wrap (b2) Ka2 (Kb2) (N + 1 + 1 + 1)) := fun w' h1 h2 => hE9.out.t h1 hE9.out.ta.wrap (h2.mono (fun i _ e => by rw [e]; exact hE9.out.tt.px)) (Gone.refl _ _)
          have hA3 : Hid (a2.wrap.sz = 3 ∧ a2.wrap.ac = true) := by
            have e1 : a2.ser.ac = true := hA2.out.2
            have e3 : a2.wrap = a2.ser := by unfold Tn.wrap Tn.went; rw [e1]; rfl
            rw [e3]; exact hA2.out
          have hok3 := hE9.out.ta.wrap
          have hfw : a2.wrap.f = a2.f := by
            have e1 : a2.ser.ac = true := hA2.out.2
            have e3 : a2.wrap = a2.ser := by unfold Tn.wrap Tn.went; rw [e1]; rfl
            rw [e3]; rfl
          have HF3 : Hid (∀ w', Tw w' t X2 a2.wrap Ka2 → Calls Try.prog 27 #[.pointer (some ⟨t, 0, none⟩)] w' fun e w'' => e = .returned (.int .i64 (on a2.f true 3 : Nat)) ∧ w'' = w') := fun w' h1 => by
            have := tFaulty h1 hok3
            rw [hA3.out.1, hfw] at this
            exact this
          clear hov hfw hok3 hE9 hr7 hA2
          generalize on a2.f true 3 = F1 at *
          generalize on a2.f false 3 = F0 at *
          generalize on (b2).f true 3 = F2 at *
          generalize Sm.sealed (fby a2.nd a2.lf ((a2.se : Int) + 1) []) = SLx at *
          rw [show ((F2 / 2 ^ sd : Nat) : Int) = (F2 : Int) / 2 ^ sd by simp] at hnb
          go_wp2_with (fail)
          refine hFt.mono ?_
          rintro e wa ⟨rfl, hwa⟩
          rw [hwa]
          clear hwa
          go_wp2_with (fail)
          refine hFu.mono ?_
          rintro e wa ⟨rfl, hwa⟩
          rw [hwa]
          clear hwa
          go_wp2_with (fail)
          refine hFt.mono ?_
          rintro e wa ⟨rfl, hwa⟩
          rw [hwa]
          clear hwa
          go_wp2_with (fail)
          refine hFt.mono ?_
          rintro e wa ⟨rfl, hwa⟩
          rw [hwa]
          clear hwa hnb
          go_wp2_with (fail)
          refine HWr.mono ?_
          rintro e wb ⟨vx, rfl, hox, hTx, hmx, hgx⟩
          go_wp2_with (fail)
          refine (HF3.out wb hTx).mono ?_
          rintro e wc ⟨rfl, hwc⟩
          rw [hwc]
          clear hwc
          go_wp2
          clear hnf hn7
          go_roundw
          case rel => exact ⟨I + 1, X2, Y2, _, _, _, _, N + 1 + 1 + 1, by go_num, by omega, by omega, by omega, hEN.out _ hTx hmx, hA3, hS3, HK1.out.cast (by omega), HK3.out.cast (by omega)⟩
          case measure => simp [intOf]; omega
        · have hne : ((L : Int) != (sd : Int)) = true := by simp; omega
          have HC3 : Calls Try.prog 30 #[.pointer (some ⟨u, 0, none⟩), .int .i64 (L : Int), vb] w8 fun e w' => ∃ (z : Int) (X' : Nat → Prop), e = .returned (.int .i64 z) ∧ Tw w' u X' (b2.came L) (nwK Kb2 5 1 (1 + (I : Int))) ∧ Mod Y2 w8 w' ∧ Gone w8 Y2 X' := by
            refine (comes_fr hE8.uu (N := N + 1 + 1) (by omega) hE8.ub L (by rw [hS2.out.1]; omega) hvb8 hokf).mono ?_
            rintro e w' ⟨X', rfl, h⟩
            exact ⟨_, X', rfl, h⟩
          go_wp2_with (fail)
          refine HC3.mono ?_
          rintro e w9 ⟨z9, Y3, rfl, hT9, hm9, hG9⟩
          have hE9 : Hid (E2 w w9 t u X2 Y3 a2 (b2.came L) Ka2 (nwK Kb2 5 1 (1 + (I : Int))) (N + 1 + 1 + 1)) := hE8.u hT9 (hE8.ub.came L) hm9 hG9
          have hS3 : Hid (Stv 0 (b2.came L) sd) := hS2.out.other hE8.ub hsd hLs
          have HK3 : Hid (Kf (nwK Kb2 5 1 (1 + (I : Int))) (1 + (I : Int))) := HK2.out.again (by omega)
          clear hS2 HK2 hvb8 hbl HC3 hT9 hm9 hG9 hE8
          have hFt := tFaulty hE9.out.tt hE9.out.ta
          have hFu := tFaulty hE9.out.uu hE9.out.ub
          rw [hA2.out.1] at hFt
          rw [hS3.out.1] at hFu
          have hr7 := faulty_rng hE9.out.ta hA2.out.1
          have hn7 : (((on a2.f true 3 : Nat) : Int) == 7) = false := by simp; omega
          have hn8 : ¬ (7 : Int) < ((on a2.f true 3 : Nat) : Int) := by omega
          have hnb := not_bit hsd hS3.out.2.1
          have hnf := not_faulty a2.f
          have HWr := tWrap_ok hE9.out.tt (N := N + 1 + 1 + 1) (by omega) hE9.out.ta (.slice none 0 0) [] ((Own.nil _).sl (by simp)) (by simp)
          have hov : a2.ser.over = on a2.f false 3 := by
            unfold Tn.over
            have e1 : a2.ser.ac = true := hA2.out.2
            have e2 : a2.ser.sz = 3 := hA2.out.1
            rw [e1, e2]
            rfl
          rw [hov] at HWr
          have hEN : Hid (∀ w', Tw w' t X2 a2.wrap Ka2 → Mod (fun i => i = t) w9 w' → E2 w w' t u X2 Y3 a2.wrap (b2.came L) Ka2 (nwK Kb2 5 1 (1 + (I : Int))) (N + 1 + 1 + 1 + 1)) := fun w' h1 h2 => hE9.out.t h1 hE9.out.ta.wrap (h2.mono (fun i _ e => by rw [e]; exact hE9.out.tt.px)) (Gone.refl _ _)
          have hA3 : Hid (a2.wrap.sz = 3 ∧ a2.wrap.ac = true) := by
            have e1 : a2.ser.ac = true := hA2.out.2
            have e3 : a2.wrap = a2.ser := by unfold Tn.wrap Tn.went; rw [e1]; rfl
            rw [e3]; exact hA2.out
          have hok3 := hE9.out.ta.wrap
          have hfw : a2.wrap.f = a2.f := by
            have e1 : a2.ser.ac = true := hA2.out.2
            have e3 : a2.wrap = a2.ser := by unfold Tn.wrap Tn.went; rw [e1]; rfl
            rw [e3]; rfl
          have HF3 : Hid (∀ w', Tw w' t X2 a2.wrap Ka2 → Calls Try.prog 27 #[.pointer (some ⟨t, 0, none⟩)] w' fun e w'' => e = .returned (.int .i64 (on a2.f true 3 : Nat)) ∧ w'' = w') := fun w' h1 => by
            have := tFaulty h1 hok3
            rw [hA3.out.1, hfw] at this
            exact this
          clear hov hfw hok3 hE9 hr7 hA2
          generalize on a2.f true 3 = F1 at *
          generalize on a2.f false 3 = F0 at *
          generalize on (b2.came L).f true 3 = F2 at *
          generalize Sm.sealed (fby a2.nd a2.lf ((a2.se : Int) + 1) []) = SLx at *
          rw [show ((F2 / 2 ^ sd : Nat) : Int) = (F2 : Int) / 2 ^ sd by simp] at hnb
          go_wp2_with (fail)
          refine hFt.mono ?_
          rintro e wa ⟨rfl, hwa⟩
          rw [hwa]
          clear hwa
          go_wp2_with (fail)
          refine hFu.mono ?_
          rintro e wa ⟨rfl, hwa⟩
          rw [hwa]
          clear hwa
          go_wp2_with (fail)
          refine hFt.mono ?_
          rintro e wa ⟨rfl, hwa⟩
          rw [hwa]
          clear hwa
          go_wp2_with (fail)
          refine hFt.mono ?_
          rintro e wa ⟨rfl, hwa⟩
          rw [hwa]
          clear hwa hnb
          go_wp2_with (fail)
          refine HWr.mono ?_
          rintro e wb ⟨vx, rfl, hox, hTx, hmx, hgx⟩
          go_wp2_with (fail)
          refine (HF3.out wb hTx).mono ?_
          rintro e wc ⟨rfl, hwc⟩
          rw [hwc]
          clear hwc
          go_wp2
          clear hnf hn7
          go_roundw
          case rel => exact ⟨I + 1, X2, Y3, _, _, _, _, N + 1 + 1 + 1 + 1, by go_num, by omega, by omega, by omega, hEN.out _ hTx hmx, hA3, hS3, HK1.out.cast (by omega), HK3.out.cast (by omega)⟩
          case measure => simp [intOf]; omega
      · have h2i : ¬ (I : Int) < 200 := by omega
        go_wp2
        go_ret
        exact ⟨rfl, hE1.m⟩
    · have hli : ¬ (I : Int) < (l.length : Int) := by omega
      go_wp2
      go_ret
      exact ⟨rfl, hE1.m⟩
namespace twinWell
open Go.ChangeShapes Go.WideShapes Go.ChangeAt Go.RowKit
set_option maxRecDepth 100000 in
theorem lifted (os : Os) (started : os.Started) (H : Type) (enc : TypeId × Value → H) :
    ReturnsInHanded {} Try.checked os 7 .any (Rows.twinWellSpec.pre6 enc Try.prog Try.f7 Rows.twinWellRow.domain false) (Rows.twinWellSpec.post enc Try.prog Try.f7 false true false false) := by
  refine returnsInHanded_of_change_sized (C := Try.checked) own started (by kernel_rfl) Try.func7
    (ChangeSpec.witness6 (enc := enc) (C := Try.checked) false ⟨#[], #[.slice none 0 0, .int .i64 0], []⟩ 8 (by kernel_rfl) (by kernel_rfl) (by kernel_rfl) (by kernel_rfl)) ?_
  intro W base args ds gs before hval0 hW hcnd hsz0 _
  have hval : ∀ (j : Nat) t v, Try.f7.params[j]? = some t → args[j]? = some v → Value.okWide Try.prog W .any base t v := hval0
  have hsz : (DataW.weightsEach Try.prog (Try.f7.params.toList ++ Rows.twinWellSpec.plain.varTypes Try.prog) (ds ++ gs)).all (· ≤ reachBytes) = true := hsz0
  have hW' := hW
  obtain ⟨p, q, hA0, hV, rfl, hfz, hnd⟩ := hW
  have hA : DataW.TrodAll enc Try.prog W 0 (fun _ => true) true Try.f7.params.toList args.toList ds p := hA0
  rw [Try.params7] at hA hval hsz
  obtain ⟨v0, vs0, d0, ds0, p0, q0, hargs, rfl, rfl, h0, r0⟩ := trodAll_cons hA
  obtain ⟨v1, vs1, d1, ds1, p1, q1, rfl, rfl, rfl, h1, r1⟩ := trodAll_cons r0
  obtain ⟨rfl, rfl, rfl⟩ := trodAll_nil r1
  obtain rfl : args = #[v0, v1] := by cases args; simp_all
  obtain ⟨rfl, rfl⟩ := trodVars_none hV
  have k0 := h0
  have lt0 : ∀ x ∈ p0, x.block < W.heap.size := by obtain ⟨m, hm⟩ := k0; exact DataW.trod_lt m _ _ _ hm
  obtain ⟨B0, hB0⟩ := open_l h0 (okWide_slice Try.underlying55 (hval 0 55 v0 rfl rfl))
  obtain ⟨a1, rfl, rfl, rfl, w1⟩ := open_int Try.underlying3 (hval 1 3 v1 rfl rfl) h1
  clear hA0 hval0
  refine (well_walk v0 B0 a1 W hB0 (i64_of_wf w1)).mono fun e W' ⟨he, hm⟩ => ?_
  subst he
  have bel : Below W.heap.size W W' := hm.below _ (Nat.le_refl _) (fun _ h => h.elim)
  exact ⟨_, rfl, _, _, _, [], _, [], hW', trodAll_mk1 (shut_bool Try.underlying4 _), (trodAll_cons_mk (Below.trod laidOut (by kernel_rfl) (of_decide_eq_true (by kernel_rfl)) k0 bel lt0) (trodAll_cons_mk (shut_int Try.underlying3 w1) trodAll_mk0)), rfl, bel.frame _, fun h => by cases h⟩

theorem over : Rows.twinWellRow.holds Try.pinned (OpenSpec.ofChange Rows.twinWellSpec) :=
  OpenClaim.holds_of_wide 7 Try.f7 rfl rfl rfl rfl rfl rfl rfl ⟨rfl, rfl, rfl, rfl, rfl⟩ rfl rfl rfl rfl rfl (by kernel_rfl) Try.func7 (by kernel_rfl)
    (of_decide_eq_true (by kernel_rfl)) (by unfold Func.isWrapper; first | (rw [if_pos (by decide +kernel)]; kernel_rfl) | (rw [if_neg (by decide +kernel)]; exact ⟨rfl, rfl⟩))
    (fun os started H enc _ => lifted os started H enc)
end twinWell
theorem twinWell_holds : Rows.TwinWellSaid := twinWell.over
end Go.Proofs.Ytlkkbfcedjedoaa
