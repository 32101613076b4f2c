/- GatherGrows: whom a node hears only grows, by those alone that were heard themselves; its counter is the greatest so far; of any node and joins brought to what may be. No conditions. -/
import Derived.Test.YtmfdgbdcbfppcaaDi
namespace Go.Proofs.Ytmfdgbdcbfppcaa
open Go.RowKit
theorem hr_start (n : Int) (h : 1 ≤ n ∧ n ≤ 8) : hr n (fun _ => none) = 2 ^ n.toNat := by
  apply Nat.eq_of_testBit_eq
  intro i
  have hg : Gp n 0 0 (fun _ => none) := ⟨h, by omega, by omega, by simp⟩
  rw [hr_bit hg, Nat.testBit_two_pow]
  simp
  omega
theorem hr_grow {n c g : Int} {J : Int → Option Jo} (hg : Gp n c g J) {m q k : Int} (hm : 1 ≤ m ∧ m ≤ 8 ∧ 0 ≤ k ∧ k ≤ 9007199254740991) (hq : I64 q) : hr n J ||| 2 ^ m.toNat = hr n (upd J m (some ⟨q, k⟩)) := by
  apply Nat.eq_of_testBit_eq
  intro i
  rw [Nat.testBit_or, hr_bit hg, hr_bit (hg.hear hm hq), Nat.testBit_two_pow]
  by_cases e : (i : Int) = m
  · have : m.toNat = i := by omega
    rw [e, upd_same]
    simp [this]
  · have : ¬ m.toNat = i := by omega
    rw [upd_other _ _ e]
    simp [this]
theorem hr_own {n c g : Int} {J : Int → Option Jo} (hg : Gp n c g J) : hr n J ||| 2 ^ n.toNat = hr n J := by
  apply Nat.eq_of_testBit_eq
  intro i
  rw [Nat.testBit_or, hr_bit hg, Nat.testBit_two_pow]
  by_cases e : n.toNat = i
  · have : (i : Int) = n := by have := hg.node; omega
    simp [this, e]
  · simp [e]
theorem hr_hs {n c g : Int} {J : Int → Option Jo} (hg : Gp n c g J) {m : Int} (hm : 1 ≤ m ∧ m ≤ 8) : Cr.hs (Cr.lo (hr n J : Int)) m.toNat = (decide (m = n) || (J m).isSome) := by
  have e : Cr.lo ((hr n J : Nat) : Int) = hr n J := by
    have := hr_lt n J
    unfold Cr.lo
    omega
  have h1 : Nat.ble 1 m.toNat = true := by rw [Nat.ble_eq]; omega
  have h2 : Nat.ble m.toNat 8 = true := by rw [Nat.ble_eq]; omega
  rw [e, Cr.hs, h1, h2, Bool.true_and, Bool.true_and, hr_bit hg, Int.toNat_of_nonneg (by omega)]
theorem two_wrap' {x : Int} (h : 1 ≤ x ∧ x ≤ 8) : wrap64 (2 ^ x.toNat) = ((2 ^ x.toNat : Nat) : Int) := Cr.two_wrap (by simp [Cr.node]; omega)
theorem two_lt' {x : Int} (h : 1 ≤ x ∧ x ≤ 8) : 2 ^ x.toNat < 512 := Cr.two_lt (by simp [Cr.node]; omega)
theorem nb_hear {w0 w : World} {p : Nat} {X : Nat → Prop} {n c g : Int} {J : Int → Option Jo} (h : Gb w0 w p X n c g J) (s q k : Int) (hq : I64 q) (hmb : mb s q k = true) :
    Calls Try.prog 11 #[.pointer (some ⟨p, 0, none⟩), jv s q k] w fun e w' => ∃ a, e = .returned (.tuple #[.bool a, .bool (!(decide (s = n) || (J s).isSome)), .int .i64 0]) ∧ Gb w0 w' p X n c (if s = n then g else max g k) (if s = n then J else upd J s (some ⟨q, k⟩)) ∧ Mod X w w' := by
  refine (Hear_any h.ga s q k hq).mono ?_
  rintro e w' ⟨rfl, hg, hm⟩
  have e2 : h2 n J s q k = !(decide (s = n) || (J s).isSome) := by simp [h2, hmb]
  have e3 : h3 s q k = 0 := by simp [h3, hmb]
  have e4 : hG n g s q k = if s = n then g else max g k := by by_cases e : s = n <;> simp [hG, hmb, e]
  have e5 : hJ n J s q k = if s = n then J else upd J s (some ⟨q, k⟩) := by by_cases e : s = n <;> simp [hJ, hmb, e]
  rw [e2, e3]
  rw [e4, e5] at hg
  exact ⟨_, rfl, h.turn hg hm, hm⟩
set_option maxRecDepth 100000 in
set_option maxHeartbeats 20000000 in
theorem grows_walk (a0 : Int) (ha : I64 a0) (v : Value) (B : List J3) (w : World) (hs : Ji w v B) : Calls Try.prog 4 #[.int .i64 a0, v] w fun e w' => e = .returned (.bool true) ∧ Mod (fun _ => False) w w' := by
  have HS : Hid (Ji w v B) := hs
  obtain ⟨ao, cap, rfl, hlen⟩ := hs.shape
  have HBR : Hid (∀ W, Calls Try.prog 19 #[.int .i64 a0, .int .i64 8] W fun e w' => e = .returned (.int .i64 (br a0 8)) ∧ w' = W) := fun W => bring a0 8 W (by decide) (by decide) ha
  have hb8 : 0 ≤ br a0 8 ∧ br a0 8 < 8 := ⟨(br_rng a0 8 (by decide)).1, (br_rng a0 8 (by decide)).2.1⟩
  generalize br a0 8 = b8 at *
  clear hs ha
  go_enter Try.func4, Try.ntmps4
  go_wp2_with (fail)
  refine (works_any w).mono ?_
  rintro e w1 ⟨rfl, hm1⟩
  have HM1 : Hid (Mod (fun _ => False) w w1) := hm1
  clear hm1
  go_wp2_with (fail)
  refine (HBR.out _).mono ?_
  rintro e w1 ⟨rfl, rfl⟩
  clear HBR
  have hn1 : 1 ≤ 1 + b8 := by omega
  have hn8 : 1 + b8 ≤ 8 := by omega
  have hok : okN (1 + b8) 7 = true := by simp [okN]; omega
  go_wp2_with (fail)
  refine (nb_new (1 + b8) 7 hok w w1 HM1.out).mono ?_
  rintro e w2 ⟨p, X, rfl, h⟩
  have HH : Hid (Gb w w2 p X (1 + b8) 7 7 (fun _ => none)) := h
  have hst := hr_start (1 + b8) ⟨hn1, hn8⟩
  have HST : Hid (hr (1 + b8) (fun _ => none) = 2 ^ (1 + b8).toNat) := hst
  have hw64 := two_wrap' (x := 1 + b8) ⟨hn1, hn8⟩
  generalize (2 ^ (1 + b8).toNat : Nat) = P at HST hw64
  clear h hok HM1 hst
  go_wp2_with (fail)
  go_loopw [7, 8, 9] (fun cv tv i wr => ∃ (k H : Nat) (g : Int) (J : Int → Option Jo), cv = .int .i64 (H : Int) ∧ tv = .int .i64 g ∧ i = .int .i64 (k : Int) ∧ k ≤ 200 ∧ Hid (hr (1 + b8) J = H) ∧ Hid (Gb w wr p X (1 + b8) 7 g J)) (fun _ _ i _ => 200 - (intOf i).toNat)
  case atStart => exact ⟨0, P, 7, fun _ => none, by rw [hw64], rfl, rfl, by omega, HST, HH⟩
  case round =>
    clear HH HST hw64
    obtain ⟨k, H, g, J, rfl, rfl, rfl, hk, hH, HH⟩ := hrel
    by_cases hkl : k < B.length ∧ k < 200
    · obtain ⟨hkB, hk2⟩ := hkl
      have hki : (k : Int) < (B.length : Int) := by omega
      have hk200 : (k : Int) < 200 := by omega
      obtain ⟨x, hx⟩ : ∃ x, B[k]? = some x := ⟨_, List.getElem?_eq_getElem hkB⟩
      obtain ⟨b, off, eao, hc⟩ := HS.out.at hx
      have hxi := HS.out.i64 hx
      subst eao
      obtain ⟨d0, d1, d2⟩ := hc wr HH.out.mod
      have CM := may_w x.s x.p x.c hxi.1 hxi.2.2 wr
      have hmr := ms_rng x.s
      have hkr := mk_rng x.c
      have HQ : Hid (I64 (mq x.s x.p : Int)) := mq_i64 x.s x.p
      have HMB : Hid (mb (ms x.s) (mq x.s x.p) (mk x.c) = true) := mb_may x.s x.p x.c
      generalize ms x.s = m at *
      generalize (mq x.s x.p : Int) = q at *
      generalize mk x.c = kk at *
      have HMR : Hid (1 ≤ m ∧ m ≤ 8 ∧ 0 ≤ kk ∧ kk ≤ 9007199254740991) := ⟨hmr.1, hmr.2, hkr.1, hkr.2⟩
      have hI := Cr.shr_bit (hr (1 + b8) J : Int) m hmr.1 (by omega)
      rw [hr_hs HH.out.ga.gp hmr, hH.out] at hI
      obtain ⟨I, eI⟩ : ∃ I, I = (decide (m = 1 + b8) || (J m).isSome) := ⟨_, rfl⟩
      rw [← eI] at hI
      have HI : Hid (I = (decide (m = 1 + b8) || (J m).isSome)) := eI
      have hm1 : 1 ≤ m := hmr.1
      have hm8 : m ≤ 8 := hmr.2
      have hw64 := two_wrap' (x := m) hmr
      have hP5 := two_lt' (x := m) hmr
      obtain ⟨P, eP⟩ : ∃ P : Nat, P = 2 ^ m.toNat := ⟨_, rfl⟩
      rw [← eP] at hw64 hP5
      have HP : Hid (P = 2 ^ m.toNat) := eP
      have hH5 : H < 512 := by rw [← hH.out]; exact hr_lt _ _
      have hor := Cr.or_nat H P hH5 hP5
      unfold jv at CM
      clear hc hxi hx eI eP hmr hkr hP5 hH5
      go_wp2_with (fail)
      refine CM.mono ?_
      rintro e w3 ⟨rfl, hm3⟩
      have HH3 : Hid (Gb w w3 p X (1 + b8) 7 g J) := HH.out.keep hm3
      clear CM HH d0 d1 d2 hm3
      have hA3 := (Mod.refl (fun _ => False) w3).alloc (.cells #[.int .i64 m, .int .i64 q, .int .i64 kk] 34)
      have HZ3 : Hid (Bk (w3.alloc (.cells #[.int .i64 m, .int .i64 q, .int .i64 kk] 34)) w3.heap.size 34 #[.int .i64 m, .int .i64 q, .int .i64 kk]) := Bk.new w3 _ _
      have CH := nb_hear (HH3.out.keep hA3) m q kk HQ.out HMB.out
      rw [← HI.out] at CH
      have HXL : Hid (∀ i, X i → i < w3.heap.size) := HH3.out.ga.lt
      have hbb : ((!I) == I) = false := by cases I <;> rfl
      unfold jv at CH
      clear hA3
      go_wp2_with (fail)
      refine CH.mono ?_
      rintro e w4 ⟨a, rfl, h4, hm4⟩
      have hZ4 := HZ3.out.mod hm4 (fun hx => by have := HXL.out _ hx; omega)
      have z0 := hZ4.cellv (j := 0) rfl
      have z2 := hZ4.cellv (j := 2) rfl
      have HGP : Hid (Gp (1 + b8) 7 g J) := HH3.out.ga.gp
      clear CH HH3 HZ3 hm4 hZ4 HXL
      by_cases hmn : m = 1 + b8
      · rw [if_pos hmn, if_pos hmn] at h4
        have H4 : Hid (Gb w w4 p X (1 + b8) 7 g J) := h4
        have hHP : H ||| P = H := by
          rw [HP.out, hmn, ← hH.out]
          exact hr_own HGP.out
        rw [hHP] at hor
        have HR4 : Hid (((hr (1 + b8) J : Nat) : Int) = (H : Int)) := (show _ = _ by rw [hH.out])
        have HRR : Hid (Hid (hr (1 + b8) J = H)) := hH
        have hmq : (m != 1 + b8) = false := by simpa using hmn
        clear h4 hmn hHP HGP HP hH
        go_wp2_with (fail)
        refine (nb_own H4.out (H : Int) HR4.out).mono ?_
        rintro e w5 ⟨rfl, h5⟩
        unfold jv
        go_wp2_with (fail)
        refine (nb_join h5 (1 + b8) (H : Int) 7).mono ?_
        rintro e w6 ⟨rfl, h6⟩
        unfold jv
        clear h5
        have ER := eqJ (1 + b8) (H : Int) 7 (1 + b8) (H : Int) 7 true (by simp)
        go_wp2_with (fail)
        refine (nb_counter h6).mono ?_
        rintro e w7 ⟨rfl, h7⟩
        have H7 : Hid (Gb w w7 p X (1 + b8) 7 g J) := h7
        clear h6 h7 ER
        go_wp2_with (fail)
        go_roundw
        case rel => exact ⟨k + 1, H, g, J, rfl, rfl, by go_num, by omega, HRR.out, H7⟩
        case measure => simp [intOf]; omega
      · rw [if_neg hmn, if_neg hmn] at h4
        have H4 : Hid (Gb w w4 p X (1 + b8) 7 (max g kk) (upd J m (some ⟨q, kk⟩))) := h4
        have hHP : hr (1 + b8) (upd J m (some ⟨q, kk⟩)) = H ||| P := by
          rw [HP.out, ← hH.out]
          exact (hr_grow HGP.out HMR.out HQ.out).symm
        have HR4 : Hid (((hr (1 + b8) (upd J m (some ⟨q, kk⟩)) : Nat) : Int) = ((H ||| P : Nat) : Int)) := (show _ = _ by rw [hHP])
        have HRR : Hid (Hid (hr (1 + b8) (upd J m (some ⟨q, kk⟩)) = H ||| P)) := hHP
        have hmq : (m != 1 + b8) = true := by simpa using hmn
        clear h4 hmn hHP HGP HP hH HMB
        generalize upd J m (some ⟨q, kk⟩) = J' at *
        generalize H ||| P = H' at *
        go_wp2_with (fail)
        refine (nb_own H4.out (H' : Int) HR4.out).mono ?_
        rintro e w5 ⟨rfl, h5⟩
        unfold jv
        go_wp2_with (fail)
        refine (nb_join h5 (1 + b8) (H' : Int) 7).mono ?_
        rintro e w6 ⟨rfl, h6⟩
        unfold jv
        clear h5
        have ER := eqJ (1 + b8) (H' : Int) 7 (1 + b8) (H' : Int) 7 true (by simp)
        go_wp2_with (fail)
        refine (nb_counter h6).mono ?_
        rintro e w7 ⟨rfl, h7⟩
        have H7 : Hid (Gb w w7 p X (1 + b8) 7 (max g kk) J') := h7
        clear h6 h7 ER
        go_wp2_with (fail)
        go_roundw
        case rel => exact ⟨k + 1, H', (max g kk), J', rfl, rfl, by go_num, by omega, HRR.out, H7⟩
        case measure => simp [intOf]; omega
    · have hway : ¬ (k : Int) < (B.length : Int) ∨ ((k : Int) < (B.length : Int) ∧ ¬ (k : Int) < 200) := by omega
      rcases hway with hki | ⟨hki, hk2⟩
      all_goals
        go_wp2_with (fail)
        go_ret
        exact ⟨rfl, HH.out.mod⟩
namespace gatherGrows
open Go.ChangeShapes Go.WideShapes Go.ChangeAt Go.RowKit
set_option maxRecDepth 100000 in
theorem lifted (os : Os) (started : os.Started) (H : Type) (enc : TypeId × Value → H) :
    ReturnsInHanded {} Try.checked os 4 .any (Rows.gatherGrowsSpec.pre6 enc Try.prog Try.f4 Rows.gatherGrowsRow.domain false) (Rows.gatherGrowsSpec.post enc Try.prog Try.f4 false true false false) := by
  refine returnsInHanded_of_change_sized (C := Try.checked) own started (by kernel_rfl) Try.func4
    (ChangeSpec.witness6 (enc := enc) (C := Try.checked) false ⟨#[], #[.int .i64 0, .slice none 0 0], []⟩ 8 (by kernel_rfl) (by kernel_rfl) (by kernel_rfl) (by kernel_rfl)) ?_
  intro W base args ds gs before hval0 hW hcnd hsz0 _
  have hval : ∀ (j : Nat) t v, Try.f4.params[j]? = some t → args[j]? = some v → Value.okWide Try.prog W .any base t v := hval0
  have hsz : (DataW.weightsEach Try.prog (Try.f4.params.toList ++ Rows.gatherGrowsSpec.plain.varTypes Try.prog) (ds ++ gs)).all (· ≤ reachBytes) = true := hsz0
  have hW' := hW
  obtain ⟨p, q, hA0, hV, rfl, hfz, hnd⟩ := hW
  have hA : DataW.TrodAll enc Try.prog W 0 (fun _ => true) true Try.f4.params.toList args.toList ds p := hA0
  rw [Try.params4] at hA hval hsz
  obtain ⟨v0, vs0, d0, ds0, p0, q0, hargs, rfl, rfl, h0, r0⟩ := trodAll_cons hA
  obtain ⟨v1, vs1, d1, ds1, p1, q1, rfl, rfl, rfl, h1, r1⟩ := trodAll_cons r0
  obtain ⟨rfl, rfl, rfl⟩ := trodAll_nil r1
  obtain rfl : args = #[v0, v1] := by cases args; simp_all
  obtain ⟨rfl, rfl⟩ := trodVars_none hV
  obtain ⟨a0, rfl, rfl, rfl, w0⟩ := open_int Try.underlying3 (hval 0 3 v0 rfl rfl) h0
  have k1 := h1
  have lt1 : ∀ x ∈ p1, x.block < W.heap.size := by obtain ⟨m, hm⟩ := k1; exact DataW.trod_lt m _ _ _ hm
  obtain ⟨B1, hB1⟩ := open_joins h1 (okWide_slice Try.underlying22 (hval 1 22 v1 rfl rfl))
  clear hA0 hval0
  refine (grows_walk a0 (i64_of_wf w0) v1 B1 W hB1).mono fun e W' ⟨he, hm⟩ => ?_
  subst he
  have bel : Below W.heap.size W W' := hm.below _ (Nat.le_refl _) (fun _ h => h.elim)
  exact ⟨_, rfl, _, _, _, [], _, [], hW', trodAll_mk1 (shut_bool Try.underlying4 _), (trodAll_cons_mk (shut_int Try.underlying3 w0) (trodAll_cons_mk (Below.trod laidOut (by kernel_rfl) (of_decide_eq_true (by kernel_rfl)) k1 bel lt1) trodAll_mk0)), rfl, bel.frame _, fun h => by cases h⟩

theorem over : Rows.gatherGrowsRow.holds Try.pinned (OpenSpec.ofChange Rows.gatherGrowsSpec) :=
  OpenClaim.holds_of_wide 4 Try.f4 rfl rfl rfl rfl rfl rfl rfl ⟨rfl, rfl, rfl, rfl, rfl⟩ rfl rfl rfl rfl rfl (by kernel_rfl) Try.func4 (by kernel_rfl)
    (of_decide_eq_true (by kernel_rfl)) (by unfold Func.isWrapper; first | (rw [if_pos (by decide +kernel)]; kernel_rfl) | (rw [if_neg (by decide +kernel)]; exact ⟨rfl, rfl⟩))
    (fun os started H enc _ => lifted os started H enc)
end gatherGrows
theorem gatherGrows_holds : Rows.GatherGrowsSaid := gatherGrows.over
end Go.Proofs.Ytmfdgbdcbfppcaa
