/- TwinBack: a frame that was packed is opened as it was; bytes that are a frame are just those that it is packed into. For every frame and all bytes; no conditions. -/
import Derived.Test.YtlkkbfcedjedoaaTo
namespace Go.Proofs.Ytlkkbfcedjedoaa
open Go.RowKit
set_option maxRecDepth 100000 in
set_option maxHeartbeats 4000000 in
theorem back_walk (s l n : Int) (bv : Value) (B : List Int) (v : Value) (b : List Int) (w : World) (hB : Sl w bv B) (hb : Sl w v b) (hl : b.length ≤ 140737488351232) :
    Calls Try.prog 5 #[.agg #[.int .i64 s, .int .i64 l, .int .i64 n, bv], v] w fun e w' => e = .returned (.bool true) ∧ Mod (fun _ => False) w w' := by
  obtain ⟨ao, cap, rfl, _⟩ := hB.form
  have hM0 := (Mod.refl (fun _ => False) w).alloc (.cells #[.int .i64 s, .int .i64 l, .int .i64 n, .slice ao B.length cap] 24)
  have hF0 := Bk.new w #[.int .i64 s, .int .i64 l, .int .i64 n, .slice ao B.length cap] 24
  have HP : Hid (∀ W, Mod (fun _ => False) w W → Calls Try.prog 11 #[.agg #[.int .i64 s, .int .i64 l, .int .i64 n, .slice ao B.length cap]] W fun e w' => ∃ v', e = .returned (.tuple #[v', .int .i64 (paE s l n B)]) ∧ Own w' v' (paD s l n B) ∧ Mod (fun _ => False) W w') := fun W hW => by
    refine (Pack_any s l n _ B W (hB.mod hW (fun _ _ h => h))).mono ?_
    rintro e w' ⟨v', rfl, h1, h2, _⟩
    exact ⟨v', rfl, h1, h2⟩
  have hrB := hB.rng
  have hrb := hb.rng
  -- what follows from the second half's start on
  have HB : Hid (∀ W, Mod (fun _ => False) w W → Sl W v b) := fun W hW => hb.mod hW (fun _ _ h => h)
  have HBB : Hid (∀ W, Mod (fun _ => False) w W → Sl W (.slice ao B.length cap) B) := fun W hW => hB.mod hW (fun _ _ h => h)
  have hE0 : paE s l n B = 0 → okF s l n B.length = true := by
    unfold paE
    split
    · intro h; omega
    · split
      · intro _; assumption
      · intro h; omega
  clear hB hb
  go_enter Try.func5, Try.ntmps5
  go_wp2_with (fail)
  refine (works_any _).mono ?_
  rintro e w1 ⟨rfl, hm1⟩
  have hM1 := hM0.and hm1
  have hF1 := hF0.mod hm1 (fun h => h)
  have d0 := hF1.cellv (j := 0) rfl
  have d1 := hF1.cellv (j := 1) rfl
  have d2 := hF1.cellv (j := 2) rfl
  have d3 := hF1.cellv (j := 3) rfl
  clear hM0 hF0 hm1
  go_wp2_with (fail)
  refine (HP.out _ hM1).mono ?_
  rintro e w2 ⟨v2, rfl, ho2, hm2⟩
  have hM2 := hM1.and hm2
  have hF2 := hF1.mod hm2 (fun h => h)
  clear hM1 hF1 hm2 d0 d1 d2 d3 HP
  by_cases hE : paE s l n B = 0
  · have hok := hE0 hE
    rw [hE]
    obtain ⟨eE, eD⟩ := paD_ok hok
    obtain ⟨o1, o2, o3, o4, o5⟩ := op_forth hok
    have hr2 := paD_rng (s := s) (l := l) (n := n) hrB
    have hl2 := paD_len (s := s) (l := l) (n := n) (okF_parts hok).2.2.2
    rw [← eD] at o1 o2 o3 o4 o5
    have H3 := tOpen_any v2 _ w2 (ho2.sl hr2) (by omega)
    clear hE0 hE eE eD
    generalize paD s l n B = P at *
    go_wp2_with (fail)
    refine H3.mono ?_
    rintro e w3 ⟨bv3, rfl, hm3, ho3, hg3⟩
    rw [o1, o2, o3, o4]
    rw [o5] at ho3
    obtain ⟨ao3, cap3, rfl⟩ := ho3.shape
    have hmA := hm3.alloc (.cells #[.int .i64 s, .int .i64 l, .int .i64 n, .slice ao3 B.length cap3] 24)
    have hM3 := hM2.and hmA
    have hF3 := hF2.mod hmA (fun h => h)
    have hG3 := Bk.new w3 #[.int .i64 s, .int .i64 l, .int .i64 n, .slice ao3 B.length cap3] 24
    have hb3 := (ho3.mod ((Mod.refl (fun _ => False) w3).alloc (.cells #[.int .i64 s, .int .i64 l, .int .i64 n, .slice ao3 B.length cap3] 24)) (fun _ _ h => h)).sl hrB
    have hbA := HBB.out _ hM3
    have H4 := same_any s l n s l n _ _ B B _ hbA hb3
    rw [decide_eq_true ⟨rfl, rfl, rfl, rfl⟩] at H4
    have a0 := hF3.cellv (j := 0) rfl
    have a1 := hF3.cellv (j := 1) rfl
    have a2 := hF3.cellv (j := 2) rfl
    have a3 := hF3.cellv (j := 3) rfl
    have b0 := hG3.cellv (j := 0) rfl
    have b1 := hG3.cellv (j := 1) rfl
    have b2 := hG3.cellv (j := 2) rfl
    have b3 := hG3.cellv (j := 3) rfl
    clear H3 hm3 hM2 hF2 hmA ho2 o1 o2 o3 o4 o5 hl2 hr2
    go_wp2_with (fail)
    refine H4.mono ?_
    rintro e w4 ⟨rfl, hm4⟩
    have hM4 := hM3.and hm4
    clear H4 a0 a1 a2 a3 b0 b1 b2 b3 hb3 hbA hF3 hG3 hM3 ho3
    have H5 := tOpen_any v b _ (HB.out _ hM4) (by omega)
    by_cases hO : opE b = 0
    · obtain ⟨k1, k2⟩ := op_back hrb hO
      have hr6 : ∀ c ∈ opB b, 0 ≤ c ∧ c ≤ 255 := fun c hc => hrb c (by
        have : opB b = rfB (Sm.openD b) := by simp [opB, hO]
        rw [this] at hc
        exact openD_mem b c (rdr_mem 3 _ c (obody_mem c hc)))
      have HP2 : Hid (∀ W u, Sl W u (opB b) → Calls Try.prog 11 #[.agg #[.int .i64 (opN b 0), .int .i64 (opN b 1), .int .i64 (opN b 2), u]] W fun e w' => ∃ v', e = .returned (.tuple #[v', .int .i64 0]) ∧ Own w' v' b ∧ Mod (fun _ => False) W w') := fun W u hu => by
        refine (Pack_any _ _ _ u _ W hu).mono ?_
        rintro e w' ⟨v', rfl, h1, h2, _⟩
        rw [paD, if_pos k2, k1] at h1
        exact ⟨v', by rw [k2], h1, h2⟩
      clear k1 k2
      go_wp2_with (fail)
      refine H5.mono ?_
      rintro e w5 ⟨bv5, rfl, hm5, ho5, hg5⟩
      rw [hO]
      obtain ⟨ao5, cap5, rfl⟩ := ho5.shape
      have HP3 := HP2.out
      clear HP2
      generalize opN b 0 = n0 at *
      generalize opN b 1 = n1 at *
      generalize opN b 2 = n2 at *
      generalize opB b = OB at *
      have hmA := hm5.alloc (.cells #[.int .i64 n0, .int .i64 n1, .int .i64 n2, .slice ao5 OB.length cap5] 24)
      have hM5 := hM4.and hmA
      have hG5 := Bk.new w5 #[.int .i64 n0, .int .i64 n1, .int .i64 n2, .slice ao5 OB.length cap5] 24
      have hb5 := (ho5.mod ((Mod.refl (fun _ => False) w5).alloc (.cells #[.int .i64 n0, .int .i64 n1, .int .i64 n2, .slice ao5 OB.length cap5] 24)) (fun _ _ h => h)).sl hr6
      have H6 := HP3 _ _ hb5
      have b0 := hG5.cellv (j := 0) rfl
      have b1 := hG5.cellv (j := 1) rfl
      have b2 := hG5.cellv (j := 2) rfl
      have b3 := hG5.cellv (j := 3) rfl
      clear H5 HP3 hm5 hmA ho5 hM4
      go_wp2_with (fail)
      refine H6.mono ?_
      rintro e w6 ⟨v6, rfl, ho6, hm6⟩
      have hM6 := hM5.and hm6
      have H7 := EqBytes_any v6 v b b w6 (ho6.sl hrb) (HB.out _ hM6)
      rw [decide_eq_true rfl] at H7
      clear b0 b1 b2 b3 H6
      go_wp2_with (fail)
      refine H7.mono ?_
      rintro e w7 ⟨rfl, hm7⟩
      go_wp2
      go_ret
      exact ⟨rfl, hM6.and hm7⟩
    · have hz2 : ¬ opE b = 0 := hO
      obtain ⟨hN, hBn⟩ := op_bad (er := opE b) rfl hz2
      go_wp2_with (fail)
      refine H5.mono ?_
      rintro e w5 ⟨bv5, rfl, hm5, ho5, hg5⟩
      rw [hN, hN, hN]
      rw [hBn] at ho5
      obtain ⟨ao5, cap5, rfl⟩ := ho5.shape
      generalize opE b = er at *
      have hmA := hm5.alloc (.cells #[.int .i64 0, .int .i64 0, .int .i64 0, .slice ao5 0 cap5] 24)
      have hM5 := hM4.and hmA
      have hG5 := Bk.new w5 #[.int .i64 0, .int .i64 0, .int .i64 0, .slice ao5 0 cap5] 24
      have hb5 := (ho5.mod ((Mod.refl (fun _ => False) w5).alloc (.cells #[.int .i64 0, .int .i64 0, .int .i64 0, .slice ao5 0 cap5] 24)) (fun _ _ h => h)).sl (by simp)
      have H6 := same_any 0 0 0 0 0 0 _ _ [] [] _ hb5 ((Own.nil _).sl (by simp))
      rw [decide_eq_true ⟨rfl, rfl, rfl, rfl⟩] at H6
      have b0 := hG5.cellv (j := 0) rfl
      have b1 := hG5.cellv (j := 1) rfl
      have b2 := hG5.cellv (j := 2) rfl
      have b3 := hG5.cellv (j := 3) rfl
      clear H5 hm5 hmA hM4 hN hBn hO ho5
      go_wp2_with (fail)
      refine H6.mono ?_
      rintro e w6 ⟨rfl, hm6⟩
      go_wp2
      go_ret
      exact ⟨rfl, hM5.and hm6⟩
  · have hz : ¬ paE s l n B = 0 := hE
    have hM4 := hM2
    generalize paE s l n B = E at *
    clear hE hE0 hM2
    have H5 := tOpen_any v b _ (HB.out _ hM4) (by omega)
    by_cases hO : opE b = 0
    · obtain ⟨k1, k2⟩ := op_back hrb hO
      have hr6 : ∀ c ∈ opB b, 0 ≤ c ∧ c ≤ 255 := fun c hc => hrb c (by
        have : opB b = rfB (Sm.openD b) := by simp [opB, hO]
        rw [this] at hc
        exact openD_mem b c (rdr_mem 3 _ c (obody_mem c hc)))
      have HP2 : Hid (∀ W u, Sl W u (opB b) → Calls Try.prog 11 #[.agg #[.int .i64 (opN b 0), .int .i64 (opN b 1), .int .i64 (opN b 2), u]] W fun e w' => ∃ v', e = .returned (.tuple #[v', .int .i64 0]) ∧ Own w' v' b ∧ Mod (fun _ => False) W w') := fun W u hu => by
        refine (Pack_any _ _ _ u _ W hu).mono ?_
        rintro e w' ⟨v', rfl, h1, h2, _⟩
        rw [paD, if_pos k2, k1] at h1
        exact ⟨v', by rw [k2], h1, h2⟩
      clear k1 k2
      go_wp2_with (fail)
      refine H5.mono ?_
      rintro e w5 ⟨bv5, rfl, hm5, ho5, hg5⟩
      rw [hO]
      obtain ⟨ao5, cap5, rfl⟩ := ho5.shape
      have HP3 := HP2.out
      clear HP2
      generalize opN b 0 = n0 at *
      generalize opN b 1 = n1 at *
      generalize opN b 2 = n2 at *
      generalize opB b = OB at *
      have hmA := hm5.alloc (.cells #[.int .i64 n0, .int .i64 n1, .int .i64 n2, .slice ao5 OB.length cap5] 24)
      have hM5 := hM4.and hmA
      have hG5 := Bk.new w5 #[.int .i64 n0, .int .i64 n1, .int .i64 n2, .slice ao5 OB.length cap5] 24
      have hb5 := (ho5.mod ((Mod.refl (fun _ => False) w5).alloc (.cells #[.int .i64 n0, .int .i64 n1, .int .i64 n2, .slice ao5 OB.length cap5] 24)) (fun _ _ h => h)).sl hr6
      have H6 := HP3 _ _ hb5
      have b0 := hG5.cellv (j := 0) rfl
      have b1 := hG5.cellv (j := 1) rfl
      have b2 := hG5.cellv (j := 2) rfl
      have b3 := hG5.cellv (j := 3) rfl
      clear H5 HP3 hm5 hmA ho5 hM4
      go_wp2_with (fail)
      refine H6.mono ?_
      rintro e w6 ⟨v6, rfl, ho6, hm6⟩
      have hM6 := hM5.and hm6
      have H7 := EqBytes_any v6 v b b w6 (ho6.sl hrb) (HB.out _ hM6)
      rw [decide_eq_true rfl] at H7
      clear b0 b1 b2 b3 H6
      go_wp2_with (fail)
      refine H7.mono ?_
      rintro e w7 ⟨rfl, hm7⟩
      go_wp2
      go_ret
      exact ⟨rfl, hM6.and hm7⟩
    · have hz2 : ¬ opE b = 0 := hO
      obtain ⟨hN, hBn⟩ := op_bad (er := opE b) rfl hz2
      go_wp2_with (fail)
      refine H5.mono ?_
      rintro e w5 ⟨bv5, rfl, hm5, ho5, hg5⟩
      rw [hN, hN, hN]
      rw [hBn] at ho5
      obtain ⟨ao5, cap5, rfl⟩ := ho5.shape
      generalize opE b = er at *
      have hmA := hm5.alloc (.cells #[.int .i64 0, .int .i64 0, .int .i64 0, .slice ao5 0 cap5] 24)
      have hM5 := hM4.and hmA
      have hG5 := Bk.new w5 #[.int .i64 0, .int .i64 0, .int .i64 0, .slice ao5 0 cap5] 24
      have hb5 := (ho5.mod ((Mod.refl (fun _ => False) w5).alloc (.cells #[.int .i64 0, .int .i64 0, .int .i64 0, .slice ao5 0 cap5] 24)) (fun _ _ h => h)).sl (by simp)
      have H6 := same_any 0 0 0 0 0 0 _ _ [] [] _ hb5 ((Own.nil _).sl (by simp))
      rw [decide_eq_true ⟨rfl, rfl, rfl, rfl⟩] at H6
      have b0 := hG5.cellv (j := 0) rfl
      have b1 := hG5.cellv (j := 1) rfl
      have b2 := hG5.cellv (j := 2) rfl
      have b3 := hG5.cellv (j := 3) rfl
      clear H5 hm5 hmA hM4 hN hBn hO ho5
      go_wp2_with (fail)
      refine H6.mono ?_
      rintro e w6 ⟨rfl, hm6⟩
      go_wp2
      go_ret
      exact ⟨rfl, hM5.and hm6⟩
namespace twinBack
open Go.ChangeShapes Go.WideShapes Go.ChangeAt Go.RowKit
set_option maxRecDepth 100000 in
theorem lifted (os : Os) (started : os.Started) (H : Type) (enc : TypeId × Value → H) :
    ReturnsInHanded {} Try.checked os 5 .any (Rows.twinBackSpec.pre6 enc Try.prog Try.f5 Rows.twinBackRow.domain false) (Rows.twinBackSpec.post enc Try.prog Try.f5 false true false false) := by
  refine returnsInHanded_of_change_sized (C := Try.checked) own started (by kernel_rfl) Try.func5
    (ChangeSpec.witness6 (enc := enc) (C := Try.checked) false ⟨#[], #[.agg #[.int .i64 0, .int .i64 0, .int .i64 0, .slice none 0 0], .slice none 0 0], []⟩ 8 (by kernel_rfl) (by kernel_rfl) (by kernel_rfl) (by kernel_rfl)) ?_
  intro W base args ds gs before hval0 hW hcnd hsz0 _
  have hval : ∀ (j : Nat) t v, Try.f5.params[j]? = some t → args[j]? = some v → Value.okWide Try.prog W .any base t v := hval0
  have hsz : (DataW.weightsEach Try.prog (Try.f5.params.toList ++ Rows.twinBackSpec.plain.varTypes Try.prog) (ds ++ gs)).all (· ≤ reachBytes) = true := hsz0
  have hW' := hW
  obtain ⟨p, q, hA0, hV, rfl, hfz, hnd⟩ := hW
  have hA : DataW.TrodAll enc Try.prog W 0 (fun _ => true) true Try.f5.params.toList args.toList ds p := hA0
  rw [Try.params5] at hA hval hsz
  obtain ⟨v0, vs0, d0, ds0, p0, q0, hargs, rfl, rfl, h0, r0⟩ := trodAll_cons hA
  obtain ⟨v1, vs1, d1, ds1, p1, q1, rfl, rfl, rfl, h1, r1⟩ := trodAll_cons r0
  obtain ⟨rfl, rfl, rfl⟩ := trodAll_nil r1
  obtain rfl : args = #[v0, v1] := by cases args; simp_all
  obtain ⟨rfl, rfl⟩ := trodVars_none hV
  have k0 := h0
  have lt0 : ∀ x ∈ p0, x.block < W.heap.size := by obtain ⟨m, hm⟩ := k0; exact DataW.trod_lt m _ _ _ hm
  obtain ⟨s0, l0, n0, bv0, B0, rfl, hB0, i00, i10, i20, hw0⟩ := open_frame (hval 0 24 v0 rfl rfl) h0
  have hL0 : B0.length ≤ 140737488351232 := hw0 _ (by
    rw [List.all_eq_true] at hsz ⊢
    intro x hx
    exact hsz x (DataW.weights_mem_each (t := 24) (j := 0) rfl rfl x hx))
  have k1 := h1
  have lt1 : ∀ x ∈ p1, x.block < W.heap.size := by obtain ⟨m, hm⟩ := k1; exact DataW.trod_lt m _ _ _ hm
  have hs1 := okWide_slice Try.underlying22 (hval 1 22 v1 rfl rfl)
  obtain ⟨B1, hB1, hL1⟩ : ∃ B, Sl W v1 B ∧ B.length ≤ 140737488351232 := by
    obtain ⟨ao, len, cap, rfl⟩ := hs1
    obtain ⟨fuel, hf⟩ := h1
    obtain ⟨B, hB, hx⟩ := sl_of_trod (c := .slice ao len cap) (by simpa [Value.cells] using hf)
    refine ⟨B, hB, ?_⟩
    simp only at hx
    rcases hx with ⟨rfl, rfl⟩ | ⟨e, s, rfl, hlen⟩
    · simp
    · have := sized_slice hsz (j := 1) (t := 22) (e := 5) rfl rfl Try.underlying22
      rw [bytes5] at this
      simp only [reachBytes] at this
      omega
  clear hA0 hval0
  refine (back_walk s0 l0 n0 bv0 B0 v1 B1 W hB0 hB1 hL1).mono fun e W' ⟨he, hm⟩ => ?_
  subst he
  have bel : Below W.heap.size W W' := hm.below _ (Nat.le_refl _) (fun _ h => h.elim)
  exact ⟨_, rfl, _, _, _, [], _, [], hW', trodAll_mk1 (shut_bool Try.underlying4 _), (trodAll_cons_mk (Below.trod laidOut (by kernel_rfl) (of_decide_eq_true (by kernel_rfl)) k0 bel lt0) (trodAll_cons_mk (Below.trod laidOut (by kernel_rfl) (of_decide_eq_true (by kernel_rfl)) k1 bel lt1) trodAll_mk0)), rfl, bel.frame _, fun h => by cases h⟩

theorem over : Rows.twinBackRow.holds Try.pinned (OpenSpec.ofChange Rows.twinBackSpec) :=
  OpenClaim.holds_of_wide 5 Try.f5 rfl rfl rfl rfl rfl rfl rfl ⟨rfl, rfl, rfl, rfl, rfl⟩ rfl rfl rfl rfl rfl (by kernel_rfl) Try.func5 (by kernel_rfl)
    (of_decide_eq_true (by kernel_rfl)) (by unfold Func.isWrapper; first | (rw [if_pos (by decide +kernel)]; kernel_rfl) | (rw [if_neg (by decide +kernel)]; exact ⟨rfl, rfl⟩))
    (fun os started H enc _ => lifted os started H enc)
end twinBack
theorem twinBack_holds : Rows.TwinBackSaid := twinBack.over
end Go.Proofs.Ytlkkbfcedjedoaa
