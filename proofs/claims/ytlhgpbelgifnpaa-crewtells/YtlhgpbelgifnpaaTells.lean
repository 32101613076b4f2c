/- CrewTells: all calls of crews answer as the chapter says. No conditions. -/
import Derived.Test.YtlhgpbelgifnpaaEn
import Derived.Test.YtlhgpbelgifnpaaRf
namespace Go.Proofs.Ytlhgpbelgifnpaa
open Go.RowKit
set_option maxHeartbeats 1000000 in
theorem walkTells (c n : Int) (w : World) (hc : -9223372036854775808 ≤ c ∧ c ≤ 9223372036854775807) : Calls Try.prog 3 #[.int .i64 c, .int .i64 n] w fun e w' => e = .returned (.bool true) ∧ Mod (fun _ => False) w w' := by
  have HW := fun w => works w
  have h510 : bits .and .i64 c 510 = ((lo c &&& 510 : Nat) : Int) := and_lo c 510 (by omega)
  have hle : lo c &&& 510 ≤ 510 := Nat.and_le_right
  have HD : Hid (-9223372036854775808 ≤ bits .and .i64 c 510 ∧ bits .and .i64 c 510 ≤ 9223372036854775807) := by rw [h510, Hid]; omega
  have HB : Hid (-9223372036854775808 ≤ c ∧ c ≤ 9223372036854775807) := hc
  clear h510 hle hc
  go_enter Try.func3, Try.ntmps3
  go_wp2
  go_loopw [5] (fun i wr => ∃ k : Nat, i = .int .i64 k ∧ k ≤ 14 ∧ Hid (Mod (fun _ => False) w wr)) (fun i _ => 14 - (intOf i).toNat)
  case atStart => exact ⟨0, rfl, by omega, Mod.refl _ _⟩
  case round =>
    obtain ⟨k, rfl, hk, hmod⟩ := hrel
    by_cases hlt : k < 14
    · have hi : (k : Int) < 14 := by omega
      have h3 : k = 0 ∨ (0 < k ∧ k % 2 = 1) ∨ (0 < k ∧ k % 2 = 0) := by omega
      rcases h3 with rfl | ⟨hp, ho⟩ | ⟨hp, ho⟩
      · have hm0 : (Int.tmod 0 2 == 1) = false := rfl
        have HC1 := fun w => Check (c) w HB.out
        have HC2 := fun w => RCheck (c) w
        have HL1 := fun w => List12 (c) w
        have HL2 := fun w => RList (c) w
        have HH1 := fun w => Has (c) (n) w
        have HH2 := fun w => RHas (c) (n) w
        have HN1 := fun w => Count (c) w
        have HN2 := fun w => RCount (c) w
        have HE1 := fun w => Least (c) w
        have HE2 := fun w => RLeast (c) w
        have HX1 := fun w => Next (c) (n) w
        have HX2 := fun w => RNext (c) (n) w
        generalize chk (c) = r1 at HC1 HC2
        generalize ls (lo (c)) = r2 at HL1 HL2
        generalize has (c) (n) = r3 at HH1 HH2
        generalize cn (lo (c)) = r4 at HN1 HN2
        generalize ab (lo (c)) 0 = r5 at HE1 HE2
        generalize nx (lo (c)) (n) = r6 at HX1 HX2
        go_wp2_with (fail)
        refine (HC1 _).mono ?_
        rintro e w1 ⟨rfl, rfl⟩
        clear HC1
        go_wp2_with (fail)
        refine (HC2 _).mono ?_
        rintro e w2 ⟨rfl, hm2⟩
        clear HC2
        have hm2 := hmod.out.trans hm2 (fun _ _ h => h) (fun _ _ h => h)
        clear hmod
        go_wp2_with (fail)
        refine (HL1 _).mono ?_
        rintro e w3 ⟨v3, rfl, ho3, hm3, hn3⟩
        clear HL1
        have hm3 := hm2.trans hm3 (fun _ _ h => h) (fun _ _ h => h)
        clear hm2 hn3
        go_wp2_with (fail)
        refine (HL2 _).mono ?_
        rintro e w4 ⟨v4, rfl, ho4, hm4, hn4⟩
        clear HL2
        have hs3 := (ho3.mod hm4 (fun _ _ h => h)).sl
        have hm4 := hm3.trans hm4 (fun _ _ h => h) (fun _ _ h => h)
        clear hm3 hn4 ho3
        go_wp2_with (fail)
        refine (EqInts_at true hs3 ho4.sl (by simp)).mono ?_
        rintro e w5 ⟨rfl, hm5⟩
        have hm5 := hm4.trans hm5 (fun _ _ h => h) (fun _ _ h => h)
        clear hm4 ho4 hs3
        go_wp2_with (fail)
        refine (HH1 _).mono ?_
        rintro e w6 ⟨rfl, rfl⟩
        clear HH1
        go_wp2_with (fail)
        refine (HH2 _).mono ?_
        rintro e w6 ⟨rfl, rfl⟩
        clear HH2
        go_wp2_with (fail)
        refine (HN1 _).mono ?_
        rintro e w6 ⟨rfl, rfl⟩
        clear HN1
        go_wp2_with (fail)
        refine (HN2 _).mono ?_
        rintro e w7 ⟨rfl, hm7⟩
        clear HN2
        have hm7 := hm5.trans hm7 (fun _ _ h => h) (fun _ _ h => h)
        clear hm5
        go_wp2_with (fail)
        refine (HE1 _).mono ?_
        rintro e w8 ⟨rfl, rfl⟩
        clear HE1
        go_wp2_with (fail)
        refine (HE2 _).mono ?_
        rintro e w9 ⟨rfl, hm9⟩
        clear HE2
        have hm9 := hm7.trans hm9 (fun _ _ h => h) (fun _ _ h => h)
        clear hm7
        go_wp2_with (fail)
        refine (HX1 _).mono ?_
        rintro e w10 ⟨rfl, rfl⟩
        clear HX1
        go_wp2_with (fail)
        refine (HX2 _).mono ?_
        rintro e w11 ⟨rfl, hm11⟩
        clear HX2
        have hm11 := hm9.trans hm11 (fun _ _ h => h) (fun _ _ h => h)
        clear hm9
        go_wp2
        go_roundw
        case rel => exact ⟨0 + 1, by go_num, by omega, hm11⟩
        case measure => simp [intOf]
      · have hm0 : ((k : Int) % 2 == 1) = true := by
          rw [show (k : Int) % 2 = 1 by omega]; rfl
        have hp' : (0 : Int) < (k : Int) := by omega
        clear ho
        have HC1 := fun w => Check (bits .and .i64 c 510) w HD.out
        have HC2 := fun w => RCheck (bits .and .i64 c 510) w
        have HL1 := fun w => List12 (bits .and .i64 c 510) w
        have HL2 := fun w => RList (bits .and .i64 c 510) w
        have HH1 := fun w => Has (bits .and .i64 c 510) ((k : Int) - 3) w
        have HH2 := fun w => RHas (bits .and .i64 c 510) ((k : Int) - 3) w
        have HN1 := fun w => Count (bits .and .i64 c 510) w
        have HN2 := fun w => RCount (bits .and .i64 c 510) w
        have HE1 := fun w => Least (bits .and .i64 c 510) w
        have HE2 := fun w => RLeast (bits .and .i64 c 510) w
        have HX1 := fun w => Next (bits .and .i64 c 510) ((k : Int) - 3) w
        have HX2 := fun w => RNext (bits .and .i64 c 510) ((k : Int) - 3) w
        generalize chk (bits .and .i64 c 510) = r1 at HC1 HC2
        generalize ls (lo (bits .and .i64 c 510)) = r2 at HL1 HL2
        generalize has (bits .and .i64 c 510) ((k : Int) - 3) = r3 at HH1 HH2
        generalize cn (lo (bits .and .i64 c 510)) = r4 at HN1 HN2
        generalize ab (lo (bits .and .i64 c 510)) 0 = r5 at HE1 HE2
        generalize nx (lo (bits .and .i64 c 510)) ((k : Int) - 3) = r6 at HX1 HX2
        go_wp2_with (fail)
        refine (HC1 _).mono ?_
        rintro e w1 ⟨rfl, rfl⟩
        clear HC1
        go_wp2_with (fail)
        refine (HC2 _).mono ?_
        rintro e w2 ⟨rfl, hm2⟩
        clear HC2
        have hm2 := hmod.out.trans hm2 (fun _ _ h => h) (fun _ _ h => h)
        clear hmod
        go_wp2_with (fail)
        refine (HL1 _).mono ?_
        rintro e w3 ⟨v3, rfl, ho3, hm3, hn3⟩
        clear HL1
        have hm3 := hm2.trans hm3 (fun _ _ h => h) (fun _ _ h => h)
        clear hm2 hn3
        go_wp2_with (fail)
        refine (HL2 _).mono ?_
        rintro e w4 ⟨v4, rfl, ho4, hm4, hn4⟩
        clear HL2
        have hs3 := (ho3.mod hm4 (fun _ _ h => h)).sl
        have hm4 := hm3.trans hm4 (fun _ _ h => h) (fun _ _ h => h)
        clear hm3 hn4 ho3
        go_wp2_with (fail)
        refine (EqInts_at true hs3 ho4.sl (by simp)).mono ?_
        rintro e w5 ⟨rfl, hm5⟩
        have hm5 := hm4.trans hm5 (fun _ _ h => h) (fun _ _ h => h)
        clear hm4 ho4 hs3
        go_wp2_with (fail)
        refine (HH1 _).mono ?_
        rintro e w6 ⟨rfl, rfl⟩
        clear HH1
        go_wp2_with (fail)
        refine (HH2 _).mono ?_
        rintro e w6 ⟨rfl, rfl⟩
        clear HH2
        go_wp2_with (fail)
        refine (HN1 _).mono ?_
        rintro e w6 ⟨rfl, rfl⟩
        clear HN1
        go_wp2_with (fail)
        refine (HN2 _).mono ?_
        rintro e w7 ⟨rfl, hm7⟩
        clear HN2
        have hm7 := hm5.trans hm7 (fun _ _ h => h) (fun _ _ h => h)
        clear hm5
        go_wp2_with (fail)
        refine (HE1 _).mono ?_
        rintro e w8 ⟨rfl, rfl⟩
        clear HE1
        go_wp2_with (fail)
        refine (HE2 _).mono ?_
        rintro e w9 ⟨rfl, hm9⟩
        clear HE2
        have hm9 := hm7.trans hm9 (fun _ _ h => h) (fun _ _ h => h)
        clear hm7
        go_wp2_with (fail)
        refine (HX1 _).mono ?_
        rintro e w10 ⟨rfl, rfl⟩
        clear HX1
        go_wp2_with (fail)
        refine (HX2 _).mono ?_
        rintro e w11 ⟨rfl, hm11⟩
        clear HX2
        have hm11 := hm9.trans hm11 (fun _ _ h => h) (fun _ _ h => h)
        clear hm9
        go_wp2
        go_roundw
        case rel => exact ⟨k + 1, by go_num, by omega, hm11⟩
        case measure => simp [intOf]; omega
      · have hm0 : ((k : Int) % 2 == 1) = false := by
          rw [show (k : Int) % 2 = 0 by omega]; rfl
        have hp' : (0 : Int) < (k : Int) := by omega
        clear ho
        have HC1 := fun w => Check (c) w HB.out
        have HC2 := fun w => RCheck (c) w
        have HL1 := fun w => List12 (c) w
        have HL2 := fun w => RList (c) w
        have HH1 := fun w => Has (c) ((k : Int) - 3) w
        have HH2 := fun w => RHas (c) ((k : Int) - 3) w
        have HN1 := fun w => Count (c) w
        have HN2 := fun w => RCount (c) w
        have HE1 := fun w => Least (c) w
        have HE2 := fun w => RLeast (c) w
        have HX1 := fun w => Next (c) ((k : Int) - 3) w
        have HX2 := fun w => RNext (c) ((k : Int) - 3) w
        generalize chk (c) = r1 at HC1 HC2
        generalize ls (lo (c)) = r2 at HL1 HL2
        generalize has (c) ((k : Int) - 3) = r3 at HH1 HH2
        generalize cn (lo (c)) = r4 at HN1 HN2
        generalize ab (lo (c)) 0 = r5 at HE1 HE2
        generalize nx (lo (c)) ((k : Int) - 3) = r6 at HX1 HX2
        go_wp2_with (fail)
        refine (HC1 _).mono ?_
        rintro e w1 ⟨rfl, rfl⟩
        clear HC1
        go_wp2_with (fail)
        refine (HC2 _).mono ?_
        rintro e w2 ⟨rfl, hm2⟩
        clear HC2
        have hm2 := hmod.out.trans hm2 (fun _ _ h => h) (fun _ _ h => h)
        clear hmod
        go_wp2_with (fail)
        refine (HL1 _).mono ?_
        rintro e w3 ⟨v3, rfl, ho3, hm3, hn3⟩
        clear HL1
        have hm3 := hm2.trans hm3 (fun _ _ h => h) (fun _ _ h => h)
        clear hm2 hn3
        go_wp2_with (fail)
        refine (HL2 _).mono ?_
        rintro e w4 ⟨v4, rfl, ho4, hm4, hn4⟩
        clear HL2
        have hs3 := (ho3.mod hm4 (fun _ _ h => h)).sl
        have hm4 := hm3.trans hm4 (fun _ _ h => h) (fun _ _ h => h)
        clear hm3 hn4 ho3
        go_wp2_with (fail)
        refine (EqInts_at true hs3 ho4.sl (by simp)).mono ?_
        rintro e w5 ⟨rfl, hm5⟩
        have hm5 := hm4.trans hm5 (fun _ _ h => h) (fun _ _ h => h)
        clear hm4 ho4 hs3
        go_wp2_with (fail)
        refine (HH1 _).mono ?_
        rintro e w6 ⟨rfl, rfl⟩
        clear HH1
        go_wp2_with (fail)
        refine (HH2 _).mono ?_
        rintro e w6 ⟨rfl, rfl⟩
        clear HH2
        go_wp2_with (fail)
        refine (HN1 _).mono ?_
        rintro e w6 ⟨rfl, rfl⟩
        clear HN1
        go_wp2_with (fail)
        refine (HN2 _).mono ?_
        rintro e w7 ⟨rfl, hm7⟩
        clear HN2
        have hm7 := hm5.trans hm7 (fun _ _ h => h) (fun _ _ h => h)
        clear hm5
        go_wp2_with (fail)
        refine (HE1 _).mono ?_
        rintro e w8 ⟨rfl, rfl⟩
        clear HE1
        go_wp2_with (fail)
        refine (HE2 _).mono ?_
        rintro e w9 ⟨rfl, hm9⟩
        clear HE2
        have hm9 := hm7.trans hm9 (fun _ _ h => h) (fun _ _ h => h)
        clear hm7
        go_wp2_with (fail)
        refine (HX1 _).mono ?_
        rintro e w10 ⟨rfl, rfl⟩
        clear HX1
        go_wp2_with (fail)
        refine (HX2 _).mono ?_
        rintro e w11 ⟨rfl, hm11⟩
        clear HX2
        have hm11 := hm9.trans hm11 (fun _ _ h => h) (fun _ _ h => h)
        clear hm9
        go_wp2
        go_roundw
        case rel => exact ⟨k + 1, by go_num, by omega, hm11⟩
        case measure => simp [intOf]; omega
    · obtain rfl : k = 14 := by omega
      go_wp2_with (fail)
      refine (HW _).mono ?_
      rintro e w1 ⟨rfl, hm⟩
      go_wp2
      go_ret
      exact ⟨rfl, hmod.out.trans hm (fun _ _ h => h) (fun _ _ h => h)⟩
namespace crewTells
open Go.ChangeShapes Go.WideShapes Go.ChangeAt Go.RowKit
set_option maxRecDepth 100000 in
theorem lifted (os : Os) (started : os.Started) (H : Type) (enc : TypeId × Value → H) :
    ReturnsInHanded {} Try.checked os 3 .any (Rows.crewTellsSpec.pre6 enc Try.prog Try.f3 Rows.crewTellsRow.domain false) (Rows.crewTellsSpec.post enc Try.prog Try.f3 false true false false) := by
  refine returnsInHanded_of_change_sized (C := Try.checked) own started (by kernel_rfl) Try.func3
    (ChangeSpec.witness6 (enc := enc) (C := Try.checked) false ⟨#[], #[.int .i64 0, .int .i64 0], []⟩ 8 (by kernel_rfl) (by kernel_rfl) (by kernel_rfl) (by kernel_rfl)) ?_
  intro W base args ds gs before hval0 hW hcnd hsz0 _
  have hval : ∀ (j : Nat) t v, Try.f3.params[j]? = some t → args[j]? = some v → Value.okWide Try.prog W .any base t v := hval0
  have hsz : (DataW.weightsEach Try.prog (Try.f3.params.toList ++ Rows.crewTellsSpec.plain.varTypes Try.prog) (ds ++ gs)).all (· ≤ reachBytes) = true := hsz0
  have hW' := hW
  obtain ⟨p, q, hA0, hV, rfl, hfz, hnd⟩ := hW
  have hA : DataW.TrodAll enc Try.prog W 0 (fun _ => true) true Try.f3.params.toList args.toList ds p := hA0
  rw [Try.params3] at hA hval hsz
  obtain ⟨v0, vs0, d0, ds0, p0, q0, hargs, rfl, rfl, h0, r0⟩ := trodAll_cons hA
  obtain ⟨v1, vs1, d1, ds1, p1, q1, rfl, rfl, rfl, h1, r1⟩ := trodAll_cons r0
  obtain ⟨rfl, rfl, rfl⟩ := trodAll_nil r1
  obtain rfl : args = #[v0, v1] := by cases args; simp_all
  obtain ⟨rfl, rfl⟩ := trodVars_none hV
  obtain ⟨a0, rfl, rfl, rfl, w0⟩ := open_int Try.underlying3 (hval 0 3 v0 rfl rfl) h0
  obtain ⟨a1, rfl, rfl, rfl, w1⟩ := open_int Try.underlying3 (hval 1 3 v1 rfl rfl) h1
  clear hA0 hval0
  refine (walkTells a0 a1 W (by have := bounds_i64 w0; omega)).mono fun e W' ⟨he, hm⟩ => ?_
  subst he
  have bel : Below W.heap.size W W' := hm.below _ (Nat.le_refl _) (fun _ h => h.elim)
  exact ⟨_, rfl, _, _, _, [], _, [], hW', trodAll_mk1 (shut_bool Try.underlying4 _), (trodAll_cons_mk (shut_int Try.underlying3 w0) (trodAll_cons_mk (shut_int Try.underlying3 w1) trodAll_mk0)), rfl, bel.frame _, fun h => by cases h⟩

theorem over : Rows.crewTellsRow.holds Try.pinned (OpenSpec.ofChange Rows.crewTellsSpec) :=
  OpenClaim.holds_of_wide 3 Try.f3 rfl rfl rfl rfl rfl rfl rfl ⟨rfl, rfl, rfl, rfl, rfl⟩ rfl rfl rfl rfl rfl (by kernel_rfl) Try.func3 (by kernel_rfl)
    (of_decide_eq_true (by kernel_rfl)) (by unfold Func.isWrapper; first | (rw [if_pos (by decide +kernel)]; kernel_rfl) | (rw [if_neg (by decide +kernel)]; exact ⟨rfl, rfl⟩))
    (fun os started H enc _ => lifted os started H enc)
end crewTells
theorem crewTells_holds : Rows.CrewTellsSaid := crewTells.over
end Go.Proofs.Ytlhgpbelgifnpaa
