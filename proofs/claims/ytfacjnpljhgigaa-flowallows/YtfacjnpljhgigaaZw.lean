/- FlowAllows holds: Allow answers as the chapter says, of all numbers. Conditions: none. -/
import Derived.Test.YtfacjnpljhgigaaZb
namespace Go.Proofs.Ytfacjnpljhgigaa
open Go.RowKit
set_option maxRecDepth 100000 in
set_option maxHeartbeats 4000000 in
theorem allows_walk (n s a : Int) (w : World) (hs : I64 s) (ha : I64 a) : Calls Try.prog 3 #[.int .i64 n, .int .i64 s, .int .i64 a] w fun e w' => e = .returned (.bool true) ∧ Mod (fun _ => False) w w' := by
  have HS : Hid (I64 s) := hs
  have HA : Hid (I64 a) := ha
  clear hs ha
  go_enter Try.func3, Try.ntmps3
  go_wp2
  go_loopw [7, 8, 9] (fun i _ _ wr => wr = w ∧ ∃ k : Nat, i = .int .i64 (k : Int) ∧ k ≤ 40) (fun i _ _ _ => 40 - (intOf i).toNat)
  case atStart => exact ⟨rfl, 0, rfl, by omega⟩
  case round =>
    obtain ⟨rfl, k, rfl, hk⟩ := hrel
    by_cases hk2 : (k : Int) < 40
    · go_wp2
      go_loopw [8, 9] (fun j _ w2 => w2 = wr ∧ ∃ x : Int, j = .int .i64 x ∧ -1 ≤ x ∧ x ≤ 6) (fun j _ _ => (6 - intOf j).toNat)
      case atStart => exact ⟨rfl, -1, rfl, by omega, by omega⟩
      case round =>
        obtain ⟨rfl, x, rfl, hx1, hx2⟩ := hrel
        by_cases hx3 : x < 6
        · obtain ⟨y, hy⟩ : ∃ y, y = if a < 4611686018427387904 then a + k else a := ⟨_, rfl⟩
          have HY : Hid (I64 y) := by
            have h := HA.out
            subst hy
            show I64 _
            unfold I64 at h ⊢
            split <;> omega
          have hne : (al x y a != al x y a) = false := by simp
          have hc1 := fun W => allow_any x y a W HY.out HA.out
          have hc2 := fun W => dAllow_any x y a W HY.out HA.out
          have HY2 : Hid (y = if a < 4611686018427387904 then a + k else a) := hy
          clear hy
          obtain ⟨q, hq⟩ : ∃ q, q = al x y a := ⟨_, rfl⟩
          rw [← hq] at hc1 hc2 hne
          clear hq
          by_cases hb : a < 4611686018427387904
          · have h1 : IntKind.i64.wrap (a + k) = y := by
              have h := HA.out
              have h' := HY2.out
              unfold I64 at h
              rw [if_pos hb] at h'
              rw [IntKind.wrap_i64]
              omega
            have h2 : wrap64 (a + k) = y := by rw [← h1, IntKind.wrap_i64]; unfold wrap64; omega
            go_wp2_with (fail)
            refine (hc1 _).mono ?_
            rintro e w1 ⟨rfl, rfl⟩
            go_wp2_with (fail)
            refine (hc2 _).mono ?_
            rintro e w1 ⟨rfl, rfl⟩
            go_wp2
            go_roundw
            case rel => exact ⟨trivial, x + 1, by go_num, by omega, by omega⟩
            case measure => simp [intOf]; omega
          · have h1 : a = y := by
              have h' := HY2.out
              rw [if_neg hb] at h'
              exact h'.symm
            have HY3 : Hid (a = y) := h1
            have hc1' : ∀ W, Calls Try.prog 7 #[.int .i64 x, .int .i64 a, .int .i64 a] W fun e w' => e = .returned (.int .i64 q) ∧ w' = W := by
              intro W
              have := hc1 W
              rwa [← h1] at this
            have hc2' : ∀ W, Calls Try.prog 8 #[.int .i64 x, .int .i64 a, .int .i64 a] W fun e w' => e = .returned (.int .i64 q) ∧ w' = W := by
              intro W
              have := hc2 W
              rwa [← h1] at this
            clear h1 hc1 hc2
            go_wp2_with (fail)
            refine (hc1' _).mono ?_
            rintro e w1 ⟨rfl, rfl⟩
            go_wp2_with (fail)
            refine (hc2' _).mono ?_
            rintro e w1 ⟨rfl, rfl⟩
            go_wp2
            go_roundw
            case rel => exact ⟨trivial, x + 1, by go_num, by omega, by omega⟩
            case measure => simp [intOf]; omega
        · go_wp2
          go_roundw
          case rel => exact ⟨trivial, k + 1, by go_num, by omega⟩
          case measure => simp [intOf]; omega
    · have hc1 := fun W => allow_any n s a W HS.out HA.out
      have hc2 := fun W => dAllow_any n s a W HS.out HA.out
      obtain ⟨q, hq⟩ : ∃ q, q = al n s a := ⟨_, rfl⟩
      rw [← hq] at hc1 hc2
      clear hq
      have hne : (q == q) = true := by simp
      go_wp2_with (fail)
      refine (hc1 _).mono ?_
      rintro e w1 ⟨rfl, rfl⟩
      go_wp2_with (fail)
      refine (hc2 _).mono ?_
      rintro e w1 ⟨rfl, rfl⟩
      go_wp2_with (fail)
      refine (works_any _).mono ?_
      rintro e w1 ⟨rfl, rfl⟩
      go_wp2
      go_ret
      exact ⟨rfl, Mod.refl _ _⟩
namespace flowAllows
open Go.ChangeShapes Go.WideShapes Go.ChangeAt Go.RowKit
set_option maxRecDepth 100000 in
theorem lifted (os : Os) (started : os.Started) (H : Type) (enc : TypeId × Value → H) :
    ReturnsInHanded {} Try.checked os 3 .any (Rows.flowAllowsSpec.pre6 enc Try.prog Try.f3 Rows.flowAllowsRow.domain false) (Rows.flowAllowsSpec.post enc Try.prog Try.f3 false true false false) := by
  refine returnsInHanded_of_change_sized (C := Try.checked) own started (by kernel_rfl) Try.func3
    (ChangeSpec.witness6 (enc := enc) (C := Try.checked) false ⟨#[], #[.int .i64 0, .int .i64 0, .int .i64 0], []⟩ 8 (by kernel_rfl) (by kernel_rfl) (by kernel_rfl) (by kernel_rfl)) ?_
  intro W base args ds gs before hval0 hW hcnd hsz0 _
  have hval : ∀ (j : Nat) t v, Try.f3.params[j]? = some t → args[j]? = some v → Value.okWide Try.prog W .any base t v := hval0
  have hsz : (DataW.weightsEach Try.prog (Try.f3.params.toList ++ Rows.flowAllowsSpec.plain.varTypes Try.prog) (ds ++ gs)).all (· ≤ reachBytes) = true := hsz0
  have hW' := hW
  obtain ⟨p, q, hA0, hV, rfl, hfz, hnd⟩ := hW
  have hA : DataW.TrodAll enc Try.prog W 0 (fun _ => true) true Try.f3.params.toList args.toList ds p := hA0
  rw [Try.params3] at hA hval hsz
  obtain ⟨v0, vs0, d0, ds0, p0, q0, hargs, rfl, rfl, h0, r0⟩ := trodAll_cons hA
  obtain ⟨v1, vs1, d1, ds1, p1, q1, rfl, rfl, rfl, h1, r1⟩ := trodAll_cons r0
  obtain ⟨v2, vs2, d2, ds2, p2, q2, rfl, rfl, rfl, h2, r2⟩ := trodAll_cons r1
  obtain ⟨rfl, rfl, rfl⟩ := trodAll_nil r2
  obtain rfl : args = #[v0, v1, v2] := by cases args; simp_all
  obtain ⟨rfl, rfl⟩ := trodVars_none hV
  obtain ⟨a0, rfl, rfl, rfl, w0⟩ := open_int Try.underlying3 (hval 0 3 v0 rfl rfl) h0
  obtain ⟨a1, rfl, rfl, rfl, w1⟩ := open_int Try.underlying3 (hval 1 3 v1 rfl rfl) h1
  obtain ⟨a2, rfl, rfl, rfl, w2⟩ := open_int Try.underlying3 (hval 2 3 v2 rfl rfl) h2
  clear hA0 hval0
  refine (allows_walk a0 a1 a2 W (i64_of_wf w1) (i64_of_wf w2)).mono fun e W' ⟨he, hm⟩ => ?_
  subst he
  have bel : Below W.heap.size W W' := hm.below _ (Nat.le_refl _) (fun _ h => h.elim)
  exact ⟨_, rfl, _, _, _, [], _, [], hW', trodAll_mk1 (shut_bool Try.underlying4 _), (trodAll_cons_mk (shut_int Try.underlying3 w0) (trodAll_cons_mk (shut_int Try.underlying3 w1) (trodAll_cons_mk (shut_int Try.underlying3 w2) trodAll_mk0))), rfl, bel.frame _, fun h => by cases h⟩

theorem over : Rows.flowAllowsRow.holds Try.pinned (OpenSpec.ofChange Rows.flowAllowsSpec) :=
  OpenClaim.holds_of_wide 3 Try.f3 rfl rfl rfl rfl rfl rfl rfl ⟨rfl, rfl, rfl, rfl, rfl⟩ rfl rfl rfl rfl rfl (by kernel_rfl) Try.func3 (by kernel_rfl)
    (of_decide_eq_true (by kernel_rfl)) (by unfold Func.isWrapper; first | (rw [if_pos (by decide +kernel)]; kernel_rfl) | (rw [if_neg (by decide +kernel)]; exact ⟨rfl, rfl⟩))
    (fun os started H enc _ => lifted os started H enc)
end flowAllows
theorem flowAllows_holds : Rows.FlowAllowsSaid := flowAllows.over
end Go.Proofs.Ytfacjnpljhgigaa
