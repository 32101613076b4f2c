/- SieveKnown holds: the law answers true and turns nothing that was there. Conditions: none. -/
import Derived.Test.YtcohfhnollnefaaVe
namespace Go.Proofs.Ytcohfhnollnefaa
open Go.RowKit
theorem ask3 : ask 0 (fun _ => false) [0, -5, 4611686018427387904, 1] = [63, 63, 49, 48] := by decide +kernel
theorem ask4 : ask 0 (fun _ => false) [64, 1, 65, 1, 2, 66, 2, 3] = [49, 49, 49, 48, 49, 49, 48, 49] := by decide +kernel
theorem ask5 : ask 0 (fun _ => false) [9223372036854775807, 9223372036854775744, 9223372036854775743, -9223372036854775808] = [49, 49, 48, 63] := by decide +kernel
theorem ask6 : ask 0 (fun _ => false) [1, 65, 1, 2, 129, 66, 65] = [49, 49, 48, 49, 49, 49, 48] := by decide +kernel
set_option maxRecDepth 100000 in
theorem known_walk (w : World) : Calls Try.prog 7 #[] w fun e w' => e = .returned (.bool true) ∧ Mod (fun _ => False) w w' := by
  go_enter Try.func7, Try.ntmps7
  go_wp2_with (fail)
  go_loopw [1, 2] (fun v i wr => ∃ (k : Nat), i = .int .i64 k ∧ k ≤ 2 ∧ Mod (fun _ => False) w wr ∧ (v = .pointer none ∨ ∃ p, v = .pointer (some ⟨p, 0, none⟩) ∧ wr.cell? ⟨p, 1, none⟩ = some (.int .u64 0))) (fun _ i _ => 2 - (intOf i).toNat)
  case atStart => exact ⟨0, rfl, by omega, Mod.refl _ _, .inl rfl⟩
  case round =>
    obtain ⟨k, rfl, hk, hM, hv⟩ := hrel
    by_cases hlt : (k : Int) < 2
    · have hF : ∃ o, u1 = .pointer o ∧ Calls Try.prog 10 #[.pointer o, .int .i64 0] wr fun e w' => e = .returned (.tuple #[.bool false, .int .i64 1]) ∧ w' = wr := by
        rcases hv with h | ⟨p, h, hc⟩
        · exact ⟨none, h, sFresh_nil 0 wr⟩
        · exact ⟨some ⟨p, 0, none⟩, h, sFresh_zero p 0 wr hc⟩
      clear hv
      obtain ⟨o, rfl, hF⟩ := hF
      go_wp2_with (fail)
      refine hF.mono ?_
      rintro e w4 ⟨rfl, rfl⟩
      clear hF
      have hz := heap_alloc_new w4 (.cells #[.int .i64 0, .int .u64 0] 36)
      have hM2 := hM.alloc (.cells #[.int .i64 0, .int .u64 0] 36)
      have hz1 : (w4.alloc (.cells #[.int .i64 0, .int .u64 0] 36)).cell? ⟨w4.heap.size, 1, none⟩ = some (.int .u64 0) := by unfold World.cell?; simp only [hz]; rfl
      clear hM hz
      go_wp2
      go_roundw
      case rel => exact ⟨k + 1, by go_num, by omega, hM2, .inr ⟨_, rfl, hz1⟩⟩
      case measure => simp [intOf]; omega
    · clear hv
      have h3 := fun w => asked_lit w [0, -5, 4611686018427387904, 1] (by simp [I64]) (by simp)
      have h4 := fun w => asked_lit w [64, 1, 65, 1, 2, 66, 2, 3] (by simp [I64]) (by simp)
      have h5 := fun w => asked_lit w [9223372036854775807, 9223372036854775744, 9223372036854775743, -9223372036854775808] (by simp [I64]) (by simp)
      have h6 := fun w => asked_lit w [1, 65, 1, 2, 129, 66, 65] (by simp [I64]) (by simp)
      simp only [ask3] at h3
      simp only [ask4] at h4
      simp only [ask5] at h5
      simp only [ask6] at h6
      go_wp2_with (fail)
      refine (works _).mono ?_
      rintro e w1 ⟨rfl, hm1⟩
      go_wp2_with (fail)
      refine (h3 w1).mono ?_
      rintro e w2 ⟨rfl, hm2⟩
      go_wp2_with (fail)
      refine (h4 w2).mono ?_
      rintro e w3 ⟨rfl, hm3⟩
      go_wp2_with (fail)
      refine (h5 w3).mono ?_
      rintro e w4 ⟨rfl, hm4⟩
      go_wp2_with (fail)
      refine (h6 w4).mono ?_
      rintro e w5 ⟨rfl, hm5⟩
      go_wp2
      go_ret
      exact ⟨rfl, ((((hM.and hm1).and hm2).and hm3).and hm4).and hm5⟩
namespace sieveKnown
open Go.ChangeShapes Go.WideShapes Go.ChangeAt Go.RowKit
set_option maxRecDepth 100000 in
theorem lifted (os : Os) (started : os.Started) (H : Type) (enc : TypeId × Value → H) :
    ReturnsInHanded {} Try.checked os 7 .any (Rows.sieveKnownSpec.pre6 enc Try.prog Try.f7 Rows.sieveKnownRow.domain false) (Rows.sieveKnownSpec.post enc Try.prog Try.f7 false true false false) := by
  refine returnsInHanded_of_change_sized (C := Try.checked) own started (by kernel_rfl) Try.func7
    (ChangeSpec.witness6 (enc := enc) (C := Try.checked) false ⟨#[], #[], []⟩ 8 (by kernel_rfl) (by kernel_rfl) (by kernel_rfl) (by kernel_rfl)) ?_
  intro W base args ds gs before hval0 hW hcnd hsz0 _
  have hval : ∀ (j : Nat) t v, Try.f7.params[j]? = some t → args[j]? = some v → Value.okWide Try.prog W .any base t v := hval0
  have hW' := hW
  obtain ⟨p, q, hA0, hV, rfl, hfz, hnd⟩ := hW
  have hA : DataW.TrodAll enc Try.prog W 0 (fun _ => true) true Try.f7.params.toList args.toList ds p := hA0
  rw [Try.params7] at hA hval
  obtain ⟨hargs, rfl, rfl⟩ := trodAll_nil hA
  obtain rfl : args = #[] := by cases args; simp_all
  obtain ⟨rfl, rfl⟩ := trodVars_none hV
  clear hA0 hval0
  refine (known_walk W).mono fun e W' ⟨he, hm⟩ => ?_
  subst he
  have bel : Below W.heap.size W W' := hm.below _ (Nat.le_refl _) (fun _ h => h.elim)
  exact ⟨_, rfl, _, _, _, [], _, [], hW', trodAll_mk1 (shut_bool Try.underlying4 _), trodAll_mk0, rfl, bel.frame _, fun h => by cases h⟩

theorem over : Rows.sieveKnownRow.holds Try.pinned (OpenSpec.ofChange Rows.sieveKnownSpec) :=
  OpenClaim.holds_of_wide 7 Try.f7 rfl rfl rfl rfl rfl rfl rfl ⟨rfl, rfl, rfl, rfl, rfl⟩ rfl rfl rfl rfl rfl (by kernel_rfl) Try.func7 (by kernel_rfl)
    (of_decide_eq_true (by kernel_rfl)) (by unfold Func.isWrapper; first | (rw [if_pos (by decide +kernel)]; kernel_rfl) | (rw [if_neg (by decide +kernel)]; exact ⟨rfl, rfl⟩))
    (fun os started H enc _ => lifted os started H enc)
end sieveKnown
theorem sieveKnown_holds : Rows.SieveKnownSaid := sieveKnown.over
end Go.Proofs.Ytcohfhnollnefaa
