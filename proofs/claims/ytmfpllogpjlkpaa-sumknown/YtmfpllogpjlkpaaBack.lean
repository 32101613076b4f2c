/- SumBack holds: for any bytes the law answers true and turns nothing that was there. Conditions: none beyond the form's own reach (a slice of bytes takes at most 2^47 - 4096 bytes). -/
import Derived.Test.YtmfpllogpjlkpaaEn
namespace Go.Proofs.Ytmfpllogpjlkpaa
open Go.RowKit
theorem openE_sealed (l : List Int) : openE (sealed l) = 0 := by
  unfold openE
  have hl := sealed_len l
  rw [if_neg (by omega), if_pos]
  rw [hl, Nat.add_sub_cancel, sealed, List.take_append_of_le_length (by omega), List.take_of_length_le (by omega), List.drop_append_of_le_length (by omega), List.drop_of_length_le (by omega), List.nil_append, num_four (chk_lt l)]
theorem openD_sealed (l : List Int) : openD (sealed l) = l := by
  unfold openD
  rw [if_pos (openE_sealed l), sealed_len, Nat.add_sub_cancel, sealed, List.take_append_of_le_length (by omega), List.take_of_length_le (by omega)]
theorem sealed_open {l : List Int} (hr : ∀ c ∈ l, 0 ≤ c ∧ c ≤ 255) (h : openE l = 0) : sealed (openD l) = l := by
  unfold openD
  rw [if_pos h]
  unfold openE at h
  split at h
  · cases h
  · rename_i h4
    split at h
    · rename_i hc
      rw [sealed, hc, four_num (by simp; omega) (fun c hc => hr c (List.mem_of_mem_drop hc)), List.take_append_drop]
    · cases h
theorem openD_bad {l : List Int} (h : openE l ≠ 0) : openD l = [] := by unfold openD; rw [if_neg h]
theorem openE_cases (l : List Int) : openE l = 0 ∨ openE l = 3 ∨ openE l = 60 := by unfold openE; split; simp; split <;> simp
theorem openD_len (l : List Int) : (openD l).length ≤ l.length := by unfold openD; split <;> simp
theorem openD_rng {l : List Int} (hr : ∀ c ∈ l, 0 ≤ c ∧ c ≤ 255) : ∀ c ∈ openD l, 0 ≤ c ∧ c ≤ 255 := by
  intro c hc
  unfold openD at hc
  split at hc
  · exact hr c (List.mem_of_mem_take hc)
  · cases hc
set_option maxRecDepth 100000 in
set_option maxHeartbeats 2000000 in
theorem back_walk (v : Value) (l : List Int) (w : World) (hs : Sl w v l) (hb : l.length ≤ 140737488351232) :
    Calls Try.prog 4 #[v] w fun e w' => e = .returned (.bool true) ∧ Mod (fun _ => False) w w' := by
  have hrg := hs.rng
  go_enter Try.func4, Try.ntmps4
  go_wp2_with fail
  refine (works_any _).mono ?_
  rintro e w0 ⟨rfl, hm⟩
  replace hs := hs.mod hm (fun _ _ h => h)
  go_wp2_with fail
  refine (Seal_any v l _ hs (by omega)).mono ?_
  rintro e w1 ⟨v1, rfl, ho1, hm1, hv1⟩
  replace hm := hm.and hm1
  replace hs := hs.mod hm1 (fun _ _ h => h)
  go_wp2_with fail
  refine (Open_at 0 l (ho1.sl (sealed_rng hrg)) (by rw [sealed_len]; omega) (openE_sealed l) (openD_sealed l)).mono ?_
  rintro e w2 ⟨v2, rfl, ho2, hm2, hv2⟩
  replace hm := hm.and hm2
  replace hs := hs.mod hm2 (fun _ _ h => h)
  clear ho1 hm1 hv1 hm2 hv2
  go_wp2_with fail
  refine (Open_any v l _ hs (by omega)).mono ?_
  rintro e w3 ⟨v3, rfl, ho3, hm3, hv3⟩
  replace hm := hm.and hm3
  replace hs := hs.mod hm3 (fun _ _ h => h)
  have hs2 := (ho2.mod hm3 (fun _ _ h => h)).sl hrg
  clear ho2 hm3 hv3
  go_wp2_with fail
  refine (EqBytes_at true hs2 hs (by simp)).mono ?_
  rintro e w4 ⟨rfl, hm4⟩
  replace hm := hm.and hm4
  replace hs := hs.mod hm4 (fun _ _ h => h)
  replace ho3 := ho3.mod hm4 (fun _ _ h => h)
  clear hs2 hm4
  by_cases h0 : openE l = 0
  · have hD := sealed_open hrg h0
    have hsd := ho3.sl (openD_rng hrg)
    have hdl := openD_len l
    rw [h0]
    generalize openD l = D at hsd hD hdl ho3
    have HD : Hid (sealed D = l) := hD
    obtain ⟨ao, cap, rfl⟩ := ho3.shape
    have HR := hsd.rng
    clear hD h0 ho3
    go_wp2_with fail
    refine (Seal_any _ D _ hsd (by omega)).mono ?_
    rintro e w5 ⟨v5, rfl, ho5, hm5, hv5⟩
    rw [HD.out] at ho5
    replace hm := hm.and hm5
    replace hs := hs.mod hm5 (fun _ _ h => h)
    go_wp2_with fail
    refine (EqBytes_at true (ho5.sl hrg) hs (by simp)).mono ?_
    rintro e w6 ⟨rfl, hm6⟩
    replace hm := hm.and hm6
    go_wp2
    go_ret
    exact ⟨rfl, hm⟩
  · rw [openD_bad h0] at ho3
    obtain ⟨ao, cap, rfl⟩ := ho3.shape
    rcases openE_cases l with h | h | h
    · exact absurd h h0
    · rw [h]
      clear h h0
      go_wp2
      go_ret
      exact ⟨rfl, hm⟩
    · rw [h]
      clear h h0
      go_wp2
      go_ret
      exact ⟨rfl, hm⟩

namespace sumBack
open Go.ChangeShapes Go.WideShapes Go.ChangeAt Go.RowKit
set_option maxRecDepth 100000 in
theorem lifted (os : Os) (started : os.Started) (H : Type) (enc : TypeId × Value → H) :
    ReturnsInHanded {} Try.checked os 4 .any (Rows.sumBackSpec.pre6 enc Try.prog Try.f4 Rows.sumBackRow.domain false) (Rows.sumBackSpec.post enc Try.prog Try.f4 false true false false) := by
  refine returnsInHanded_of_change_sized (C := Try.checked) own started (by kernel_rfl) Try.func4
    (ChangeSpec.witness6 (enc := enc) (C := Try.checked) false ⟨#[], #[.slice none 0 0], []⟩ 8 (by kernel_rfl) (by kernel_rfl) (by kernel_rfl) (by kernel_rfl)) ?_
  intro W base args ds gs before hval0 hW hcnd hsz0 _
  have hval : ∀ (j : Nat) t v, Try.f4.params[j]? = some t → args[j]? = some v → Value.okWide Try.prog W .any base t v := hval0
  have hsz : (DataW.weightsEach Try.prog (Try.f4.params.toList ++ Rows.sumBackSpec.plain.varTypes Try.prog) (ds ++ gs)).all (· ≤ reachBytes) = true := hsz0
  have hW' := hW
  obtain ⟨p, q, hA0, hV, rfl, hfz, hnd⟩ := hW
  have hA : DataW.TrodAll enc Try.prog W 0 (fun _ => true) true Try.f4.params.toList args.toList ds p := hA0
  rw [Try.params4] at hA hval hsz
  obtain ⟨v0, vs0, d0, ds0, p0, q0, hargs, rfl, rfl, h0, r0⟩ := trodAll_cons hA
  obtain ⟨rfl, rfl, rfl⟩ := trodAll_nil r0
  obtain rfl : args = #[v0] := by cases args; simp_all
  obtain ⟨rfl, rfl⟩ := trodVars_none hV
  have hs0 := okWide_slice Try.underlying22 (hval 0 22 v0 rfl rfl)
  have k0 := h0
  have lt0 : ∀ x ∈ p0, x.block < W.heap.size := by obtain ⟨m, hm⟩ := k0; exact DataW.trod_lt m _ _ _ hm
  obtain ⟨B, hB, hBl⟩ : ∃ B, Sl W v0 B ∧ B.length ≤ 140737488351232 := by
    obtain ⟨ao, len, cap, rfl⟩ := hs0
    obtain ⟨fuel, hf⟩ := h0
    obtain ⟨B, hB, hbulk, hx⟩ := sl_of_trod (c := .slice ao len cap) (by simpa [Value.cells] using hf)
    refine ⟨B, hB, ?_⟩
    simp only at hbulk hx
    rcases hx with rfl | ⟨e, s, rfl, hlen⟩
    · simp [Rows.uptoBulk] at hbulk; simp [hbulk]
    · have := sized_slice hsz (j := 0) (t := 22) (e := 5) rfl rfl Try.underlying22
      rw [bytes5] at this
      simp only [reachBytes] at this
      omega
  clear hA0 hval0
  refine (back_walk v0 B W hB hBl).mono fun e W' ⟨he, hm⟩ => ?_
  subst he
  have bel : Below W.heap.size W W' := hm.below _ (Nat.le_refl _) (fun _ h => h.elim)
  exact ⟨_, rfl, _, _, _, [], _, [], hW', trodAll_mk1 (shut_bool Try.underlying4 _), (trodAll_cons_mk (Below.trod laidOut (by kernel_rfl) (of_decide_eq_true (by kernel_rfl)) k0 bel lt0) trodAll_mk0), rfl, bel.frame _, fun h => by cases h⟩

theorem over : Rows.sumBackRow.holds Try.pinned (OpenSpec.ofChange Rows.sumBackSpec) :=
  OpenClaim.holds_of_wide 4 Try.f4 rfl rfl rfl rfl rfl rfl rfl ⟨rfl, rfl, rfl, rfl, rfl⟩ rfl rfl rfl rfl rfl (by kernel_rfl) Try.func4 (by kernel_rfl)
    (of_decide_eq_true (by kernel_rfl)) (by unfold Func.isWrapper; first | (rw [if_pos (by decide +kernel)]; kernel_rfl) | (rw [if_neg (by decide +kernel)]; exact ⟨rfl, rfl⟩))
    (fun os started H enc _ => lifted os started H enc)
end sumBack
theorem sumBack_holds : Rows.SumBackSaid := sumBack.over
end Go.Proofs.Ytmfpllogpjlkpaa
