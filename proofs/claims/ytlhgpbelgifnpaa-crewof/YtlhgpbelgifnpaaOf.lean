/- CrewOf: Of answers as the chapter says, what is handed in stays, what List answers is new each time. Conditions: a list of at most 2^47 bytes, by the form's own reach. -/
import Derived.Test.YtlhgpbelgifnpaaEn
import Derived.Test.YtlhgpbelgifnpaaRf
namespace Go.Proofs.Ytlhgpbelgifnpaa
open Go.RowKit
theorem Own.put {w : World} {g n cap K : Nat} {L : List Int} {d : Int} (hn : L.length = n) (h : Own w (.slice (some ⟨g, 0, none⟩) n cap) L) : Own (w.setCell ⟨g, K, none⟩ (.int .i64 d)) (.slice (some ⟨g, 0, none⟩) n cap) (L.set K d) := by
  unfold Own at h ⊢
  rw [show U (L.set K d) = (U L).set K (.int .i64 d) by simp [U, List.map_set], List.length_set, hn]
  rw [hn] at h
  exact (World.ownsRow.stored h K _).1
theorem Own.cell {w : World} {g n cap : Nat} {L : List Int} (hn : L.length = n) (h : Own w (.slice (some ⟨g, 0, none⟩) n cap) L) (K : Nat) (hK : K < n) : w.cell? ⟨g, K, none⟩ = some (.int .i64 (L.getD K 0)) ∧ w.frozen? ⟨g, K, none⟩ = false := by
  obtain ⟨cur, hcur⟩ := h.kind (g := g) rfl
  refine ⟨?_, by simp [World.frozen?, hcur]⟩
  unfold Own at h
  rw [hn] at h
  have := World.ownsRow.cellAt h K (by omega)
  rw [this]
  exact U_get L K (by omega)
set_option maxHeartbeats 1000000 in
theorem walkOf (v : Value) (l : List Int) (w : World) (hv : Sl w v l) (hl : l.length ≤ 17592186043904) : Calls Try.prog 4 #[v] w fun e w' => e = .returned (.bool true) ∧ Mod (fun _ => False) w w' := by
  have HW := fun w => works w
  have HCp := copy_any v l w hv (by omega)
  have HO := fun v w hs => Of24 v l w hs
  have HRO := fun v w hs => ROf v l w hs
  have HL := fun w => List12 (ofx l) w
  have HRL := fun w => RList (ofx l) w
  have HQ := fun u v w hu hv => @EqInts_at u v w l l true hu hv (by simp)
  have HV : Hid (Sl w v l) := hv
  have h8 : Hid ((ls (lo (ofx l))).length ≤ 8) := ls_len ⟨lo (ofx l), lo_lt (ofx l)⟩
  obtain ⟨ao, cap, hvs, _, _, _, _⟩ := hv
  generalize ls (lo (ofx l)) = L at HL HRL h8
  generalize ofe l = re at HO HRO
  generalize ofx l = rx at *
  subst hvs
  clear hl
  go_enter Try.func4, Try.ntmps4
  go_wp2_with (fail)
  refine HCp.mono ?_
  rintro e w1 ⟨v1, rfl, ho1, hm1, hn1⟩
  clear HCp
  have hs1 := ho1.sl
  have hv1 := HV.out.mod hm1 (fun _ _ h => h)
  go_wp2_with (fail)
  refine (HO _ _ hs1).mono ?_
  rintro e w2 ⟨rfl, rfl⟩
  clear HO
  go_wp2_with (fail)
  refine (HRO _ _ hv1).mono ?_
  rintro e w3 ⟨rfl, rfl⟩
  clear HRO
  go_wp2_with (fail)
  refine (HQ _ _ _ hs1 hv1).mono ?_
  rintro e w4 ⟨rfl, hm4⟩
  clear HQ
  have hm5 := hm1.trans hm4 (fun _ _ h => h) (fun _ _ h => h)
  clear hm1 hm4 hs1 hv1 ho1 hn1 HV
  go_wp2_with (fail)
  refine (HL _).mono ?_
  rintro e w6 ⟨v6, rfl, ho6, hm6, hn6⟩
  have hn7 : New w v6 := fun g hg => Nat.le_trans hm5.size (hn6 g hg)
  have hm7 := hm5.trans hm6 (fun _ _ h => h) (fun _ _ h => h)
  clear hm5 hm6 hn6
  obtain ⟨a6, c6, rfl⟩ := ho6.shape
  obtain ⟨m, hmd⟩ : ∃ m, m = L.length := ⟨_, rfl⟩
  rw [← hmd] at ho6 hn7 h8 ⊢
  have HMD : Hid (m = L.length) := hmd
  have hm8 : m ≤ 8 := h8.out
  clear hmd h8
  go_wp2_with (fail)
  go_loopw [9] (fun i wq => ∃ (j : Nat) (X : List Int), i = .int .i64 (j : Int) ∧ j ≤ m ∧ Hid (X.length = m) ∧ Hid (Own wq (.slice a6 m c6) X) ∧ Hid (Mod (fun _ => False) w wq)) (fun i _ => m - (intOf i).toNat)
  case atStart => exact ⟨0, L, rfl, by omega, HMD.out.symm, ho6, hm7⟩
  case round =>
    obtain ⟨j, X, rfl, hj, hX, hoX, hmX⟩ := hrel
    by_cases hjm : j < m
    · obtain ⟨g6, rfl⟩ : ∃ g6, a6 = some ⟨g6, 0, none⟩ := by
        obtain ⟨g6, c', e, _⟩ := hoX.out.form (by have := hX.out; omega)
        rw [Value.slice.injEq] at e
        exact ⟨g6, e.1⟩
      obtain ⟨q1, q2⟩ := hoX.out.cell hX.out j hjm
      generalize X.getD j 0 = cj at q1
      have hjm2 : (j : Int) < (m : Int) := by omega
      clear ho6
      go_wp2
      go_roundw
      case rel => exact ⟨j + 1, X.set j _, by go_num, by omega, by show _ = _; rw [List.length_set]; exact hX.out, hoX.out.put hX.out, hmX.out.setCell _ _ (.inr (hn7 g6 rfl))⟩
      case measure => simp [intOf]; omega
    · have hmX' := hmX.out
      clear ho6 hoX hm7 hmX hX
      obtain rfl : m = j := by omega
      go_wp2_with (fail)
      refine (HL _).mono ?_
      rintro e w7 ⟨v7, rfl, ho7, hm8, hn8⟩
      go_wp2_with (fail)
      refine (HRL _).mono ?_
      rintro e w9 ⟨v9, rfl, ho9, hm9, hn9⟩
      have hs7 := (ho7.mod hm9 (fun _ _ h => h)).sl
      have hm10 := (hmX'.trans hm8 (fun _ _ h => h) (fun _ _ h => h)).trans hm9 (fun _ _ h => h) (fun _ _ h => h)
      clear hm9 hmX' ho7 hn8 hn9
      go_wp2_with (fail)
      refine (EqInts_at true hs7 ho9.sl (by simp)).mono ?_
      rintro e w11 ⟨rfl, hm11⟩
      have hm12 := hm10.trans hm11 (fun _ _ h => h) (fun _ _ h => h)
      clear hm10 hm11 hs7 ho9
      go_wp2_with (fail)
      refine (HW _).mono ?_
      rintro e w13 ⟨rfl, hm13⟩
      go_wp2
      go_ret
      exact ⟨rfl, hm12.trans hm13 (fun _ _ h => h) (fun _ _ h => h)⟩
namespace crewOf
open Go.ChangeShapes Go.WideShapes Go.ChangeAt Go.RowKit
set_option maxRecDepth 100000 in
theorem lifted (os : Os) (started : os.Started) (H : Type) (enc : TypeId × Value → H) :
    ReturnsInHanded {} Try.checked os 4 .any (Rows.crewOfSpec.pre6 enc Try.prog Try.f4 Rows.crewOfRow.domain false) (Rows.crewOfSpec.post enc Try.prog Try.f4 false true false false) := by
  refine returnsInHanded_of_change_sized (C := Try.checked) own started (by kernel_rfl) Try.func4
    (ChangeSpec.witness6 (enc := enc) (C := Try.checked) false ⟨#[], #[.slice none 0 0], []⟩ 8 (by kernel_rfl) (by kernel_rfl) (by kernel_rfl) (by kernel_rfl)) ?_
  intro W base args ds gs before hval0 hW hcnd hsz0 _
  have hval : ∀ (j : Nat) t v, Try.f4.params[j]? = some t → args[j]? = some v → Value.okWide Try.prog W .any base t v := hval0
  have hsz : (DataW.weightsEach Try.prog (Try.f4.params.toList ++ Rows.crewOfSpec.plain.varTypes Try.prog) (ds ++ gs)).all (· ≤ reachBytes) = true := hsz0
  have hW' := hW
  obtain ⟨p, q, hA0, hV, rfl, hfz, hnd⟩ := hW
  have hA : DataW.TrodAll enc Try.prog W 0 (fun _ => true) true Try.f4.params.toList args.toList ds p := hA0
  rw [Try.params4] at hA hval hsz
  obtain ⟨v0, vs0, d0, ds0, p0, q0, hargs, rfl, rfl, h0, r0⟩ := trodAll_cons hA
  obtain ⟨rfl, rfl, rfl⟩ := trodAll_nil r0
  obtain rfl : args = #[v0] := by cases args; simp_all
  obtain ⟨rfl, rfl⟩ := trodVars_none hV
  have hs0 := okWide_slice Try.underlying25 (hval 0 25 v0 rfl rfl)
  have k0 := h0
  have lt0 : ∀ x ∈ p0, x.block < W.heap.size := by obtain ⟨m, hm⟩ := k0; exact DataW.trod_lt m _ _ _ hm
  obtain ⟨B0, hB0, hBl0⟩ : ∃ B, Sl W v0 B ∧ B.length ≤ 17592186043904 := by
    obtain ⟨ao, len, cap, rfl⟩ := hs0
    obtain ⟨fuel, hf⟩ := h0
    obtain ⟨B, hB, hbulk, hx⟩ := sl_of_trod (c := .slice ao len cap) (by simpa [Value.cells] using hf)
    refine ⟨B, hB, ?_⟩
    simp only at hbulk hx
    rcases hx with rfl | ⟨e, s, rfl, hlen⟩
    · simp [Rows.uptoBulk] at hbulk; simp [hbulk]
    · have := sized_slice hsz (j := 0) (t := 25) (e := 3) rfl rfl Try.underlying25
      rw [bytes3] at this
      simp only [reachBytes] at this
      omega
  clear hA0 hval0
  refine (walkOf v0 B0 W hB0 hBl0).mono fun e W' ⟨he, hm⟩ => ?_
  subst he
  have bel : Below W.heap.size W W' := hm.below _ (Nat.le_refl _) (fun _ h => h.elim)
  exact ⟨_, rfl, _, _, _, [], _, [], hW', trodAll_mk1 (shut_bool Try.underlying4 _), (trodAll_cons_mk (Below.trod laidOut (by kernel_rfl) (of_decide_eq_true (by kernel_rfl)) k0 bel lt0) trodAll_mk0), rfl, bel.frame _, fun h => by cases h⟩

theorem over : Rows.crewOfRow.holds Try.pinned (OpenSpec.ofChange Rows.crewOfSpec) :=
  OpenClaim.holds_of_wide 4 Try.f4 rfl rfl rfl rfl rfl rfl rfl ⟨rfl, rfl, rfl, rfl, rfl⟩ rfl rfl rfl rfl rfl (by kernel_rfl) Try.func4 (by kernel_rfl)
    (of_decide_eq_true (by kernel_rfl)) (by unfold Func.isWrapper; first | (rw [if_pos (by decide +kernel)]; kernel_rfl) | (rw [if_neg (by decide +kernel)]; exact ⟨rfl, rfl⟩))
    (fun os started H enc _ => lifted os started H enc)
end crewOf
theorem crewOf_holds : Rows.CrewOfSaid := crewOf.over
end Go.Proofs.Ytlhgpbelgifnpaa
