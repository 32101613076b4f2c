/- CrewKnown: the chapter's examples. No conditions. -/
import Derived.Test.YtlhgpbelgifnpaaEn
namespace Go.Proofs.Ytlhgpbelgifnpaa
open Go.RowKit
theorem Check_at {c : Int} {w : World} (r : Int) (hc : -9223372036854775808 ≤ c ∧ c ≤ 9223372036854775807) (h : chk c = r) : Calls Try.prog 9 #[.int .i64 c] w fun e w' => e = .returned (.int .i64 r) ∧ w' = w := by
  have := Check c w hc
  rwa [h] at this
theorem Of_lit (w : World) (l : List Int) (cs : Array Value) (x e : Int) (hcs : cs = (U l).toArray) (hl : l.length ≤ maxLen) (h : (ofx l : Int) = x) (h2 : ofe l = e) :
    Calls Try.prog 24 #[.slice (some ⟨w.heap.size, 0, none⟩) l.length l.length] (w.alloc (.cells cs 3)) fun r w' => r = .returned (.tuple #[.int .i64 x, .int .i64 e]) ∧ Mod (fun _ => False) w w' := by
  subst hcs
  refine (Of_at l x e (Own.lit w l hl).sl h h2).mono ?_
  rintro r w' ⟨rfl, rfl⟩
  exact ⟨rfl, (Mod.refl _ w).alloc _⟩
set_option maxHeartbeats 400000 in
set_option maxRecDepth 100000 in
theorem walkKnown (w0 : World) : Calls Try.prog 8 #[] w0 fun e w' => e = .returned (.bool true) ∧ Mod (fun _ => False) w0 w' := by
  have hy0 := Mod.refl (fun _ => False) w0
  go_enter Try.func8, Try.ntmps8
  go_wp2_with (fail)
  have C1 := fun w => @Of_at (.slice none 0 0) w [] 0 0 (Own.nil _).sl (by decide +kernel) (by decide +kernel)
  refine (C1 _).mono ?_
  rintro e w ⟨rfl, rfl⟩
  clear C1
  go_wp2_with (fail)
  have C2 := fun w : World => Of_lit w [9] #[.int .i64 9] 0 2 rfl (by simp [maxLen]) (by decide +kernel) (by decide +kernel)
  refine (C2 _).mono ?_
  rintro e x1 ⟨rfl, hx1⟩
  clear C2
  have hy1 := hy0.trans hx1 (fun _ _ h => h) (fun _ _ h => h)
  clear hx1 hy0
  go_wp2_with (fail)
  have C3 := fun w : World => Of_lit w [0] #[.int .i64 0] 0 2 rfl (by simp [maxLen]) (by decide +kernel) (by decide +kernel)
  refine (C3 _).mono ?_
  rintro e x2 ⟨rfl, hx2⟩
  clear C3
  have hy2 := hy1.trans hx2 (fun _ _ h => h) (fun _ _ h => h)
  clear hx2 hy1
  go_wp2_with (fail)
  have C4 := fun w : World => Of_lit w [1, -1] #[.int .i64 1, .int .i64 (-1)] 0 2 rfl (by simp [maxLen]) (by decide +kernel) (by decide +kernel)
  refine (C4 _).mono ?_
  rintro e x3 ⟨rfl, hx3⟩
  clear C4
  have hy3 := hy2.trans hx3 (fun _ _ h => h) (fun _ _ h => h)
  clear hx3 hy2
  go_wp2_with (fail)
  have C5 := fun w : World => Of_lit w [1, 2, 3, 4, 5, 6, 7, 8] #[.int .i64 1, .int .i64 2, .int .i64 3, .int .i64 4, .int .i64 5, .int .i64 6, .int .i64 7, .int .i64 8] 510 0 rfl (by simp [maxLen]) (by decide +kernel) (by decide +kernel)
  refine (C5 _).mono ?_
  rintro e x4 ⟨rfl, hx4⟩
  clear C5
  have hy4 := hy3.trans hx4 (fun _ _ h => h) (fun _ _ h => h)
  clear hx4 hy3
  go_wp2_with (fail)
  have C6 := fun w => @List_at (-1) w [1, 2, 3, 4, 5, 6, 7, 8] (by decide +kernel)
  refine (C6 _).mono ?_
  rintro e w2 ⟨v, rfl, ho, hm, hn⟩
  clear C6
  go_wp2_with (fail)
  have C7 := fun v v' w hv hv' => @EqInts_at v v' w [1, 2, 3, 4, 5, 6, 7, 8] [1, 2, 3, 4, 5, 6, 7, 8] true hv hv' (by decide)
  refine (C7 _ _ _ (ho.alloc _).sl (Own.lit w2 [1, 2, 3, 4, 5, 6, 7, 8] (by simp [maxLen])).sl).mono ?_
  rintro e w3 ⟨rfl, hm3⟩
  clear C7 ho hn
  go_wp2_with (fail)
  have C8 := fun w => @List_at 1 w [] (by decide +kernel)
  refine (C8 _).mono ?_
  rintro e w4 ⟨v4, rfl, ho, hm4, hn⟩
  clear C8
  obtain ⟨a4, cap4, rfl⟩ := ho.shape
  clear ho hn
  go_wp2_with (fail)
  have C9 := fun w => @Count_at (-1) w 8 (by decide +kernel)
  refine (C9 _).mono ?_
  rintro e w ⟨rfl, rfl⟩
  clear C9
  go_wp2_with (fail)
  have C10 := fun w => @Least_at 1 w 0 (by decide +kernel)
  refine (C10 _).mono ?_
  rintro e w ⟨rfl, rfl⟩
  clear C10
  go_wp2_with (fail)
  have C11 := fun w => @Least_at 256 w 8 (by decide +kernel)
  refine (C11 _).mono ?_
  rintro e w ⟨rfl, rfl⟩
  clear C11
  go_wp2_with (fail)
  have C12 := fun w => @Has_at (-1) 0 w false (by decide +kernel)
  refine (C12 _).mono ?_
  rintro e w ⟨rfl, rfl⟩
  clear C12
  go_wp2_with (fail)
  have C13 := fun w => @Has_at (-1) 9 w false (by decide +kernel)
  refine (C13 _).mono ?_
  rintro e w ⟨rfl, rfl⟩
  clear C13
  go_wp2_with (fail)
  have C14 := fun w => @Has_at (-1) (-9223372036854775808) w false (by decide +kernel)
  refine (C14 _).mono ?_
  rintro e w ⟨rfl, rfl⟩
  clear C14
  go_wp2_with (fail)
  have C15 := fun w => @Has_at (-9223372036854775806) 1 w true (by decide +kernel)
  refine (C15 _).mono ?_
  rintro e w ⟨rfl, rfl⟩
  clear C15
  go_wp2_with (fail)
  have C16 := fun w => @Next_at 10 2 w 3 (by decide +kernel)
  refine (C16 _).mono ?_
  rintro e w ⟨rfl, rfl⟩
  clear C16
  go_wp2_with (fail)
  have C17 := fun w => @Next_at 0 5 w 0 (by decide +kernel)
  refine (C17 _).mono ?_
  rintro e w ⟨rfl, rfl⟩
  clear C17
  go_wp2_with (fail)
  have C18 := fun w => @Next_at 4 2 w 2 (by decide +kernel)
  refine (C18 _).mono ?_
  rintro e w ⟨rfl, rfl⟩
  clear C18
  go_wp2_with (fail)
  have C19 := fun w => @Next_at 10 (-9) w 1 (by decide +kernel)
  refine (C19 _).mono ?_
  rintro e w ⟨rfl, rfl⟩
  clear C19
  go_wp2_with (fail)
  have C20 := fun w => @Next_at 10 4611686018427387904 w 1 (by decide +kernel)
  refine (C20 _).mono ?_
  rintro e w ⟨rfl, rfl⟩
  clear C20
  go_wp2_with (fail)
  have C21 := fun w => @Next_at 256 7 w 8 (by decide +kernel)
  refine (C21 _).mono ?_
  rintro e w ⟨rfl, rfl⟩
  clear C21
  go_wp2_with (fail)
  have C22 := fun w => @Next_at 258 8 w 1 (by decide +kernel)
  refine (C22 _).mono ?_
  rintro e w ⟨rfl, rfl⟩
  clear C22
  go_wp2_with (fail)
  have C23 := fun w => @Check_at 0 w 0 (by decide) (by decide +kernel)
  refine (C23 _).mono ?_
  rintro e w ⟨rfl, rfl⟩
  clear C23
  go_wp2_with (fail)
  have C24 := fun w => @Check_at 510 w 0 (by decide) (by decide +kernel)
  refine (C24 _).mono ?_
  rintro e w ⟨rfl, rfl⟩
  clear C24
  go_wp2_with (fail)
  have C25 := fun w => @Check_at 1 w 2 (by decide) (by decide +kernel)
  refine (C25 _).mono ?_
  rintro e w ⟨rfl, rfl⟩
  clear C25
  go_wp2_with (fail)
  have C26 := fun w => @Check_at 512 w 2 (by decide) (by decide +kernel)
  refine (C26 _).mono ?_
  rintro e w ⟨rfl, rfl⟩
  clear C26
  go_wp2_with (fail)
  have C27 := fun w => @Check_at (-2) w 2 (by decide) (by decide +kernel)
  refine (C27 _).mono ?_
  rintro e w ⟨rfl, rfl⟩
  clear C27
  go_wp2_with (fail)
  have C28 := fun w => @Check_at 511 w 2 (by decide) (by decide +kernel)
  refine (C28 _).mono ?_
  rintro e w ⟨rfl, rfl⟩
  clear C28
  go_wp2_with (fail)
  have C29 := fun w => works w
  refine (C29 _).mono ?_
  rintro e w5 ⟨rfl, hm5⟩
  clear C29
  go_wp2
  go_ret
  refine ⟨rfl, ?_⟩
  exact (((hy4.trans hm (fun _ _ h => h) (fun _ _ h => h)).alloc _).trans hm3 (fun _ _ h => h) (fun _ _ h => h) |>.trans hm4 (fun _ _ h => h) (fun _ _ h => h)).trans hm5 (fun _ _ h => h) (fun _ _ h => h)
namespace crewKnown
open Go.ChangeShapes Go.WideShapes Go.ChangeAt Go.RowKit
set_option maxRecDepth 100000 in
theorem lifted (os : Os) (started : os.Started) (H : Type) (enc : TypeId × Value → H) :
    ReturnsInHanded {} Try.checked os 8 .any (Rows.crewKnownSpec.pre6 enc Try.prog Try.f8 Rows.crewKnownRow.domain false) (Rows.crewKnownSpec.post enc Try.prog Try.f8 false true false false) := by
  refine returnsInHanded_of_change (C := Try.checked) own started (by kernel_rfl) Try.func8
    (ChangeSpec.witness6 (enc := enc) (C := Try.checked) false ⟨#[], #[], []⟩ 8 (by kernel_rfl) (by kernel_rfl) (by kernel_rfl) (by kernel_rfl)) ?_
  intro W base args ds gs before hval0 hW hcnd _
  have hW' := hW
  obtain ⟨p, q, hA0, hV, rfl, hfz, hnd⟩ := hW
  have hA : DataW.TrodAll enc Try.prog W 0 (fun _ => true) true Try.f8.params.toList args.toList ds p := hA0
  rw [Try.params8] at hA
  obtain ⟨hargs, rfl, rfl⟩ := trodAll_nil hA
  obtain rfl : args = #[] := by cases args; simp_all
  obtain ⟨rfl, rfl⟩ := trodVars_none hV
  clear hA0 hval0
  refine (walkKnown W).mono fun e W' ⟨he, hm⟩ => ?_
  subst he
  have bel : Below W.heap.size W W' := hm.below _ (Nat.le_refl _) (fun _ h => h.elim)
  exact ⟨_, rfl, _, _, _, [], _, [], hW', trodAll_mk1 (shut_bool Try.underlying4 _), trodAll_mk0, rfl, bel.frame _, fun h => by cases h⟩

theorem over : Rows.crewKnownRow.holds Try.pinned (OpenSpec.ofChange Rows.crewKnownSpec) :=
  OpenClaim.holds_of_wide 8 Try.f8 rfl rfl rfl rfl rfl rfl rfl ⟨rfl, rfl, rfl, rfl, rfl⟩ rfl rfl rfl rfl rfl (by kernel_rfl) Try.func8 (by kernel_rfl)
    (of_decide_eq_true (by kernel_rfl)) (by unfold Func.isWrapper; first | (rw [if_pos (by decide +kernel)]; kernel_rfl) | (rw [if_neg (by decide +kernel)]; exact ⟨rfl, rfl⟩))
    (fun os started H enc _ => lifted os started H enc)
end crewKnown
theorem crewKnown_holds : Rows.CrewKnownSaid := crewKnown.over
end Go.Proofs.Ytlhgpbelgifnpaa
