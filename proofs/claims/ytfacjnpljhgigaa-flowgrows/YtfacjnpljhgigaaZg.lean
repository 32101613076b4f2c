/- FlowGrows holds: more that wait, or a greater aru, never come to less; a greater seq never to more. Conditions: none. -/
import Derived.Test.YtfacjnpljhgigaaZb
namespace Go.Proofs.Ytfacjnpljhgigaa
open Go.RowKit
theorem al_more {n n' s s' a a' : Int} (h1 : n ≤ n') (h2 : s' ≤ s) (h3 : a ≤ a') : al n s a ≤ al n' s' a' := by
  unfold al rm
  split <;> split <;> (try split) <;> (try split) <;> omega
set_option maxRecDepth 100000 in
set_option maxHeartbeats 4000000 in
theorem grows_walk (a0 a1 a2 b0 b1 b2 : Int) (w : World) (ia1 : I64 a1) (ia2 : I64 a2) (ib1 : I64 b1) (ib2 : I64 b2) : Calls Try.prog 5 #[.agg #[.int .i64 a0, .int .i64 a1, .int .i64 a2], .agg #[.int .i64 b0, .int .i64 b1, .int .i64 b2]] w fun e w' => e = .returned (.bool true) ∧ Mod (fun _ => False) w w' := by
  obtain ⟨n0, hn0⟩ : ∃ x, x = min a0 b0 := ⟨_, rfl⟩
  obtain ⟨n1, hn1⟩ : ∃ x, x = max a0 b0 := ⟨_, rfl⟩
  obtain ⟨s0, hs0⟩ : ∃ x, x = min a1 b1 := ⟨_, rfl⟩
  obtain ⟨s1, hs1⟩ : ∃ x, x = max a1 b1 := ⟨_, rfl⟩
  obtain ⟨c0, hc0⟩ : ∃ x, x = min a2 b2 := ⟨_, rfl⟩
  obtain ⟨c1, hc1⟩ : ∃ x, x = max a2 b2 := ⟨_, rfl⟩
  have m1 : ∀ W, (Builtin.min_ #[3, 3] 3 #[.int .i64 a0, .int .i64 b0]).run Try.prog W = .ok (.int .i64 n0) W := fun W => by rw [Lib.run_min_ints, hn0]
  have m2 : ∀ W, (Builtin.max_ #[3, 3] 3 #[.int .i64 a0, .int .i64 b0]).run Try.prog W = .ok (.int .i64 n1) W := fun W => by rw [Lib.run_max_ints, hn1]
  have m3 : ∀ W, (Builtin.min_ #[3, 3] 3 #[.int .i64 a1, .int .i64 b1]).run Try.prog W = .ok (.int .i64 s0) W := fun W => by rw [Lib.run_min_ints, hs0]
  have m4 : ∀ W, (Builtin.max_ #[3, 3] 3 #[.int .i64 a1, .int .i64 b1]).run Try.prog W = .ok (.int .i64 s1) W := fun W => by rw [Lib.run_max_ints, hs1]
  have m5 : ∀ W, (Builtin.min_ #[3, 3] 3 #[.int .i64 a2, .int .i64 b2]).run Try.prog W = .ok (.int .i64 c0) W := fun W => by rw [Lib.run_min_ints, hc0]
  have m6 : ∀ W, (Builtin.max_ #[3, 3] 3 #[.int .i64 a2, .int .i64 b2]).run Try.prog W = .ok (.int .i64 c1) W := fun W => by rw [Lib.run_max_ints, hc1]
  have i1 : I64 s0 := by unfold I64 at *; omega
  have i2 : I64 s1 := by unfold I64 at *; omega
  have i3 : I64 c0 := by unfold I64 at *; omega
  have i4 : I64 c1 := by unfold I64 at *; omega
  obtain ⟨q0, hq0⟩ : ∃ x, x = al n0 s1 c0 := ⟨_, rfl⟩
  obtain ⟨q1, hq1⟩ : ∃ x, x = al n1 s1 c0 := ⟨_, rfl⟩
  obtain ⟨q2, hq2⟩ : ∃ x, x = al n0 s0 c0 := ⟨_, rfl⟩
  obtain ⟨q3, hq3⟩ : ∃ x, x = al n0 s1 c1 := ⟨_, rfl⟩
  obtain ⟨q4, hq4⟩ : ∃ x, x = al n1 s0 c1 := ⟨_, rfl⟩
  have k0 := fun W => allow_at n0 s1 c0 q0 W i2 i3 hq0.symm
  have k1 := fun W => allow_at n1 s1 c0 q1 W i2 i3 hq1.symm
  have k2 := fun W => allow_at n0 s0 c0 q2 W i1 i3 hq2.symm
  have k3 := fun W => allow_at n0 s1 c1 q3 W i2 i4 hq3.symm
  have k4 := fun W => allow_at n1 s0 c1 q4 W i1 i4 hq4.symm
  have g0 : q0 ≥ 0 ∧ q0 ≤ 4 := by rw [hq0]; exact al_rng _ _ _
  have g1 : q0 ≤ q1 := by rw [hq0, hq1]; exact al_more (by omega) (by omega) (by omega)
  have g2 : q0 ≤ q2 := by rw [hq0, hq2]; exact al_more (by omega) (by omega) (by omega)
  have g3 : q0 ≤ q3 := by rw [hq0, hq3]; exact al_more (by omega) (by omega) (by omega)
  have g4 : q4 ≤ 4 := by rw [hq4]; exact (al_rng _ _ _).2
  obtain ⟨g5, g6⟩ := g0
  have d0 : decide (q0 ≥ 0) = true := by simpa using g5
  have d1 : decide (q0 ≤ 4) = true := by simpa using g6
  have d2 : decide (q0 ≤ q1) = true := by simpa using g1
  have d3 : decide (q0 ≤ q2) = true := by simpa using g2
  have d4 : decide (q0 ≤ q3) = true := by simpa using g3
  have d5 : decide (q4 ≤ 4) = true := by simpa using g4
  clear hq0 hq1 hq2 hq3 hq4 i1 i2 i3 i4 hn0 hn1 hs0 hs1 hc0 hc1 ia1 ia2 ib1 ib2
  go_enter Try.func5, Try.ntmps5
  go_wp2_with (fail)
  refine (works_any _).mono ?_
  rintro e w1 ⟨rfl, rfl⟩
  go_wp2_with (fail)
  go_quiet (fail)
  go_wp2_with (fail)
  go_quiet (fail)
  go_wp2_with (fail)
  go_quiet (fail)
  go_wp2_with (fail)
  refine (k0 _).mono ?_
  rintro e w2 ⟨rfl, rfl⟩
  go_wp2_with (fail)
  refine (k1 _).mono ?_
  rintro e w2 ⟨rfl, rfl⟩
  go_wp2_with (fail)
  refine (k2 _).mono ?_
  rintro e w2 ⟨rfl, rfl⟩
  go_wp2_with (fail)
  refine (k3 _).mono ?_
  rintro e w2 ⟨rfl, rfl⟩
  go_wp2_with (fail)
  refine (k4 _).mono ?_
  rintro e w2 ⟨rfl, rfl⟩
  go_wp2
  go_ret
  refine ⟨rfl, ?_⟩
  exact ((((Mod.refl _ _).alloc _).alloc _).drewN _)
namespace flowGrows
open Go.ChangeShapes Go.WideShapes Go.ChangeAt Go.RowKit
set_option maxRecDepth 100000 in
theorem lifted (os : Os) (started : os.Started) (H : Type) (enc : TypeId × Value → H) :
    ReturnsInHanded {} Try.checked os 5 .any (Rows.flowGrowsSpec.pre6 enc Try.prog Try.f5 Rows.flowGrowsRow.domain false) (Rows.flowGrowsSpec.post enc Try.prog Try.f5 false true false false) := by
  refine returnsInHanded_of_change_sized (C := Try.checked) own started (by kernel_rfl) Try.func5
    (ChangeSpec.witness6 (enc := enc) (C := Try.checked) false ⟨#[], #[.agg #[.int .i64 0, .int .i64 0, .int .i64 0], .agg #[.int .i64 0, .int .i64 0, .int .i64 0]], []⟩ 8 (by kernel_rfl) (by kernel_rfl) (by kernel_rfl) (by kernel_rfl)) ?_
  intro W base args ds gs before hval0 hW hcnd hsz0 _
  have hval : ∀ (j : Nat) t v, Try.f5.params[j]? = some t → args[j]? = some v → Value.okWide Try.prog W .any base t v := hval0
  have hsz : (DataW.weightsEach Try.prog (Try.f5.params.toList ++ Rows.flowGrowsSpec.plain.varTypes Try.prog) (ds ++ gs)).all (· ≤ reachBytes) = true := hsz0
  have hW' := hW
  obtain ⟨p, q, hA0, hV, rfl, hfz, hnd⟩ := hW
  have hA : DataW.TrodAll enc Try.prog W 0 (fun _ => true) true Try.f5.params.toList args.toList ds p := hA0
  rw [Try.params5] at hA hval hsz
  obtain ⟨v0, vs0, d0, ds0, p0, q0, hargs, rfl, rfl, h0, r0⟩ := trodAll_cons hA
  obtain ⟨v1, vs1, d1, ds1, p1, q1, rfl, rfl, rfl, h1, r1⟩ := trodAll_cons r0
  obtain ⟨rfl, rfl, rfl⟩ := trodAll_nil r1
  obtain rfl : args = #[v0, v1] := by cases args; simp_all
  obtain ⟨rfl, rfl⟩ := trodVars_none hV
  have k0 := h0
  have lt0 : ∀ x ∈ p0, x.block < W.heap.size := by obtain ⟨m, hm⟩ := k0; exact DataW.trod_lt m _ _ _ hm
  obtain ⟨xa0, xb0, xc0, rfl, ia0, ib0, ic0⟩ := open_three (hval 0 29 v0 rfl rfl) h0
  have k1 := h1
  have lt1 : ∀ x ∈ p1, x.block < W.heap.size := by obtain ⟨m, hm⟩ := k1; exact DataW.trod_lt m _ _ _ hm
  obtain ⟨xa1, xb1, xc1, rfl, ia1, ib1, ic1⟩ := open_three (hval 1 29 v1 rfl rfl) h1
  clear hA0 hval0
  refine (grows_walk xa0 xb0 xc0 xa1 xb1 xc1 W ib0 ic0 ib1 ic1).mono fun e W' ⟨he, hm⟩ => ?_
  subst he
  have bel : Below W.heap.size W W' := hm.below _ (Nat.le_refl _) (fun _ h => h.elim)
  exact ⟨_, rfl, _, _, _, [], _, [], hW', trodAll_mk1 (shut_bool Try.underlying4 _), (trodAll_cons_mk (Below.trod laidOut (by kernel_rfl) (of_decide_eq_true (by kernel_rfl)) k0 bel lt0) (trodAll_cons_mk (Below.trod laidOut (by kernel_rfl) (of_decide_eq_true (by kernel_rfl)) k1 bel lt1) trodAll_mk0)), rfl, bel.frame _, fun h => by cases h⟩

theorem over : Rows.flowGrowsRow.holds Try.pinned (OpenSpec.ofChange Rows.flowGrowsSpec) :=
  OpenClaim.holds_of_wide 5 Try.f5 rfl rfl rfl rfl rfl rfl rfl ⟨rfl, rfl, rfl, rfl, rfl⟩ rfl rfl rfl rfl rfl (by kernel_rfl) Try.func5 (by kernel_rfl)
    (of_decide_eq_true (by kernel_rfl)) (by unfold Func.isWrapper; first | (rw [if_pos (by decide +kernel)]; kernel_rfl) | (rw [if_neg (by decide +kernel)]; exact ⟨rfl, rfl⟩))
    (fun os started H enc _ => lifted os started H enc)
end flowGrows
theorem flowGrows_holds : Rows.FlowGrowsSaid := flowGrows.over
end Go.Proofs.Ytfacjnpljhgigaa
