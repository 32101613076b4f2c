/- MarkOrder: it is an order: of any two keys just one of ahead, the same and behind holds; who is ahead of one that is ahead of a third one is ahead of that. No conditions. -/
import Derived.Test.YtbfgnlpgfjokhaaOa
import Derived.Test.YtbfgnlpgfjokhaaEn
namespace Go.Proofs.Ytbfgnlpgfjokhaa
open Go.RowKit
set_option maxRecDepth 100000 in
set_option maxHeartbeats 4000000 in
theorem walkOrder (s q r n s' q' r' n' t u v m : Int) (w : World) :
    Calls Try.prog 5 #[.agg #[.int .i64 s, .int .i64 q, .int .i64 r, .int .i64 n], .agg #[.int .i64 s', .int .i64 q', .int .i64 r', .int .i64 n'], .agg #[.int .i64 t, .int .i64 u, .int .i64 v, .int .i64 m]] w fun e w' => e = .returned (.bool true) ∧ Mod (fun _ => False) w w' := by
  have HW := works
  have HK := Keys
  have HR := Rings
  have HE := eq25 s q r n s' q' r' n'
  have HF := eq23 q r q' r'
  have k1 := ks_neg s q r n s' q' r' n'
  have k2 : ks s q r n s q r n = 0 := ks_zero.2 ⟨rfl, rfl, rfl, rfl⟩
  have k3 := ks_rng s q r n s' q' r' n'
  have k4 := @ks_trans s q r n s' q' r' n' t u v m
  have k5 := rg_neg q r q' r'
  have k6 := rg_rng q r q' r'
  have k7 := @ks_ring s q r n s' q' r' n'
  have hx : ∃ x, ks s q r n s' q' r' n' = x := ⟨_, rfl⟩
  have hy : ∃ x, ks s' q' r' n' t u v m = x := ⟨_, rfl⟩
  have hz : ∃ x, ks s q r n t u v m = x := ⟨_, rfl⟩
  have hp : ∃ x, rg q r q' r' = x := ⟨_, rfl⟩
  obtain ⟨x, hx⟩ := hx
  obtain ⟨y, hy⟩ := hy
  obtain ⟨z, hz⟩ := hz
  obtain ⟨p, hp⟩ := hp
  rw [hx] at HE k1 k3 k7
  rw [hx, hy, hz] at k4
  rw [hp] at HF k5 k6 k7
  have K4 : Hid (x ≤ 0 → y ≤ 0 → z ≤ 0 ∧ (z = 0 → x = 0 ∧ y = 0)) := k4
  have K7 : Hid (s = s' → ¬ p = 0 → x = p) := k7
  obtain ⟨k31, k32⟩ := k3
  obtain ⟨k61, k62⟩ := k6
  clear k4 k7
  have HEE : Hid (∀ w, _) := HE
  have HFF : Hid (∀ w, _) := HF
  clear HE HF
  generalize ks = k at *
  generalize rg = g at *
  go_enter Try.func5, Try.ntmps5
  go_wp2_with (fail)
  refine (HW _).mono ?_
  rintro e w1 ⟨rfl, hm⟩
  have a0 : w1.cell? ⟨w.heap.size, 0, none⟩ = some (.int .i64 s) := hm.cell (by simp [go_sem]) (fun h => h)
  have a1 : w1.cell? ⟨w.heap.size, 1, none⟩ = some (.int .i64 q) := hm.cell (by simp [go_sem]) (fun h => h)
  have a2 : w1.cell? ⟨w.heap.size, 2, none⟩ = some (.int .i64 r) := hm.cell (by simp [go_sem]) (fun h => h)
  have a3 : w1.cell? ⟨w.heap.size, 3, none⟩ = some (.int .i64 n) := hm.cell (by simp [go_sem]) (fun h => h)
  have b0 : w1.cell? ⟨w.heap.size + 1, 0, none⟩ = some (.int .i64 s') := hm.cell (by simp [go_sem]) (fun h => h)
  have b1 : w1.cell? ⟨w.heap.size + 1, 1, none⟩ = some (.int .i64 q') := hm.cell (by simp [go_sem]) (fun h => h)
  have b2 : w1.cell? ⟨w.heap.size + 1, 2, none⟩ = some (.int .i64 r') := hm.cell (by simp [go_sem]) (fun h => h)
  have b3 : w1.cell? ⟨w.heap.size + 1, 3, none⟩ = some (.int .i64 n') := hm.cell (by simp [go_sem]) (fun h => h)
  have c0 : w1.cell? ⟨w.heap.size + 2, 0, none⟩ = some (.int .i64 t) := hm.cell (by simp [go_sem]) (fun h => h)
  have c1 : w1.cell? ⟨w.heap.size + 2, 1, none⟩ = some (.int .i64 u) := hm.cell (by simp [go_sem]) (fun h => h)
  have c2 : w1.cell? ⟨w.heap.size + 2, 2, none⟩ = some (.int .i64 v) := hm.cell (by simp [go_sem]) (fun h => h)
  have c3 : w1.cell? ⟨w.heap.size + 2, 3, none⟩ = some (.int .i64 m) := hm.cell (by simp [go_sem]) (fun h => h)
  clear HW
  go_wp2_with (fail)
  replace hm := hm.drew
  go_region_held3 (fun y => y.cell? ⟨w.heap.size, 0, none⟩ = some (.int .i64 s) ∧ y.cell? ⟨w.heap.size, 1, none⟩ = some (.int .i64 q) ∧ y.cell? ⟨w.heap.size, 2, none⟩ = some (.int .i64 r) ∧ y.cell? ⟨w.heap.size, 3, none⟩ = some (.int .i64 n) ∧ y.cell? ⟨w.heap.size + 1, 0, none⟩ = some (.int .i64 s') ∧ y.cell? ⟨w.heap.size + 1, 1, none⟩ = some (.int .i64 q') ∧ y.cell? ⟨w.heap.size + 1, 2, none⟩ = some (.int .i64 r') ∧ y.cell? ⟨w.heap.size + 1, 3, none⟩ = some (.int .i64 n') ∧ y.cell? ⟨w.heap.size + 2, 0, none⟩ = some (.int .i64 t) ∧ y.cell? ⟨w.heap.size + 2, 1, none⟩ = some (.int .i64 u) ∧ y.cell? ⟨w.heap.size + 2, 2, none⟩ = some (.int .i64 v) ∧ y.cell? ⟨w.heap.size + 2, 3, none⟩ = some (.int .i64 m)) (first | exact ⟨a0, a1, a2, a3, b0, b1, b2, b3, c0, c1, c2, c3⟩ | go_keep)
    (first | (go_at_call 15; refine (HK _ _ _ _ _ _ _ _ _).mono ?_; rintro e w2 ⟨rfl, hm2⟩; replace a0 := hm2.cell a0 (fun h => h); replace a1 := hm2.cell a1 (fun h => h); replace a2 := hm2.cell a2 (fun h => h); replace a3 := hm2.cell a3 (fun h => h); replace b0 := hm2.cell b0 (fun h => h); replace b1 := hm2.cell b1 (fun h => h); replace b2 := hm2.cell b2 (fun h => h); replace b3 := hm2.cell b3 (fun h => h); replace c0 := hm2.cell c0 (fun h => h); replace c1 := hm2.cell c1 (fun h => h); replace c2 := hm2.cell c2 (fun h => h); replace c3 := hm2.cell c3 (fun h => h); replace hm := hm.and hm2; clear hm2))
  clear c0 c1 c2 c3
  have HE := HEE.out
  have HF := HFF.out
  go_wp2_with (fail)
  refine (HK _ _ _ _ _ _ _ _ _).mono ?_
  rintro e w3 ⟨rfl, hm2⟩
  replace a0 := hm2.cell a0 (fun h => h); replace a1 := hm2.cell a1 (fun h => h); replace a2 := hm2.cell a2 (fun h => h); replace a3 := hm2.cell a3 (fun h => h); replace b0 := hm2.cell b0 (fun h => h); replace b1 := hm2.cell b1 (fun h => h); replace b2 := hm2.cell b2 (fun h => h); replace b3 := hm2.cell b3 (fun h => h)
  replace hm := hm.and hm2
  clear hm2
  rw [k1]
  have hd1 : decide (x < -1) = false := by simp; omega
  have hd2 : decide (1 < x) = false := by simp; omega
  go_wp2_with (fail)
  refine (HK _ _ _ _ _ _ _ _ _).mono ?_
  rintro e w4 ⟨rfl, hm2⟩
  replace a0 := hm2.cell a0 (fun h => h); replace a1 := hm2.cell a1 (fun h => h); replace a2 := hm2.cell a2 (fun h => h); replace a3 := hm2.cell a3 (fun h => h); replace b0 := hm2.cell b0 (fun h => h); replace b1 := hm2.cell b1 (fun h => h); replace b2 := hm2.cell b2 (fun h => h); replace b3 := hm2.cell b3 (fun h => h)
  replace hm := hm.and hm2
  rw [k2]
  clear hm2 HK HE k1 k2 hx hy hz
  rcases (show 0 < x ∨ (x ≤ 0 ∧ 0 < y) ∨ (x ≤ 0 ∧ y ≤ 0 ∧ z < 0) ∨ (x = 0 ∧ y = 0 ∧ z = 0) by have := K4.out; omega) with h1 | ⟨h1, h2⟩ | ⟨h1, h2, h3⟩ | ⟨rfl, rfl, rfl⟩
  all_goals
    go_wp2_with (fail)
    replace hm := hm.drew
    go_region_held3 (fun y => y.cell? ⟨w.heap.size, 0, none⟩ = some (.int .i64 s) ∧ y.cell? ⟨w.heap.size, 1, none⟩ = some (.int .i64 q) ∧ y.cell? ⟨w.heap.size, 2, none⟩ = some (.int .i64 r) ∧ y.cell? ⟨w.heap.size + 1, 0, none⟩ = some (.int .i64 s') ∧ y.cell? ⟨w.heap.size + 1, 1, none⟩ = some (.int .i64 q') ∧ y.cell? ⟨w.heap.size + 1, 2, none⟩ = some (.int .i64 r')) (first | exact ⟨a0, a1, a2, b0, b1, b2⟩ | go_keep)
      (first | (go_at_call 13; refine (HR _ _ _ _ _).mono ?_; rintro e w5 ⟨rfl, hm2⟩; replace a0 := hm2.cell a0 (fun h => h); replace a1 := hm2.cell a1 (fun h => h); replace a2 := hm2.cell a2 (fun h => h); replace b0 := hm2.cell b0 (fun h => h); replace b1 := hm2.cell b1 (fun h => h); replace b2 := hm2.cell b2 (fun h => h); replace hm := hm.and hm2; clear hm2))
    rcases (show ¬ s = s' ∨ (s = s' ∧ p = 0) ∨ (s = s' ∧ ¬ p = 0) by omega) with g1 | ⟨g1, g2⟩ | ⟨g1, g2⟩
    · go_wp2
      go_ret
      exact ⟨rfl, (((Mod.refl _ _).alloc _).alloc _ |>.alloc _).and hm⟩
    · subst g2
      go_wp2
      go_ret
      exact ⟨rfl, (((Mod.refl _ _).alloc _).alloc _ |>.alloc _).and hm⟩
    · have g3 := K7.out g1 g2
      first
        | (exfalso; omega)
        | (subst g3
           go_wp2
           go_ret
           exact ⟨rfl, (((Mod.refl _ _).alloc _).alloc _ |>.alloc _).and hm⟩)
namespace markOrder
open Go.ChangeShapes Go.WideShapes Go.ChangeAt Go.RowKit
set_option maxRecDepth 100000 in
theorem lifted (os : Os) (started : os.Started) (H : Type) (enc : TypeId × Value → H) :
    ReturnsInHanded {} Try.checked os 5 .any (Rows.markOrderSpec.pre6 enc Try.prog Try.f5 Rows.markOrderRow.domain false) (Rows.markOrderSpec.post enc Try.prog Try.f5 false true false false) := by
  refine returnsInHanded_of_change_sized (C := Try.checked) own started (by kernel_rfl) Try.func5
    (ChangeSpec.witness6 (enc := enc) (C := Try.checked) false ⟨#[], #[.agg #[.int .i64 0, .int .i64 0, .int .i64 0, .int .i64 0], .agg #[.int .i64 0, .int .i64 0, .int .i64 0, .int .i64 0], .agg #[.int .i64 0, .int .i64 0, .int .i64 0, .int .i64 0]], []⟩ 8 (by kernel_rfl) (by kernel_rfl) (by kernel_rfl) (by kernel_rfl)) ?_
  intro W base args ds gs before hval0 hW hcnd hsz0 _
  have hval : ∀ (j : Nat) t v, Try.f5.params[j]? = some t → args[j]? = some v → Value.okWide Try.prog W .any base t v := hval0
  have hsz : (DataW.weightsEach Try.prog (Try.f5.params.toList ++ Rows.markOrderSpec.plain.varTypes Try.prog) (ds ++ gs)).all (· ≤ reachBytes) = true := hsz0
  have hW' := hW
  obtain ⟨p, q, hA0, hV, rfl, hfz, hnd⟩ := hW
  have hA : DataW.TrodAll enc Try.prog W 0 (fun _ => true) true Try.f5.params.toList args.toList ds p := hA0
  rw [Try.params5] at hA hval hsz
  obtain ⟨v0, vs0, d0, ds0, p0, q0, hargs, rfl, rfl, h0, r0⟩ := trodAll_cons hA
  obtain ⟨v1, vs1, d1, ds1, p1, q1, rfl, rfl, rfl, h1, r1⟩ := trodAll_cons r0
  obtain ⟨v2, vs2, d2, ds2, p2, q2, rfl, rfl, rfl, h2, r2⟩ := trodAll_cons r1
  obtain ⟨rfl, rfl, rfl⟩ := trodAll_nil r2
  obtain rfl : args = #[v0, v1, v2] := by cases args; simp_all
  obtain ⟨rfl, rfl⟩ := trodVars_none hV
  have k0 := h0
  have lt0 : ∀ x ∈ p0, x.block < W.heap.size := by obtain ⟨m, hm⟩ := k0; exact DataW.trod_lt m _ _ _ hm
  obtain ⟨ys0, yq0, yr0, yn0, rfl⟩ := open_key (hval 0 25 v0 rfl rfl) h0
  have k1 := h1
  have lt1 : ∀ x ∈ p1, x.block < W.heap.size := by obtain ⟨m, hm⟩ := k1; exact DataW.trod_lt m _ _ _ hm
  obtain ⟨ys1, yq1, yr1, yn1, rfl⟩ := open_key (hval 1 25 v1 rfl rfl) h1
  have k2 := h2
  have lt2 : ∀ x ∈ p2, x.block < W.heap.size := by obtain ⟨m, hm⟩ := k2; exact DataW.trod_lt m _ _ _ hm
  obtain ⟨ys2, yq2, yr2, yn2, rfl⟩ := open_key (hval 2 25 v2 rfl rfl) h2
  clear hA0 hval0
  refine (walkOrder ys0 yq0 yr0 yn0 ys1 yq1 yr1 yn1 ys2 yq2 yr2 yn2 W).mono fun e W' ⟨he, hm⟩ => ?_
  subst he
  have bel : Below W.heap.size W W' := hm.below _ (Nat.le_refl _) (fun _ h => h.elim)
  exact ⟨_, rfl, _, _, _, [], _, [], hW', trodAll_mk1 (shut_bool Try.underlying4 _), (trodAll_cons_mk (Below.trod laidOut (by kernel_rfl) (of_decide_eq_true (by kernel_rfl)) k0 bel lt0) (trodAll_cons_mk (Below.trod laidOut (by kernel_rfl) (of_decide_eq_true (by kernel_rfl)) k1 bel lt1) (trodAll_cons_mk (Below.trod laidOut (by kernel_rfl) (of_decide_eq_true (by kernel_rfl)) k2 bel lt2) trodAll_mk0))), rfl, bel.frame _, fun h => by cases h⟩

theorem over : Rows.markOrderRow.holds Try.pinned (OpenSpec.ofChange Rows.markOrderSpec) :=
  OpenClaim.holds_of_wide 5 Try.f5 rfl rfl rfl rfl rfl rfl rfl ⟨rfl, rfl, rfl, rfl, rfl⟩ rfl rfl rfl rfl rfl (by kernel_rfl) Try.func5 (by kernel_rfl)
    (of_decide_eq_true (by kernel_rfl)) (by unfold Func.isWrapper; first | (rw [if_pos (by decide +kernel)]; kernel_rfl) | (rw [if_neg (by decide +kernel)]; exact ⟨rfl, rfl⟩))
    (fun os started H enc _ => lifted os started H enc)
end markOrder
theorem markOrder_holds : Rows.MarkOrderSaid := markOrder.over
end Go.Proofs.Ytbfgnlpgfjokhaa
