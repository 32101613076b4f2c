/- MarkPacks: Pack and Unpack answer as the chapter says, of all keys and numbers. No conditions. -/
import Derived.Test.YtbfgnlpgfjokhaaOa
import Derived.Test.YtbfgnlpgfjokhaaUn
import Derived.Test.YtbfgnlpgfjokhaaEn
namespace Go.Proofs.Ytbfgnlpgfjokhaa
open Go.RowKit
theorem eq25_same (s q r n : Int) (w : World) : (Op.equalIn 10000 25 (.agg #[.int .i64 s, .int .i64 q, .int .i64 r, .int .i64 n]) (.agg #[.int .i64 s, .int .i64 q, .int .i64 r, .int .i64 n])).run Try.prog w = .ok true w := by
  rw [eq25, ks_zero.2 ⟨rfl, rfl, rfl, rfl⟩]
  rfl
theorem eq34_same (a b : Int) (w : World) : (Op.equalIn 10000 34 (.agg #[.int .u64 a, .int .u64 b]) (.agg #[.int .u64 a, .int .u64 b])).run Try.prog w = .ok true w := by
  rw [eq34]
  simp
set_option maxRecDepth 100000 in
set_option maxHeartbeats 4000000 in
theorem walkPacks (s q r n a b : Int) (w : World) (ha : 0 ≤ a ∧ a < 18446744073709551616) (hb : 0 ≤ b ∧ b < 18446744073709551616) :
    Calls Try.prog 4 #[.agg #[.int .i64 s, .int .i64 q, .int .i64 r, .int .i64 n], .agg #[.int .u64 a, .int .u64 b]] w fun e w' => e = .returned (.bool true) ∧ Mod (fun _ => False) w w' := by
  have HW := works
  have H1 := Pack s q r n
  have H2 := RPack s q r n
  have H3 := fun w => Unpack a b w ha hb
  have H4 := fun w => RUnpack a b w ha hb
  clear ha hb
  generalize px s q r n = X at *
  generalize py s q r n = Y at *
  generalize pe s q r n = E at *
  generalize vs a b = s' at *
  generalize vq a b = q' at *
  generalize vr a b = r' at *
  generalize vn a b = n' at *
  generalize ue a b = F at *
  have HQ := eq34_same X Y
  have HR := eq25_same s' q' r' n'
  go_enter Try.func4, Try.ntmps4
  go_wp2_with (fail)
  refine (H1 _).mono ?_
  rintro e w1 ⟨rfl, hm1⟩
  have a0 : w1.cell? ⟨w.heap.size, 0, none⟩ = some (.int .i64 s) := hm1.cell (by simp [go_sem]) (fun h => h)
  have a1 : w1.cell? ⟨w.heap.size, 1, none⟩ = some (.int .i64 q) := hm1.cell (by simp [go_sem]) (fun h => h)
  have a2 : w1.cell? ⟨w.heap.size, 2, none⟩ = some (.int .i64 r) := hm1.cell (by simp [go_sem]) (fun h => h)
  have a3 : w1.cell? ⟨w.heap.size, 3, none⟩ = some (.int .i64 n) := hm1.cell (by simp [go_sem]) (fun h => h)
  have b0 : w1.cell? ⟨w.heap.size + 1, 0, none⟩ = some (.int .u64 a) := hm1.cell (by simp [go_sem]) (fun h => h)
  have b1 : w1.cell? ⟨w.heap.size + 1, 1, none⟩ = some (.int .u64 b) := hm1.cell (by simp [go_sem]) (fun h => h)
  replace a0 := fun o => ((Mod.refl (fun _ => False) w1).alloc o).cell a0 (fun h => h)
  replace a1 := fun o => ((Mod.refl (fun _ => False) w1).alloc o).cell a1 (fun h => h)
  replace a2 := fun o => ((Mod.refl (fun _ => False) w1).alloc o).cell a2 (fun h => h)
  replace a3 := fun o => ((Mod.refl (fun _ => False) w1).alloc o).cell a3 (fun h => h)
  replace b0 := fun o => ((Mod.refl (fun _ => False) w1).alloc o).cell b0 (fun h => h)
  replace b1 := fun o => ((Mod.refl (fun _ => False) w1).alloc o).cell b1 (fun h => h)
  have hm : Mod (fun _ => False) w w1 := (((Mod.refl _ _).alloc _).alloc _).and hm1
  clear hm1 H1
  go_wp2_with (fail)
  refine (H2 _).mono ?_
  rintro e w2 ⟨rfl, hm2⟩
  replace b0 : w2.cell? ⟨w.heap.size + 1, 0, none⟩ = some (.int .u64 a) := hm2.cell (b0 _) (fun h => h)
  replace b1 : w2.cell? ⟨w.heap.size + 1, 1, none⟩ = some (.int .u64 b) := hm2.cell (b1 _) (fun h => h)
  have c0 : w2.cell? ⟨w1.heap.size, 0, none⟩ = some (.int .u64 X) := hm2.cell (by simp [go_sem]) (fun h => h)
  have c1 : w2.cell? ⟨w1.heap.size, 1, none⟩ = some (.int .u64 Y) := hm2.cell (by simp [go_sem]) (fun h => h)
  replace b0 := fun o => ((Mod.refl (fun _ => False) w2).alloc o).cell b0 (fun h => h)
  replace b1 := fun o => ((Mod.refl (fun _ => False) w2).alloc o).cell b1 (fun h => h)
  replace c0 := fun o => ((Mod.refl (fun _ => False) w2).alloc o).cell c0 (fun h => h)
  replace c1 := fun o => ((Mod.refl (fun _ => False) w2).alloc o).cell c1 (fun h => h)
  replace hm := (hm.alloc _).and hm2
  clear hm2 H2 a0 a1 a2 a3
  go_wp2_with (fail)
  refine (H3 _).mono ?_
  rintro e w3 ⟨rfl, hm3⟩
  replace b0 : w3.cell? ⟨w.heap.size + 1, 0, none⟩ = some (.int .u64 a) := hm3.cell (b0 _) (fun h => h)
  replace b1 : w3.cell? ⟨w.heap.size + 1, 1, none⟩ = some (.int .u64 b) := hm3.cell (b1 _) (fun h => h)
  replace c0 : w3.cell? ⟨w1.heap.size, 0, none⟩ = some (.int .u64 X) := hm3.cell (c0 _) (fun h => h)
  replace c1 : w3.cell? ⟨w1.heap.size, 1, none⟩ = some (.int .u64 Y) := hm3.cell (c1 _) (fun h => h)
  have d0 : w3.cell? ⟨w2.heap.size, 0, none⟩ = some (.int .u64 X) := hm3.cell (by simp [go_sem]) (fun h => h)
  have d1 : w3.cell? ⟨w2.heap.size, 1, none⟩ = some (.int .u64 Y) := hm3.cell (by simp [go_sem]) (fun h => h)
  replace b0 := fun o => ((Mod.refl (fun _ => False) w3).alloc o).cell b0 (fun h => h)
  replace b1 := fun o => ((Mod.refl (fun _ => False) w3).alloc o).cell b1 (fun h => h)
  replace c0 := fun o => ((Mod.refl (fun _ => False) w3).alloc o).cell c0 (fun h => h)
  replace c1 := fun o => ((Mod.refl (fun _ => False) w3).alloc o).cell c1 (fun h => h)
  replace d0 := fun o => ((Mod.refl (fun _ => False) w3).alloc o).cell d0 (fun h => h)
  replace d1 := fun o => ((Mod.refl (fun _ => False) w3).alloc o).cell d1 (fun h => h)
  replace hm := (hm.alloc _).and hm3
  clear hm3 H3
  go_wp2_with (fail)
  refine (H4 _).mono ?_
  rintro e w4 ⟨rfl, hm4⟩
  replace c0 : w4.cell? ⟨w1.heap.size, 0, none⟩ = some (.int .u64 X) := hm4.cell (c0 _) (fun h => h)
  replace c1 : w4.cell? ⟨w1.heap.size, 1, none⟩ = some (.int .u64 Y) := hm4.cell (c1 _) (fun h => h)
  replace d0 : w4.cell? ⟨w2.heap.size, 0, none⟩ = some (.int .u64 X) := hm4.cell (d0 _) (fun h => h)
  replace d1 : w4.cell? ⟨w2.heap.size, 1, none⟩ = some (.int .u64 Y) := hm4.cell (d1 _) (fun h => h)
  have e0 : w4.cell? ⟨w3.heap.size, 0, none⟩ = some (.int .i64 s') := hm4.cell (by simp [go_sem]) (fun h => h)
  have e1 : w4.cell? ⟨w3.heap.size, 1, none⟩ = some (.int .i64 q') := hm4.cell (by simp [go_sem]) (fun h => h)
  have e2 : w4.cell? ⟨w3.heap.size, 2, none⟩ = some (.int .i64 r') := hm4.cell (by simp [go_sem]) (fun h => h)
  have e3 : w4.cell? ⟨w3.heap.size, 3, none⟩ = some (.int .i64 n') := hm4.cell (by simp [go_sem]) (fun h => h)
  replace c0 := fun o => ((Mod.refl (fun _ => False) w4).alloc o).cell c0 (fun h => h)
  replace c1 := fun o => ((Mod.refl (fun _ => False) w4).alloc o).cell c1 (fun h => h)
  replace d0 := fun o => ((Mod.refl (fun _ => False) w4).alloc o).cell d0 (fun h => h)
  replace d1 := fun o => ((Mod.refl (fun _ => False) w4).alloc o).cell d1 (fun h => h)
  replace e0 := fun o => ((Mod.refl (fun _ => False) w4).alloc o).cell e0 (fun h => h)
  replace e1 := fun o => ((Mod.refl (fun _ => False) w4).alloc o).cell e1 (fun h => h)
  replace e2 := fun o => ((Mod.refl (fun _ => False) w4).alloc o).cell e2 (fun h => h)
  replace e3 := fun o => ((Mod.refl (fun _ => False) w4).alloc o).cell e3 (fun h => h)
  replace hm := (hm.alloc _).and hm4
  clear hm4 H4 b0 b1
  go_wp2_with (fail)
  refine (HW _).mono ?_
  rintro e w5 ⟨rfl, hm5⟩
  replace hm := (hm.alloc _).and hm5
  go_wp2
  go_ret
  exact ⟨rfl, hm⟩
namespace markPacks
open Go.ChangeShapes Go.WideShapes Go.ChangeAt Go.RowKit
set_option maxRecDepth 100000 in
theorem lifted (os : Os) (started : os.Started) (H : Type) (enc : TypeId × Value → H) :
    ReturnsInHanded {} Try.checked os 4 .any (Rows.markPacksSpec.pre6 enc Try.prog Try.f4 Rows.markPacksRow.domain false) (Rows.markPacksSpec.post enc Try.prog Try.f4 false true false false) := by
  refine returnsInHanded_of_change_sized (C := Try.checked) own started (by kernel_rfl) Try.func4
    (ChangeSpec.witness6 (enc := enc) (C := Try.checked) false ⟨#[], #[.agg #[.int .i64 0, .int .i64 0, .int .i64 0, .int .i64 0], .agg #[.int .u64 0, .int .u64 0]], []⟩ 8 (by kernel_rfl) (by kernel_rfl) (by kernel_rfl) (by kernel_rfl)) ?_
  intro W base args ds gs before hval0 hW hcnd hsz0 _
  have hval : ∀ (j : Nat) t v, Try.f4.params[j]? = some t → args[j]? = some v → Value.okWide Try.prog W .any base t v := hval0
  have hsz : (DataW.weightsEach Try.prog (Try.f4.params.toList ++ Rows.markPacksSpec.plain.varTypes Try.prog) (ds ++ gs)).all (· ≤ reachBytes) = true := hsz0
  have hW' := hW
  obtain ⟨p, q, hA0, hV, rfl, hfz, hnd⟩ := hW
  have hA : DataW.TrodAll enc Try.prog W 0 (fun _ => true) true Try.f4.params.toList args.toList ds p := hA0
  rw [Try.params4] at hA hval hsz
  obtain ⟨v0, vs0, d0, ds0, p0, q0, hargs, rfl, rfl, h0, r0⟩ := trodAll_cons hA
  obtain ⟨v1, vs1, d1, ds1, p1, q1, rfl, rfl, rfl, h1, r1⟩ := trodAll_cons r0
  obtain ⟨rfl, rfl, rfl⟩ := trodAll_nil r1
  obtain rfl : args = #[v0, v1] := by cases args; simp_all
  obtain ⟨rfl, rfl⟩ := trodVars_none hV
  have k0 := h0
  have lt0 : ∀ x ∈ p0, x.block < W.heap.size := by obtain ⟨m, hm⟩ := k0; exact DataW.trod_lt m _ _ _ hm
  obtain ⟨ys0, yq0, yr0, yn0, rfl⟩ := open_key (hval 0 25 v0 rfl rfl) h0
  have k1 := h1
  have lt1 : ∀ x ∈ p1, x.block < W.heap.size := by obtain ⟨m, hm⟩ := k1; exact DataW.trod_lt m _ _ _ hm
  obtain ⟨ya1, yb1, rfl, ha1, hb1⟩ := open_two (hval 1 34 v1 rfl rfl) h1
  clear hA0 hval0
  refine (walkPacks ys0 yq0 yr0 yn0 ya1 yb1 W ha1 hb1).mono fun e W' ⟨he, hm⟩ => ?_
  subst he
  have bel : Below W.heap.size W W' := hm.below _ (Nat.le_refl _) (fun _ h => h.elim)
  exact ⟨_, rfl, _, _, _, [], _, [], hW', trodAll_mk1 (shut_bool Try.underlying4 _), (trodAll_cons_mk (Below.trod laidOut (by kernel_rfl) (of_decide_eq_true (by kernel_rfl)) k0 bel lt0) (trodAll_cons_mk (Below.trod laidOut (by kernel_rfl) (of_decide_eq_true (by kernel_rfl)) k1 bel lt1) trodAll_mk0)), rfl, bel.frame _, fun h => by cases h⟩

theorem over : Rows.markPacksRow.holds Try.pinned (OpenSpec.ofChange Rows.markPacksSpec) :=
  OpenClaim.holds_of_wide 4 Try.f4 rfl rfl rfl rfl rfl rfl rfl ⟨rfl, rfl, rfl, rfl, rfl⟩ rfl rfl rfl rfl rfl (by kernel_rfl) Try.func4 (by kernel_rfl)
    (of_decide_eq_true (by kernel_rfl)) (by unfold Func.isWrapper; first | (rw [if_pos (by decide +kernel)]; kernel_rfl) | (rw [if_neg (by decide +kernel)]; exact ⟨rfl, rfl⟩))
    (fun os started H enc _ => lifted os started H enc)
end markPacks
theorem markPacks_holds : Rows.MarkPacksSaid := markPacks.over
end Go.Proofs.Ytbfgnlpgfjokhaa
