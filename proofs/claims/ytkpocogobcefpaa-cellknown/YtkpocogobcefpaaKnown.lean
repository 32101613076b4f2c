/- CellKnown holds: the law answers true and turns nothing that was there. Conditions: none. -/
import Derived.Test.YtkpocogobcefpaaDe
import Derived.SizedLaws
namespace Go.Proofs.Ytkpocogobcefpaa
open Go.RowKit
theorem Write_nil (n : Int) (w : World) : Calls Try.prog 10 #[.pointer none, .int .i64 n] w fun e w' => e = .returned (.int .i64 1) ∧ w' = w := by
  have hN := isNone_nil w
  go_enter Try.func10, Try.ntmps10
  go_wp2_with fail
  refine hN.mono ?_
  rintro e w' ⟨rfl, rfl⟩
  go_wp2
  go_ret
  exact ⟨rfl, rfl⟩
theorem Write_zero (n : Int) (p : Nat) (w : World) (h : Cl w p 0 0) : Calls Try.prog 10 #[.pointer (some ⟨p, 0, none⟩), .int .i64 n] w fun e w' => e = .returned (.int .i64 1) ∧ w' = w := by
  have hN : Calls Try.prog 19 #[.pointer (some ⟨p, 0, none⟩)] w fun e w' => e = .returned (.bool true) ∧ w' = w := isNone_any p 0 0 w h
  go_enter Try.func10, Try.ntmps10
  go_wp2_with fail
  refine hN.mono ?_
  rintro e w' ⟨rfl, rfl⟩
  go_wp2
  go_ret
  exact ⟨rfl, rfl⟩
theorem Crash_nil (n : Bool) (w : World) : Calls Try.prog 12 #[.pointer none, .bool n] w fun e w' => e = .returned (.int .i64 1) ∧ w' = w := by
  have hN := isNone_nil w
  go_enter Try.func12, Try.ntmps12
  go_wp2_with fail
  refine hN.mono ?_
  rintro e w' ⟨rfl, rfl⟩
  go_wp2
  go_ret
  exact ⟨rfl, rfl⟩
theorem Crash_zero (n : Bool) (p : Nat) (w : World) (h : Cl w p 0 0) : Calls Try.prog 12 #[.pointer (some ⟨p, 0, none⟩), .bool n] w fun e w' => e = .returned (.int .i64 1) ∧ w' = w := by
  have hN : Calls Try.prog 19 #[.pointer (some ⟨p, 0, none⟩)] w fun e w' => e = .returned (.bool true) ∧ w' = w := isNone_any p 0 0 w h
  go_enter Try.func12, Try.ntmps12
  go_wp2_with fail
  refine hN.mono ?_
  rintro e w' ⟨rfl, rfl⟩
  go_wp2
  go_ret
  exact ⟨rfl, rfl⟩
theorem Start_nil (w : World) : Calls Try.prog 14 #[.pointer none] w fun e w' => e = .returned (.int .i64 1) ∧ w' = w := by
  have hN := isNone_nil w
  go_enter Try.func14, Try.ntmps14
  go_wp2_with fail
  refine hN.mono ?_
  rintro e w' ⟨rfl, rfl⟩
  go_wp2
  go_ret
  exact ⟨rfl, rfl⟩
theorem Start_zero (p : Nat) (w : World) (h : Cl w p 0 0) : Calls Try.prog 14 #[.pointer (some ⟨p, 0, none⟩)] w fun e w' => e = .returned (.int .i64 1) ∧ w' = w := by
  have hN : Calls Try.prog 19 #[.pointer (some ⟨p, 0, none⟩)] w fun e w' => e = .returned (.bool true) ∧ w' = w := isNone_any p 0 0 w h
  go_enter Try.func14, Try.ntmps14
  go_wp2_with fail
  refine hN.mono ?_
  rintro e w' ⟨rfl, rfl⟩
  go_wp2
  go_ret
  exact ⟨rfl, rfl⟩
theorem Read_nil (w : World) : Calls Try.prog 16 #[.pointer none] w fun e w' => e = .returned (.int .i64 0) ∧ w' = w := by
  have hN := isNone_nil w
  go_enter Try.func16, Try.ntmps16
  go_wp2_with fail
  refine hN.mono ?_
  rintro e w' ⟨rfl, rfl⟩
  go_wp2
  go_ret
  exact ⟨rfl, rfl⟩
theorem Read_zero (p : Nat) (w : World) (h : Cl w p 0 0) : Calls Try.prog 16 #[.pointer (some ⟨p, 0, none⟩)] w fun e w' => e = .returned (.int .i64 0) ∧ w' = w := by
  have hN : Calls Try.prog 19 #[.pointer (some ⟨p, 0, none⟩)] w fun e w' => e = .returned (.bool true) ∧ w' = w := isNone_any p 0 0 w h
  go_enter Try.func16, Try.ntmps16
  go_wp2_with fail
  refine hN.mono ?_
  rintro e w' ⟨rfl, rfl⟩
  go_wp2
  go_ret
  exact ⟨rfl, rfl⟩
theorem Down_nil (w : World) : Calls Try.prog 17 #[.pointer none] w fun e w' => e = .returned (.bool false) ∧ w' = w := by
  have hN := isNone_nil w
  go_enter Try.func17, Try.ntmps17
  go_wp2_with fail
  refine hN.mono ?_
  rintro e w' ⟨rfl, rfl⟩
  go_wp2
  go_ret
  exact ⟨rfl, rfl⟩
theorem Down_zero (p : Nat) (w : World) (h : Cl w p 0 0) : Calls Try.prog 17 #[.pointer (some ⟨p, 0, none⟩)] w fun e w' => e = .returned (.bool false) ∧ w' = w := by
  have hN : Calls Try.prog 19 #[.pointer (some ⟨p, 0, none⟩)] w fun e w' => e = .returned (.bool true) ∧ w' = w := isNone_any p 0 0 w h
  go_enter Try.func17, Try.ntmps17
  go_wp2_with fail
  refine hN.mono ?_
  rintro e w' ⟨rfl, rfl⟩
  go_wp2
  go_ret
  exact ⟨rfl, rfl⟩

set_option maxRecDepth 100000 in
set_option maxHeartbeats 8000000 in
theorem known_walk (w : World) : Calls Try.prog 6 #[] w fun e w' => e = .returned (.bool true) ∧ Mod (fun _ => False) w w' := by
  go_enter Try.func6, Try.ntmps6
  go_wp2_with fail
  refine (New_any _).mono ?_
  rintro e w1 ⟨p, rfl, hp, hm, hpl⟩
  go_wp2_with fail
  refine (Read_any p 0 1 _ hp In1).mono ?_
  rintro e w2 ⟨rfl, rfl⟩
  go_wp2_with fail
  refine (Down_any p 0 1 _ hp In1).mono ?_
  rintro e w2 ⟨rfl, rfl⟩
  go_wp2_with fail
  refine (Start_at p 0 1 80 1 _ hp In1 (by decide) (by decide)).mono ?_
  rintro e w2 ⟨rfl, h2, hm2⟩
  replace hm := hm.trans hm2 (V := fun _ => False) (fun _ _ h => h) (fun i hi hh => by omega)
  clear hp hm2
  have hp := h2
  clear h2
  go_wp2_with fail
  refine (Write_at p 0 1 0 9 0 1 _ hp In1 (by decide) (by decide) (by decide)).mono ?_
  rintro e w2 ⟨rfl, h2, hm2⟩
  replace hm := hm.trans hm2 (V := fun _ => False) (fun _ _ h => h) (fun i hi hh => by omega)
  clear hp hm2
  have hp := h2
  clear h2
  go_wp2_with fail
  refine (Write_at p 0 1 (-1) 9 0 1 _ hp In1 (by decide) (by decide) (by decide)).mono ?_
  rintro e w2 ⟨rfl, h2, hm2⟩
  replace hm := hm.trans hm2 (V := fun _ => False) (fun _ _ h => h) (fun i hi hh => by omega)
  clear hp hm2
  have hp := h2
  clear h2
  go_wp2_with fail
  refine (Write_at p 0 1 (-9223372036854775808) 9 0 1 _ hp In1 (by decide) (by decide) (by decide)).mono ?_
  rintro e w2 ⟨rfl, h2, hm2⟩
  replace hm := hm.trans hm2 (V := fun _ => False) (fun _ _ h => h) (fun i hi hh => by omega)
  clear hp hm2
  have hp := h2
  clear h2
  go_wp2_with fail
  refine (Write_at p 0 1 9007199254740992 9 0 1 _ hp In1 (by decide) (by decide) (by decide)).mono ?_
  rintro e w2 ⟨rfl, h2, hm2⟩
  replace hm := hm.trans hm2 (V := fun _ => False) (fun _ _ h => h) (fun i hi hh => by omega)
  clear hp hm2
  have hp := h2
  clear h2
  go_wp2_with fail
  refine (Write_at p 0 1 9223372036854775807 9 0 1 _ hp In1 (by decide) (by decide) (by decide)).mono ?_
  rintro e w2 ⟨rfl, h2, hm2⟩
  replace hm := hm.trans hm2 (V := fun _ => False) (fun _ _ h => h) (fun i hi hh => by omega)
  clear hp hm2
  have hp := h2
  clear h2
  go_wp2_with fail
  refine (Write_at p 0 1 1 0 1 1 _ hp In1 (by decide) (by decide) (by decide)).mono ?_
  rintro e w2 ⟨rfl, h2, hm2⟩
  replace hm := hm.trans hm2 (V := fun _ => False) (fun _ _ h => h) (fun i hi hh => by omega)
  clear hp hm2
  have hp := h2
  clear h2
  go_wp2_with fail
  refine (Crash_at p 1 1 true 0 3 _ hp In1 (by decide) (by decide)).mono ?_
  rintro e w2 ⟨rfl, h2, hm2⟩
  replace hm := hm.trans hm2 (V := fun _ => False) (fun _ _ h => h) (fun i hi hh => by omega)
  clear hp hm2
  have hp := h2
  clear h2
  go_wp2_with fail
  refine (Crash_at p 1 3 false 0 2 _ hp In3 (by decide) (by decide)).mono ?_
  rintro e w2 ⟨rfl, h2, hm2⟩
  replace hm := hm.trans hm2 (V := fun _ => False) (fun _ _ h => h) (fun i hi hh => by omega)
  clear hp hm2
  have hp := h2
  clear h2
  go_wp2_with fail
  refine (Write_at p 1 2 1 9 1 2 _ hp In2 (by decide) (by decide) (by decide)).mono ?_
  rintro e w2 ⟨rfl, h2, hm2⟩
  replace hm := hm.trans hm2 (V := fun _ => False) (fun _ _ h => h) (fun i hi hh => by omega)
  clear hp hm2
  have hp := h2
  clear h2
  go_wp2_with fail
  refine (Down_any p 1 2 _ hp In2).mono ?_
  rintro e w2 ⟨rfl, rfl⟩
  go_wp2_with fail
  refine (Write_at p 1 2 2 270 1 4 _ hp In2 (by decide) (by decide) (by decide)).mono ?_
  rintro e w2 ⟨rfl, h2, hm2⟩
  replace hm := hm.trans hm2 (V := fun _ => False) (fun _ _ h => h) (fun i hi hh => by omega)
  clear hp hm2
  have hp := h2
  clear h2
  go_wp2_with fail
  refine (Read_any p 1 4 _ hp In4).mono ?_
  rintro e w2 ⟨rfl, rfl⟩
  go_wp2_with fail
  refine (Write_at p 1 4 3 80 1 4 _ hp In4 (by decide) (by decide) (by decide)).mono ?_
  rintro e w2 ⟨rfl, h2, hm2⟩
  replace hm := hm.trans hm2 (V := fun _ => False) (fun _ _ h => h) (fun i hi hh => by omega)
  clear hp hm2
  have hp := h2
  clear h2
  go_wp2_with fail
  refine (Crash_at p 1 4 true 80 4 _ hp In4 (by decide) (by decide)).mono ?_
  rintro e w2 ⟨rfl, h2, hm2⟩
  replace hm := hm.trans hm2 (V := fun _ => False) (fun _ _ h => h) (fun i hi hh => by omega)
  clear hp hm2
  have hp := h2
  clear h2
  go_wp2_with fail
  refine (Start_at p 1 4 0 1 _ hp In4 (by decide) (by decide)).mono ?_
  rintro e w2 ⟨rfl, h2, hm2⟩
  replace hm := hm.trans hm2 (V := fun _ => False) (fun _ _ h => h) (fun i hi hh => by omega)
  clear hp hm2
  have hp := h2
  clear h2
  go_wp2_with fail
  refine (Start_at p 1 1 80 1 _ hp In1 (by decide) (by decide)).mono ?_
  rintro e w2 ⟨rfl, h2, hm2⟩
  replace hm := hm.trans hm2 (V := fun _ => False) (fun _ _ h => h) (fun i hi hh => by omega)
  clear hp hm2
  have hp := h2
  clear h2
  go_wp2_with fail
  refine (Write_at p 1 1 9007199254740991 0 9007199254740991 1 _ hp In1 (by decide) (by decide) (by decide)).mono ?_
  rintro e w2 ⟨rfl, h2, hm2⟩
  replace hm := hm.trans hm2 (V := fun _ => False) (fun _ _ h => h) (fun i hi hh => by omega)
  clear hp hm2
  have hp := h2
  clear h2
  go_wp2_with fail
  refine (Write_at p 9007199254740991 1 9007199254740991 9 9007199254740991 1 _ hp In1 (by decide) (by decide) (by decide)).mono ?_
  rintro e w2 ⟨rfl, h2, hm2⟩
  replace hm := hm.trans hm2 (V := fun _ => False) (fun _ _ h => h) (fun i hi hh => by omega)
  clear hp hm2
  have hp := h2
  clear h2
  go_wp2_with fail
  refine (Read_any p 9007199254740991 1 _ hp In1).mono ?_
  rintro e w2 ⟨rfl, rfl⟩
  have hsz := hm.size
  go_wp2_with fail
  refine (New_any _).mono ?_
  rintro e w2 ⟨q, rfl, hq, hmq, hql⟩
  have hql' : w.heap.size ≤ q := by omega
  replace hm := hm.and hmq
  clear hmq hp hql hpl hsz
  go_wp2_with fail
  refine (Crash_at q 0 1 true 0 3 _ hq In1 (by decide) (by decide)).mono ?_
  rintro e w2 ⟨rfl, h2, hm2⟩
  replace hm := hm.trans hm2 (V := fun _ => False) (fun _ _ h => h) (fun i hi hh => by omega)
  clear hq hm2
  have hq := h2
  clear h2
  go_wp2_with fail
  refine (Write_at q 0 3 4 270 4 4 _ hq In3 (by decide) (by decide) (by decide)).mono ?_
  rintro e w2 ⟨rfl, h2, hm2⟩
  replace hm := hm.trans hm2 (V := fun _ => False) (fun _ _ h => h) (fun i hi hh => by omega)
  clear hq hm2
  have hq := h2
  clear h2
  go_wp2_with fail
  refine (Start_at q 4 4 0 1 _ hq In4 (by decide) (by decide)).mono ?_
  rintro e w2 ⟨rfl, h2, hm2⟩
  replace hm := hm.trans hm2 (V := fun _ => False) (fun _ _ h => h) (fun i hi hh => by omega)
  clear hq hm2
  have hq := h2
  clear h2
  go_wp2_with fail
  refine (Write_at q 4 1 5 0 5 1 _ hq In1 (by decide) (by decide) (by decide)).mono ?_
  rintro e w2 ⟨rfl, h2, hm2⟩
  replace hm := hm.trans hm2 (V := fun _ => False) (fun _ _ h => h) (fun i hi hh => by omega)
  clear hq hm2
  have hq := h2
  clear h2
  go_wp2_with fail
  refine (Read_any q 5 1 _ hq In1).mono ?_
  rintro e w2 ⟨rfl, rfl⟩
  clear hq hql'
  go_wp2_with fail
  go_loopw [5, 6] (fun v i wr => Mod (fun _ => False) w wr ∧ ((v = .pointer none ∧ i = .int .i64 0) ∨ (∃ g, v = .pointer (some ⟨g, 0, none⟩) ∧ i = .int .i64 1 ∧ Cl wr g 0 0) ∨ (∃ g, v = .pointer (some ⟨g, 0, none⟩) ∧ i = .int .i64 2))) (fun _ i _ => 2 - (intOf i).toNat)
  case atStart => exact ⟨hm, .inl ⟨rfl, rfl⟩⟩
  case round =>
    clear hm
    obtain ⟨hm, ⟨rfl, rfl⟩ | ⟨g, rfl, rfl, hg⟩ | ⟨g, rfl, rfl⟩⟩ := hrel
    · go_wp2_with fail
      refine (Write_nil _ _).mono ?_
      rintro e w' ⟨rfl, rfl⟩
      go_wp2_with fail
      refine (Crash_nil _ _).mono ?_
      rintro e w' ⟨rfl, rfl⟩
      go_wp2_with fail
      refine (Start_nil _).mono ?_
      rintro e w' ⟨rfl, rfl⟩
      go_wp2_with fail
      refine (Read_nil _).mono ?_
      rintro e w' ⟨rfl, rfl⟩
      go_wp2_with fail
      refine (Down_nil _).mono ?_
      rintro e w' ⟨rfl, rfl⟩
      go_wp2
      go_roundw
      case rel => exact ⟨hm.alloc _, .inr (.inl ⟨_, rfl, rfl, Cl.new _ _ _⟩)⟩
      case measure => simp [intOf]
    · go_wp2_with fail
      refine (Write_zero _ _ _ hg).mono ?_
      rintro e w' ⟨rfl, rfl⟩
      go_wp2_with fail
      refine (Crash_zero _ _ _ hg).mono ?_
      rintro e w' ⟨rfl, rfl⟩
      go_wp2_with fail
      refine (Start_zero _ _ hg).mono ?_
      rintro e w' ⟨rfl, rfl⟩
      go_wp2_with fail
      refine (Read_zero _ _ hg).mono ?_
      rintro e w' ⟨rfl, rfl⟩
      go_wp2_with fail
      refine (Down_zero _ _ hg).mono ?_
      rintro e w' ⟨rfl, rfl⟩
      go_wp2
      go_roundw
      case rel => exact ⟨hm.alloc _, .inr (.inr ⟨_, rfl, rfl⟩)⟩
      case measure => simp [intOf]
    · go_wp2_with fail
      refine (works_any _).mono ?_
      rintro e w4 ⟨rfl, hm4⟩
      go_wp2
      go_ret
      exact ⟨rfl, hm.and hm4⟩
namespace cellKnown
open Go.ChangeShapes Go.WideShapes Go.ChangeAt Go.RowKit
set_option maxRecDepth 100000 in
theorem lifted (os : Os) (started : os.Started) (H : Type) (enc : TypeId × Value → H) :
    ReturnsInHanded {} Try.checked os 6 .any (Rows.cellKnownSpec.pre6 enc Try.prog Try.f6 Rows.cellKnownRow.domain false) (Rows.cellKnownSpec.post enc Try.prog Try.f6 false true false false) := by
  refine returnsInHanded_of_change (C := Try.checked) own started (by kernel_rfl) Try.func6
    (ChangeSpec.witness6 (enc := enc) (C := Try.checked) false ⟨#[], #[], []⟩ 8 (by kernel_rfl) (by kernel_rfl) (by kernel_rfl) (by kernel_rfl)) ?_
  intro W base args ds gs before hval0 hW hcnd _
  have hW' := hW
  obtain ⟨p, q, hA0, hV, rfl, hfz, hnd⟩ := hW
  have hA : DataW.TrodAll enc Try.prog W 0 (fun _ => true) true Try.f6.params.toList args.toList ds p := hA0
  rw [Try.params6] at hA
  obtain ⟨hargs, rfl, rfl⟩ := trodAll_nil hA
  obtain rfl : args = #[] := by cases args; simp_all
  obtain ⟨rfl, rfl⟩ := trodVars_none hV
  clear hA0 hval0
  refine (known_walk W).mono fun e W' ⟨he, hm⟩ => ?_
  subst he
  have bel : Below W.heap.size W W' := hm.below _ (Nat.le_refl _) (fun _ h => h.elim)
  exact ⟨_, rfl, _, _, _, [], _, [], hW', trodAll_mk1 (shut_bool Try.underlying4 _), trodAll_mk0, rfl, bel.frame _, fun h => by cases h⟩

theorem over : Rows.cellKnownRow.holds Try.pinned (OpenSpec.ofChange Rows.cellKnownSpec) :=
  OpenClaim.holds_of_wide 6 Try.f6 rfl rfl rfl rfl rfl rfl rfl ⟨rfl, rfl, rfl, rfl, rfl⟩ rfl rfl rfl rfl rfl (by kernel_rfl) Try.func6 (by kernel_rfl)
    (of_decide_eq_true (by kernel_rfl)) (by unfold Func.isWrapper; first | (rw [if_pos (by decide +kernel)]; kernel_rfl) | (rw [if_neg (by decide +kernel)]; exact ⟨rfl, rfl⟩))
    (fun os started H enc _ => lifted os started H enc)
end cellKnown
theorem cellKnown_holds : Rows.CellKnownSaid := cellKnown.over

end Go.Proofs.Ytkpocogobcefpaa
