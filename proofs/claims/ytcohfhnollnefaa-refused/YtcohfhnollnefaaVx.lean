/- SieveRefused holds: for any ints the law answers true and turns nothing that was there. Conditions: none. -/
import Derived.Test.YtcohfhnollnefaaVe
namespace Go.Proofs.Ytcohfhnollnefaa
open Go.RowKit
set_option maxRecDepth 100000 in
theorem refused_walk (v : Value) (l : List Int) (w : World) (hv : Sr w v l) : Calls Try.prog 6 #[v] w fun e w' => e = .returned (.bool true) ∧ Mod (fun _ => False) w w' := by
  have HV : Hid (Sl w v l) := hv.sl
  have hr := hv.rng
  obtain ⟨ao, cap, rfl⟩ := hv.sl.shape
  clear hv
  go_enter Try.func6, Try.ntmps6
  go_wp2_with (fail)
  refine (works w).mono ?_
  rintro e w0 ⟨rfl, hm0⟩
  go_wp2_with (fail)
  refine (sNew_any w0).mono ?_
  rintro e w1 ⟨a, rfl, hs1, hm1, ha⟩
  go_wp2_with (fail)
  refine (sNew_any w1).mono ?_
  rintro e w2 ⟨b, rfl, hs2, hm2, hb⟩
  have hab : a ≠ b := by have := hs1.lt; omega
  have hga : w.heap.size ≤ a := by have := hm0.size; omega
  have hgb : w.heap.size ≤ b := by have := hm0.size; have := hm1.size; omega
  have I : Hid (∃ t F, Sv w2 a t F ∧ Sv w2 b t F ∧ Mod (fun _ => False) w w2) := ⟨_, _, hs1.mod hm2 (fun h => h), hs2, (hm0.and hm1).and hm2⟩
  clear hs1 hs2 hm0 hm1 hm2 ha hb
  go_wp2_with (fail)
  go_loopw [5] (fun i wr => ∃ (k : Nat), i = .int .i64 k ∧ k ≤ 300 ∧ Hid (∃ t F, Sv wr a t F ∧ Sv wr b t F ∧ Mod (fun _ => False) w wr)) (fun i _ => 300 - (intOf i).toNat)
  case atStart => exact ⟨0, rfl, by omega, I⟩
  case round =>
    clear I
    obtain ⟨k, rfl, hk, I⟩ := hrel
    obtain ⟨t, F, hS, hS2, hM⟩ := I.out
    clear I
    by_cases hlt : k < l.length ∧ k < 300
    · obtain ⟨hlt, hlt2⟩ := hlt
      have hkl : (k : Int) < (l.length : Int) := by omega
      have hk3 : (k : Int) < 300 := by omega
      obtain ⟨b', off, cap', e, ck⟩ := HV.out.at hM (fun _ _ h => h) hlt
      simp only [Value.slice.injEq, true_and] at e
      obtain ⟨rfl, rfl⟩ := e
      have hi := i64_at hr hlt
      have hbl : b' < w.heap.size := by
        obtain ⟨ao1, cap1, e1, _, _, _, h4⟩ := HV.out
        obtain ⟨b1, off1, e2, hc⟩ := h4 (by rintro rfl; simp at hlt)
        simp only [Value.slice.injEq, true_and] at e1
        rw [← e1.1, Option.some.injEq, Addr.mk.injEq] at e2
        rw [e2.1]
        exact World.block_lt_of_cell? w _ (hc k hlt)
      generalize l.getD k 0 = n at *
      have hmn := hi.2
      have hF := sFresh_any (n := n) hS hmn
      clear hi
      by_cases h1 : n < 1
      · have e1 : fE n = 2 := if_pos h1
        have e2 : fF t F n = false := if_pos h1
        have e3 : fT t n = t := if_pos h1
        have e4 : fS t F n = F := by rw [fS, e2, see_not]
        rw [e1, e2, e3, e4] at hF
        go_wp2_with (fail)
        refine hF.mono ?_
        rintro e w4 ⟨rfl, hs4, hm4⟩
        have ck4 := hm4.cell ck (fun h => by have h' : b' = a := h; omega)
        have I : Hid (∃ t F, Sv w4 a t F ∧ Sv w4 b t F ∧ Mod (fun _ => False) w w4) := ⟨_, _, hs4, hS2.mod hm4 (fun e => hab e.symm), hM.trans hm4 (fun _ _ h => h) (fun i hi h => by have h' : i = a := h; omega)⟩
        clear hF e1 e2 e3 e4 hs4 hm4 hS hS2 hM
        go_wp2
        go_roundw
        case rel => exact ⟨k + 1, by go_num, by omega, I⟩
        case measure => simp [intOf]; omega
      · have e1 : fE n = 0 := if_neg h1
        rw [e1] at hF
        go_wp2_with (fail)
        refine hF.mono ?_
        rintro e w4 ⟨rfl, hs4, hm4⟩
        have ck4 := hm4.cell ck (fun h => by have h' : b' = a := h; omega)
        have hF2 := sFresh_any (n := n) (hS2.mod hm4 (fun e => hab e.symm)) hmn
        rw [e1] at hF2
        clear e1
        go_wp2_with (fail)
        refine hF2.mono ?_
        rintro e w5 ⟨rfl, hs5, hm5⟩
        have I : Hid (∃ t F, Sv w5 a t F ∧ Sv w5 b t F ∧ Mod (fun _ => False) w w5) := ⟨_, _, hs4.mod hm5 hab, hs5, (hM.trans hm4 (V := fun _ => False) (fun _ _ h => h) (fun i hi h => by have h' : i = a := h; omega)).trans hm5 (fun _ _ h => h) (fun i hi h => by have h' : i = b := h; omega)⟩
        clear hF hF2 hs4 hm4 hs5 hm5 hS hS2 hM
        generalize fF t F n = x at *
        go_wp2
        go_roundw
        case rel => exact ⟨k + 1, by go_num, by omega, I⟩
        case measure => simp [intOf]; omega
    · have hx : ¬ (k : Int) < (l.length : Int) ∨ ((k : Int) < (l.length : Int) ∧ ¬ (k : Int) < 300) := by omega
      clear hS hS2
      rcases hx with hx | ⟨hx, hx2⟩
      all_goals
        go_wp2
        go_ret
        exact ⟨rfl, hM⟩
namespace sieveRefused
open Go.ChangeShapes Go.WideShapes Go.ChangeAt Go.RowKit
set_option maxRecDepth 100000 in
theorem lifted (os : Os) (started : os.Started) (H : Type) (enc : TypeId × Value → H) :
    ReturnsInHanded {} Try.checked os 6 .any (Rows.sieveRefusedSpec.pre6 enc Try.prog Try.f6 Rows.sieveRefusedRow.domain false) (Rows.sieveRefusedSpec.post enc Try.prog Try.f6 false true false false) := by
  refine returnsInHanded_of_change_sized (C := Try.checked) own started (by kernel_rfl) Try.func6
    (ChangeSpec.witness6 (enc := enc) (C := Try.checked) false ⟨#[], #[.slice none 0 0], []⟩ 8 (by kernel_rfl) (by kernel_rfl) (by kernel_rfl) (by kernel_rfl)) ?_
  intro W base args ds gs before hval0 hW hcnd hsz0 _
  have hval : ∀ (j : Nat) t v, Try.f6.params[j]? = some t → args[j]? = some v → Value.okWide Try.prog W .any base t v := hval0
  have hW' := hW
  obtain ⟨p, q, hA0, hV, rfl, hfz, hnd⟩ := hW
  have hA : DataW.TrodAll enc Try.prog W 0 (fun _ => true) true Try.f6.params.toList args.toList ds p := hA0
  rw [Try.params6] at hA hval
  obtain ⟨v0, vs0, d0, ds0, p0, q0, hargs, rfl, rfl, h0, r0⟩ := trodAll_cons hA
  obtain ⟨rfl, rfl, rfl⟩ := trodAll_nil r0
  obtain rfl : args = #[v0] := by cases args; simp_all
  obtain ⟨rfl, rfl⟩ := trodVars_none hV
  have k0 := h0
  have lt0 : ∀ x ∈ p0, x.block < W.heap.size := by obtain ⟨m, hm⟩ := k0; exact DataW.trod_lt m _ _ _ hm
  obtain ⟨B0, hB0⟩ := open_l h0 (okWide_slice Try.underlying22 (hval 0 22 v0 rfl rfl))
  clear hA0 hval0
  refine (refused_walk v0 B0 W hB0).mono fun e W' ⟨he, hm⟩ => ?_
  subst he
  have bel : Below W.heap.size W W' := hm.below _ (Nat.le_refl _) (fun _ h => h.elim)
  exact ⟨_, rfl, _, _, _, [], _, [], hW', trodAll_mk1 (shut_bool Try.underlying4 _), (trodAll_cons_mk (Below.trod laidOut (by kernel_rfl) (of_decide_eq_true (by kernel_rfl)) k0 bel lt0) trodAll_mk0), rfl, bel.frame _, fun h => by cases h⟩

theorem over : Rows.sieveRefusedRow.holds Try.pinned (OpenSpec.ofChange Rows.sieveRefusedSpec) :=
  OpenClaim.holds_of_wide 6 Try.f6 rfl rfl rfl rfl rfl rfl rfl ⟨rfl, rfl, rfl, rfl, rfl⟩ rfl rfl rfl rfl rfl (by kernel_rfl) Try.func6 (by kernel_rfl)
    (of_decide_eq_true (by kernel_rfl)) (by unfold Func.isWrapper; first | (rw [if_pos (by decide +kernel)]; kernel_rfl) | (rw [if_neg (by decide +kernel)]; exact ⟨rfl, rfl⟩))
    (fun os started H enc _ => lifted os started H enc)
end sieveRefused
theorem sieveRefused_holds : Rows.SieveRefusedSaid := sieveRefused.over
end Go.Proofs.Ytcohfhnollnefaa
