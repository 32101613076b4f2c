/- SieveOnce holds: no number is fresh twice: for any ints the law answers true and turns nothing that was there. Conditions: none. -/
import Derived.Test.YtcohfhnollnefaaVe
namespace Go.Proofs.Ytcohfhnollnefaa
open Go.RowKit
set_option maxRecDepth 100000 in
theorem once_walk (v : Value) (l : List Int) (w : World) (hv : Sr w v l) : Calls Try.prog 4 #[v] w fun e w' => e = .returned (.bool true) ∧ Mod (fun _ => False) w w' := by
  have hmm := @run_makeMap Try.prog
  have HV : Hid (Sl w v l) := hv.sl
  have hr := hv.rng
  obtain ⟨ao, cap, rfl⟩ := hv.sl.shape
  clear hv
  go_enter Try.func4, Try.ntmps4
  go_wp2_with (fail)
  refine (works w).mono ?_
  rintro e w0 ⟨rfl, hm0⟩
  go_wp2_with (fail)
  refine (sNew_any w0).mono ?_
  rintro e w1 ⟨a, rfl, hs1, hm1, ha⟩
  have I : Hid (∃ t F, Sv (w1.alloc (.map #[] 0)) a t F ∧ Mp (w1.alloc (.map #[] 0)) w1.heap.size 0 F ∧ Mod (fun _ => False) w (w1.alloc (.map #[] 0))) := ⟨0, _, hs1.mod ((Mod.refl (fun _ => False) w1).alloc _) (fun h => h), Mp.new w1 0, (hm0.and hm1).alloc _⟩
  have haB : a ≠ w1.heap.size := by have := hs1.lt; omega
  have hga : w.heap.size ≤ a := by have := hm0.size; omega
  have hgB : w.heap.size ≤ w1.heap.size := by have := hm0.size; have := hm1.size; omega
  clear hs1 hm0 hm1 ha
  go_wp2_with (fail)
  generalize w1.heap.size = B at *
  clear hmm
  go_loopw [5] (fun i wr => ∃ (k : Nat), i = .int .i64 k ∧ k ≤ 300 ∧ Hid (∃ t F, Sv wr a t F ∧ Mp wr B k F ∧ Mod (fun _ => False) w wr)) (fun i _ => 300 - (intOf i).toNat)
  case atStart => exact ⟨0, rfl, by omega, I⟩
  case round =>
    clear I
    obtain ⟨k, rfl, hk, I⟩ := hrel
    obtain ⟨t, F, hS, hP, hM⟩ := I.out
    clear I
    by_cases hlt : k < l.length ∧ k < 300
    · obtain ⟨hlt, hlt2⟩ := hlt
      have hkl : (k : Int) < (l.length : Int) := by omega
      have hk3 : (k : Int) < 300 := by omega
      obtain ⟨b', off, cap', e, ck⟩ := HV.out.at hM (fun _ _ h => h) hlt
      simp only [Value.slice.injEq, true_and] at e
      obtain ⟨rfl, rfl⟩ := e
      have hi := i64_at hr hlt
      have hbl : b' < w.heap.size := by
        obtain ⟨ao1, cap1, e1, _, _, _, h4⟩ := HV.out
        obtain ⟨b1, off1, e2, hc⟩ := h4 (by rintro rfl; simp at hlt)
        simp only [Value.slice.injEq, true_and] at e1
        rw [← e1.1, Option.some.injEq, Addr.mk.injEq] at e2
        rw [e2.1]
        exact World.block_lt_of_cell? w _ (hc k hlt)
      generalize l.getD k 0 = n at *
      have hmn := hi.2
      have hF := sFresh_any (n := n) hS hmn
      by_cases h1 : n < 1
      · have e1 : fE n = 2 := if_pos h1
        have e2 : fF t F n = false := if_pos h1
        have e4 : fS t F n = F := by rw [fS, e2, see_not]
        rw [e1, e2, e4] at hF
        go_wp2_with (fail)
        refine hF.mono ?_
        rintro e w4 ⟨rfl, hs4, hm4⟩
        have ck4 := hm4.cell ck (fun h => by have h' : b' = a := h; omega)
        have hP4 := hP.mod hm4 (fun e => haB e.symm)
        have hP5 : Mp w4 B (k + 1) F := by
          obtain ⟨D, q1, q2⟩ := hP4.own
          exact ⟨D, q1.mono (by omega), q2⟩
        have I : Hid (∃ t F, Sv w4 a t F ∧ Mp w4 B (k + 1) F ∧ Mod (fun _ => False) w w4) := ⟨_, _, hs4, hP5, hM.trans hm4 (fun _ _ h => h) (fun i hi h => by have h' : i = a := h; omega)⟩
        clear hF e1 e2 e4 hs4 hm4 hS hP hP4 hP5 hM hi
        go_wp2
        go_roundw
        case rel => exact ⟨k + 1, by go_num, by omega, I⟩
        case measure => simp [intOf]; omega
      · have e1 : fE n = 0 := if_neg h1
        have hn1 : 1 ≤ n := by omega
        have e2 : fF t F n = fr t F n := if_neg h1
        rw [e1, e2, fS, e2] at hF
        go_wp2_with (fail)
        refine hF.mono ?_
        rintro e w4 ⟨rfl, hs4, hm4⟩
        have ck4 := hm4.cell ck (fun h => by have h' : b' = a := h; omega)
        have hP4 := hP.mod hm4 (fun e => haB e.symm)
        have hlk := hP4.look hi
        have hM4 : Mod (fun _ => False) w w4 := hM.trans hm4 (fun _ _ h => h) (fun i hi h => by have h' : i = a := h; omega)
        cases hz : fr t F n with
        | false =>
          have hP5 : Mp w4 B (k + 1) F := by
            obtain ⟨D, q1, q2⟩ := hP4.own
            exact ⟨D, q1.mono (by omega), q2⟩
          rw [hz, see_not] at hs4
          have I : Hid (∃ t F, Sv w4 a t F ∧ Mp w4 B (k + 1) F ∧ Mod (fun _ => False) w w4) := ⟨_, _, hs4, hP5, hM4⟩
          clear hF e1 e2 hs4 hm4 hS hP hP4 hP5 hM hM4 hi hz hlk
          go_wp2
          go_roundw
          case rel => exact ⟨k + 1, by go_num, by omega, I⟩
          case measure => simp [intOf]; omega
        | true =>
          have hFn : F n = false := by
            unfold fr at hz
            simp only [Bool.and_eq_true, Bool.not_eq_true'] at hz
            exact hz.2
          rw [hFn] at hlk
          obtain ⟨w5, hst, hP5, ht5⟩ := hP4.store hi (by omega)
          have hm5 : Mod (fun i => i = B) w4 w5 := (Mod.refl _ w4).turned ht5 (.inl rfl)
          rw [hz] at hs4
          have e5 : put F n = see F n true := by
            funext m
            simp [put, see]
          rw [e5] at hP5
          have I : Hid (∃ t F, Sv w5 a t F ∧ Mp w5 B (k + 1) F ∧ Mod (fun _ => False) w w5) := ⟨_, _, hs4.mod hm5 haB, hP5, hM4.trans hm5 (fun _ _ h => h) (fun i hi h => by have h' : i = B := h; omega)⟩
          clear hF e1 e2 hs4 hm4 hS hP hP4 hP5 hM hM4 hi hz ht5 hm5 hFn e5
          go_wp2
          go_roundw
          case rel => exact ⟨k + 1, by go_num, by omega, I⟩
          case measure => simp [intOf]; omega
    · have hx : ¬ (k : Int) < (l.length : Int) ∨ ((k : Int) < (l.length : Int) ∧ ¬ (k : Int) < 300) := by omega
      clear hS hP
      rcases hx with hx | ⟨hx, hx2⟩
      all_goals
        go_wp2
        go_ret
        exact ⟨rfl, hM⟩
namespace sieveOnce
open Go.ChangeShapes Go.WideShapes Go.ChangeAt Go.RowKit
set_option maxRecDepth 100000 in
theorem lifted (os : Os) (started : os.Started) (H : Type) (enc : TypeId × Value → H) :
    ReturnsInHanded {} Try.checked os 4 .any (Rows.sieveOnceSpec.pre6 enc Try.prog Try.f4 Rows.sieveOnceRow.domain false) (Rows.sieveOnceSpec.post enc Try.prog Try.f4 false true false false) := by
  refine returnsInHanded_of_change_sized (C := Try.checked) own started (by kernel_rfl) Try.func4
    (ChangeSpec.witness6 (enc := enc) (C := Try.checked) false ⟨#[], #[.slice none 0 0], []⟩ 8 (by kernel_rfl) (by kernel_rfl) (by kernel_rfl) (by kernel_rfl)) ?_
  intro W base args ds gs before hval0 hW hcnd hsz0 _
  have hval : ∀ (j : Nat) t v, Try.f4.params[j]? = some t → args[j]? = some v → Value.okWide Try.prog W .any base t v := hval0
  have hW' := hW
  obtain ⟨p, q, hA0, hV, rfl, hfz, hnd⟩ := hW
  have hA : DataW.TrodAll enc Try.prog W 0 (fun _ => true) true Try.f4.params.toList args.toList ds p := hA0
  rw [Try.params4] at hA hval
  obtain ⟨v0, vs0, d0, ds0, p0, q0, hargs, rfl, rfl, h0, r0⟩ := trodAll_cons hA
  obtain ⟨rfl, rfl, rfl⟩ := trodAll_nil r0
  obtain rfl : args = #[v0] := by cases args; simp_all
  obtain ⟨rfl, rfl⟩ := trodVars_none hV
  have k0 := h0
  have lt0 : ∀ x ∈ p0, x.block < W.heap.size := by obtain ⟨m, hm⟩ := k0; exact DataW.trod_lt m _ _ _ hm
  obtain ⟨B0, hB0⟩ := open_l h0 (okWide_slice Try.underlying22 (hval 0 22 v0 rfl rfl))
  clear hA0 hval0
  refine (once_walk v0 B0 W hB0).mono fun e W' ⟨he, hm⟩ => ?_
  subst he
  have bel : Below W.heap.size W W' := hm.below _ (Nat.le_refl _) (fun _ h => h.elim)
  exact ⟨_, rfl, _, _, _, [], _, [], hW', trodAll_mk1 (shut_bool Try.underlying4 _), (trodAll_cons_mk (Below.trod laidOut (by kernel_rfl) (of_decide_eq_true (by kernel_rfl)) k0 bel lt0) trodAll_mk0), rfl, bel.frame _, fun h => by cases h⟩

theorem over : Rows.sieveOnceRow.holds Try.pinned (OpenSpec.ofChange Rows.sieveOnceSpec) :=
  OpenClaim.holds_of_wide 4 Try.f4 rfl rfl rfl rfl rfl rfl rfl ⟨rfl, rfl, rfl, rfl, rfl⟩ rfl rfl rfl rfl rfl (by kernel_rfl) Try.func4 (by kernel_rfl)
    (of_decide_eq_true (by kernel_rfl)) (by unfold Func.isWrapper; first | (rw [if_pos (by decide +kernel)]; kernel_rfl) | (rw [if_neg (by decide +kernel)]; exact ⟨rfl, rfl⟩))
    (fun os started H enc _ => lifted os started H enc)
end sieveOnce
theorem sieveOnce_holds : Rows.SieveOnceSaid := sieveOnce.over
end Go.Proofs.Ytcohfhnollnefaa
