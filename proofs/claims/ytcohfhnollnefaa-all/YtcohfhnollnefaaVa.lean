/- SieveAll holds: for any ints the law answers true and turns nothing that was there. Conditions: none. -/
import Derived.Test.YtcohfhnollnefaaVe
namespace Go.Proofs.Ytcohfhnollnefaa
open Go.RowKit
theorem bring_val (x : Int) (m : Nat) (h0 : 0 < m) : (if x.tmod (m : Int) < 0 then x.tmod (m : Int) + m else x.tmod (m : Int)) = x % (m : Int) := by
  have hm : (0 : Int) < m := by omega
  rcases Int.lt_or_le x 0 with h | h
  · have e : x.tmod (m : Int) = -((-x) % (m : Int)) := by
      have e := Int.neg_tmod (-x) (m : Int)
      rw [Int.neg_neg, Int.tmod_eq_emod_of_nonneg (by omega : 0 ≤ -x)] at e
      exact e
    have a1 := Int.emod_nonneg (-x) (show (m : Int) ≠ 0 by omega)
    have a2 := Int.emod_lt_of_pos (-x) hm
    have e2 := Int.mul_ediv_add_emod (-x) (m : Int)
    generalize hq : (-x) / (m : Int) = q at e2
    generalize hr : (-x) % (m : Int) = r at *
    rw [e]
    by_cases h1 : r = 0
    · rw [h1]
      have : x = (m : Int) * (-q) := by rw [Int.mul_neg]; omega
      rw [this, Int.mul_emod_right]
      simp
    · rw [if_pos (by omega)]
      have : x = (-r + m) + (m : Int) * (-q - 1) := by rw [Int.mul_sub, Int.mul_neg, Int.mul_one]; omega
      rw [this, Int.add_mul_emod_self_left, Int.emod_eq_of_lt (by omega) (by omega)]
  · rw [Int.tmod_eq_emod_of_nonneg h, if_neg (by have := Int.emod_nonneg x (show (m : Int) ≠ 0 by omega); omega)]
theorem bring_any (x : Int) (m : Nat) (w : World) (h0 : 0 < m) (hm : m ≤ 1152921504606846976) (_h1 : -9223372036854775808 ≤ x) (_h2 : x ≤ 9223372036854775807) : Calls Try.prog 13 #[.int .i64 x, .int .i64 (m : Int)] w fun e w' => e = .returned (.int .i64 (x % (m : Int))) ∧ w' = w := by
  have hv := bring_val x m h0
  have q0 : ¬ ((m : Int) ≤ 0) := by omega
  have q1 : ¬ ((m : Int) = 0) := by omega
  have q2 : ((m : Int) == 0) = false := by simp; omega
  have a1 := Int.emod_nonneg x q1
  have a2 := Int.emod_lt_of_pos x (show (0 : Int) < m by omega)
  generalize x % (m : Int) = v at *
  generalize hr : x.tmod (m : Int) = r at *
  by_cases hneg : r < 0
  · rw [if_pos hneg] at hv
    have b1 : -(m : Int) ≤ r := by omega
    subst hv
    go_enter Try.func13, Try.ntmps13
    go_wp2
    go_ret
    exact ⟨rfl, rfl⟩
  · rw [if_neg hneg] at hv
    subst hv
    go_enter Try.func13, Try.ntmps13
    go_wp2
    go_ret
    exact ⟨rfl, rfl⟩
set_option maxRecDepth 100000 in
theorem all_walk (v : Value) (l : List Int) (w : World) (hv : Sr w v l) : Calls Try.prog 5 #[v] w fun e w' => e = .returned (.bool true) ∧ Mod (fun _ => False) w w' := by
  have hmm := @run_makeMap Try.prog
  have HV : Hid (Sl w v l) := hv.sl
  have hr := hv.rng
  obtain ⟨ao, cap, rfl⟩ := hv.sl.shape
  clear hv
  go_enter Try.func5, Try.ntmps5
  go_wp2_with (fail)
  refine (works w).mono ?_
  rintro e w0 ⟨rfl, hm0⟩
  go_wp2_with (fail)
  refine (sNew_any w0).mono ?_
  rintro e w1 ⟨a, rfl, hs1, hm1, ha⟩
  have I : Hid (∃ F, Sv (w1.alloc (.map #[] 0)) a 0 F ∧ Mp (w1.alloc (.map #[] 0)) w1.heap.size 0 F ∧ Mod (fun _ => False) w (w1.alloc (.map #[] 0))) := ⟨_, hs1.mod ((Mod.refl (fun _ => False) w1).alloc _) (fun h => h), Mp.new w1 0, (hm0.and hm1).alloc _⟩
  have haB : a ≠ w1.heap.size := by have := hs1.lt; omega
  have hga : w.heap.size ≤ a := by have := hm0.size; omega
  have hgB : w.heap.size ≤ w1.heap.size := by have := hm0.size; have := hm1.size; omega
  clear hs1 hm0 hm1 ha
  go_wp2_with (fail)
  generalize w1.heap.size = B at *
  clear hmm
  go_loopw [4, 6] (fun tv i wr => ∃ (k : Nat) (t : Int), i = .int .i64 k ∧ tv = .int .i64 t ∧ k ≤ 300 ∧ 0 ≤ t ∧ t ≤ 200 * k ∧ Hid (∃ F, Sv wr a t F ∧ Mp wr B k F ∧ Mod (fun _ => False) w wr)) (fun _ i _ => 300 - (intOf i).toNat)
  case atStart => exact ⟨0, 0, rfl, rfl, by omega, by omega, by omega, I⟩
  case round =>
    clear I
    obtain ⟨k, t, rfl, rfl, hk, ht0, ht1, I⟩ := hrel
    obtain ⟨F, hS, hP, hM⟩ := I.out
    clear I
    by_cases hlt : k < l.length ∧ k < 300
    · obtain ⟨hlt, hlt2⟩ := hlt
      have hkl : (k : Int) < (l.length : Int) := by omega
      have hk3 : (k : Int) < 300 := by omega
      obtain ⟨b', off, cap', e, ck⟩ := HV.out.at hM (fun _ _ h => h) hlt
      simp only [Value.slice.injEq, true_and] at e
      obtain ⟨rfl, rfl⟩ := e
      have hi := i64_at hr hlt
      have hbl : b' < w.heap.size := by
        obtain ⟨ao1, cap1, e1, _, _, _, h4⟩ := HV.out
        obtain ⟨b1, off1, e2, hc⟩ := h4 (by rintro rfl; simp at hlt)
        simp only [Value.slice.injEq, true_and] at e1
        rw [← e1.1, Option.some.injEq, Addr.mk.injEq] at e2
        rw [e2.1]
        exact World.block_lt_of_cell? w _ (hc k hlt)
      generalize l.getD k 0 = n at *
      have HB := fun w => bring_any n 200 w (by omega) (by omega) hi.1 hi.2
      have hy : 0 ≤ n % (200 : Nat) ∧ n % (200 : Nat) < 200 := by omega
      clear hi
      generalize n % (200 : Nat) = r at HB hy
      obtain ⟨hy0, hy1⟩ := hy
      go_wp2_with (fail)
      refine (HB _).mono ?_
      rintro e wq ⟨rfl, hq⟩
      replace hq := hq.symm
      subst hq
      obtain ⟨m, hm⟩ : ∃ m, t + r - 63 = m := ⟨_, rfl⟩
      have hm1 : -63 ≤ m := by omega
      have hm2 : m ≤ t + 136 := by omega
      have hm3 : t - m < 64 := by omega
      have hw2 : IntKind.i64.wrap (t + r - 63) = m := by rw [IntKind.wrap_i64]; omega
      have hw3 : wrap64 (t + r - 63) = m := by unfold wrap64; omega
      have hw4 : IntKind.i64.wrap (t + r) = t + r := by rw [IntKind.wrap_i64]; omega
      have hw5 : wrap64 (t + r) = t + r := by unfold wrap64; omega
      have hi : I64 m := by unfold I64; omega
      have hlk := hP.look hi
      have hskip : Hid (∃ F, Sv wr a t F ∧ Mp wr B (k + 1) F ∧ Mod (fun _ => False) w wr) := ⟨F, hS, by
        obtain ⟨D, q1, q2⟩ := hP.own
        exact ⟨D, q1.mono (by omega), q2⟩, hM⟩
      have htk : t ≤ 200 * ((k + 1 : Nat) : Int) := by omega
      by_cases h1 : m < 1
      · clear HB hlk hi hm1 hm2 hm3 hS hP hM
        go_wp2
        go_roundw
        case rel => exact ⟨k + 1, t, by go_num, rfl, by omega, ht0, htk, hskip⟩
        case measure => simp [intOf]; omega
      · cases hb : F m with
        | true =>
          rw [hb] at hlk
          clear HB hi hm1 hm2 hm3 hS hP hM hb
          go_wp2
          go_roundw
          case rel => exact ⟨k + 1, t, by go_num, rfl, by omega, ht0, htk, hskip⟩
          case measure => simp [intOf]; omega
        | false =>
          rw [hb] at hlk
          obtain ⟨w5, hst, hP5, ht5⟩ := hP.store hi (by omega)
          have hm5 : Mod (fun i => i = B) wr w5 := (Mod.refl _ wr).turned ht5 (.inl rfl)
          have hS5 := hS.mod hm5 haB
          have hM5 : Mod (fun _ => False) w w5 := hM.trans hm5 (fun _ _ h => h) (fun i hi h => by have h' : i = B := h; omega)
          have e1 : fE m = 0 := if_neg h1
          have e2 : fF t F m = true := by
            rw [fF, if_neg h1, fr, hb]
            simp [hm3]
          have e3 : fT t m = max t m := if_neg h1
          have hF := sFresh_any (n := m) hS5 hi.2
          rw [e1, e3, fS, e2] at hF
          have e5 : put F m = see F m true := by
            funext m'
            simp [put, see]
          rw [e5] at hP5
          have J : ∀ w6, Sv w6 a (max t m) (see F m true) → Mod (fun i => i = a) w5 w6 → Hid (∃ F, Sv w6 a (max t m) F ∧ Mp w6 B (k + 1) F ∧ Mod (fun _ => False) w w6) := fun w6 h6 hm6 => ⟨_, h6, hP5.mod hm6 (fun e => haB e.symm), hM5.trans hm6 (fun _ _ h => h) (fun i hi h => by have h' : i = a := h; omega)⟩
          clear hS hP hM hS5 hM5 hP5 hb hi ht5 hm5 e1 e2 e3 e5 hskip HB
          have hx : (max t m = m ∧ t < m) ∨ (max t m = t ∧ ¬ t < m) := by omega
          have hx2 : max t m ≤ 200 * ((k + 1 : Nat) : Int) := by omega
          have hx3 : 0 ≤ max t m := by omega
          generalize max t m = T at *
          rcases hx with ⟨rfl, hx⟩ | ⟨rfl, hx⟩
          all_goals
            go_wp2_with (go_at_call 10; refine hF.mono ?_; rintro e w6 ⟨rfl, hs6, hm6⟩)
            have I := J _ hs6 hm6
            clear hs6 hm6 J hF
            go_roundw
            case rel => exact ⟨k + 1, _, by go_num, rfl, by omega, hx3, hx2, I⟩
            case measure => simp [intOf]; omega
    · have hx : ¬ (k : Int) < (l.length : Int) ∨ ((k : Int) < (l.length : Int) ∧ ¬ (k : Int) < 300) := by omega
      clear hS hP
      rcases hx with hx | ⟨hx, hx2⟩
      all_goals
        go_wp2
        go_ret
        exact ⟨rfl, hM⟩
namespace sieveAll
open Go.ChangeShapes Go.WideShapes Go.ChangeAt Go.RowKit
set_option maxRecDepth 100000 in
theorem lifted (os : Os) (started : os.Started) (H : Type) (enc : TypeId × Value → H) :
    ReturnsInHanded {} Try.checked os 5 .any (Rows.sieveAllSpec.pre6 enc Try.prog Try.f5 Rows.sieveAllRow.domain false) (Rows.sieveAllSpec.post enc Try.prog Try.f5 false true false false) := by
  refine returnsInHanded_of_change_sized (C := Try.checked) own started (by kernel_rfl) Try.func5
    (ChangeSpec.witness6 (enc := enc) (C := Try.checked) false ⟨#[], #[.slice none 0 0], []⟩ 8 (by kernel_rfl) (by kernel_rfl) (by kernel_rfl) (by kernel_rfl)) ?_
  intro W base args ds gs before hval0 hW hcnd hsz0 _
  have hval : ∀ (j : Nat) t v, Try.f5.params[j]? = some t → args[j]? = some v → Value.okWide Try.prog W .any base t v := hval0
  have hW' := hW
  obtain ⟨p, q, hA0, hV, rfl, hfz, hnd⟩ := hW
  have hA : DataW.TrodAll enc Try.prog W 0 (fun _ => true) true Try.f5.params.toList args.toList ds p := hA0
  rw [Try.params5] at hA hval
  obtain ⟨v0, vs0, d0, ds0, p0, q0, hargs, rfl, rfl, h0, r0⟩ := trodAll_cons hA
  obtain ⟨rfl, rfl, rfl⟩ := trodAll_nil r0
  obtain rfl : args = #[v0] := by cases args; simp_all
  obtain ⟨rfl, rfl⟩ := trodVars_none hV
  have k0 := h0
  have lt0 : ∀ x ∈ p0, x.block < W.heap.size := by obtain ⟨m, hm⟩ := k0; exact DataW.trod_lt m _ _ _ hm
  obtain ⟨B0, hB0⟩ := open_l h0 (okWide_slice Try.underlying22 (hval 0 22 v0 rfl rfl))
  clear hA0 hval0
  refine (all_walk v0 B0 W hB0).mono fun e W' ⟨he, hm⟩ => ?_
  subst he
  have bel : Below W.heap.size W W' := hm.below _ (Nat.le_refl _) (fun _ h => h.elim)
  exact ⟨_, rfl, _, _, _, [], _, [], hW', trodAll_mk1 (shut_bool Try.underlying4 _), (trodAll_cons_mk (Below.trod laidOut (by kernel_rfl) (of_decide_eq_true (by kernel_rfl)) k0 bel lt0) trodAll_mk0), rfl, bel.frame _, fun h => by cases h⟩

theorem over : Rows.sieveAllRow.holds Try.pinned (OpenSpec.ofChange Rows.sieveAllSpec) :=
  OpenClaim.holds_of_wide 5 Try.f5 rfl rfl rfl rfl rfl rfl rfl ⟨rfl, rfl, rfl, rfl, rfl⟩ rfl rfl rfl rfl rfl (by kernel_rfl) Try.func5 (by kernel_rfl)
    (of_decide_eq_true (by kernel_rfl)) (by unfold Func.isWrapper; first | (rw [if_pos (by decide +kernel)]; kernel_rfl) | (rw [if_neg (by decide +kernel)]; exact ⟨rfl, rfl⟩))
    (fun os started H enc _ => lifted os started H enc)
end sieveAll
theorem sieveAll_holds : Rows.SieveAllSaid := sieveAll.over
end Go.Proofs.Ytcohfhnollnefaa
