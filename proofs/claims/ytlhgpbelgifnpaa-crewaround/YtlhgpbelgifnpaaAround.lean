/- CrewAround: going on by Next, each of a crew's nodes is met once. No conditions. -/
import Derived.Test.YtlhgpbelgifnpaaEn
import Derived.Test.YtlhgpbelgifnpaaRf
namespace Go.Proofs.Ytlhgpbelgifnpaa
open Go.RowKit
theorem rd_step {m first f a met i : Nat} (h : rd m first (f + 1) a met i = true) : hs m a = true ∧ (1 ≤ i → a ≠ first) ∧ met.testBit a = false ∧ rd m first f (nx m a) (met ||| 2 ^ a) (i + 1) = true := by
  rw [rd] at h
  simp only [Bool.and_eq_true, Bool.not_eq_true', Bool.and_eq_false_iff] at h
  refine ⟨h.1.1.1, fun hi e => ?_, h.1.2, h.2⟩
  rcases h.1.1.2 with h | h
  · have := Nat.ble_eq_true_of_le hi
    rw [this] at h
    cases h
  · subst e
    have := Nat.beq_refl a
    rw [this] at h
    cases h
theorem rd_end {m first a met i : Nat} (h : rd m first 0 a met i = true) : a = first ∧ met = m &&& 510 := by
  rw [rd] at h
  simp only [Bool.and_eq_true] at h
  exact ⟨Nat.eq_of_beq_eq_true h.1, Nat.eq_of_beq_eq_true h.2⟩
theorem walkAround (c from' : Int) (w : World) : Calls Try.prog 6 #[.int .i64 c, .int .i64 from'] w fun e w' => e = .returned (.bool true) ∧ Mod (fun _ => False) w w' := by
  have HW := works w
  have HC := fun w => Count c w
  have HN := fun n w => Next c n w
  have HL := fun w => Least c w
  have HH := fun (n : Nat) w => Has c n w
  simp only [has_nat] at HH
  have h510 : Hid (bits .and .i64 c 510 = ((lo c &&& 510 : Nat) : Int)) := and_lo c 510 (by omega)
  have hN8 : cn (lo c) ≤ 8 := ls_len ⟨lo c, lo_lt c⟩
  by_cases h0 : cn (lo c) = 0
  · have h := nx_none ⟨lo c, lo_lt c⟩ ⟨cl from', by have := cl_le from'; omega⟩ h0
    have e1 : nx (lo c) from' = 0 := by rw [nx_cl]; exact h.1
    have e2 : ab (lo c) 0 = 0 := h.2
    have HNf := fun w => HN from' w
    rw [e1] at HNf
    rw [e2] at HL
    rw [h0] at HC
    clear h e1 e2 HN h510 hN8 h0 HH
    go_enter Try.func6, Try.ntmps6
    go_wp2_with (fail)
    refine HW.mono ?_
    rintro e w1 ⟨rfl, hm⟩
    go_wp2_with (fail)
    refine (HC _).mono ?_
    rintro e w2 ⟨rfl, rfl⟩
    go_wp2_with (fail)
    refine (HNf _).mono ?_
    rintro e w2 ⟨rfl, rfl⟩
    go_wp2_with (fail)
    refine (HL _).mono ?_
    rintro e w2 ⟨rfl, rfl⟩
    go_wp2
    go_ret
    exact ⟨rfl, hm⟩
  · have hr := rd_all ⟨lo c, lo_lt c⟩ ⟨cl from', by have := cl_le from'; omega⟩ h0
    simp only [← nx_cl] at hr
    have HR : Hid (rd (lo c) (nx (lo c) from') (cn (lo c)) (nx (lo c) from') 0 0 = true) := hr
    have HNf := fun w => HN from' w
    have hNp : ((cn (lo c) : Int) == 0) = false := by simp; omega
    clear hr HL
    generalize lo c = m at *
    generalize nx m from' = first at HNf HR
    generalize cn m = N at *
    go_enter Try.func6, Try.ntmps6
    go_wp2_with (fail)
    refine HW.mono ?_
    rintro e w1 ⟨rfl, hm⟩
    go_wp2_with (fail)
    refine (HC _).mono ?_
    rintro e w2 ⟨rfl, rfl⟩
    go_wp2_with (fail)
    refine (HNf _).mono ?_
    rintro e w2 ⟨rfl, rfl⟩
    clear HW HC HNf
    go_wp2
    go_loopw [7, 8, 9] (fun a met i wr => ∃ k x y : Nat, i = .int .i64 k ∧ a = .int .i64 x ∧ met = .int .i64 y ∧ k ≤ N ∧ y < 512 ∧ Hid (rd m first (N - k) x y k = true) ∧ wr = w2) (fun _ _ i _ => N - (intOf i).toNat)
    case atStart => exact ⟨0, first, 0, rfl, rfl, rfl, by omega, by omega, HR, rfl⟩
    case round =>
      obtain ⟨k, x, y, rfl, rfl, rfl, hk, hy, hrd, rfl⟩ := hrel
      clear HR
      by_cases hlt : k < N
      · have hi : (k : Int) < (N : Int) := by omega
        have hs4 := rd_step (by have h := hrd.out; rw [show N - k = (N - (k + 1)) + 1 by omega] at h; exact h)
        obtain ⟨hh, hne, hnb, hnx⟩ := hs4
        have hx := hs_pos hh
        have hnode : node (x : Int) = true := by simp [node]; omega
        have HK := HH x wr
        rw [hh] at HK
        have hx1 : (1 : Int) ≤ (x : Int) := by omega
        have hx8 : (x : Int) < 9 := by omega
        have hsh : (bits .and .i64 ((y : Int) / 2 ^ ((x : Int).toNat)) 1 == 1) = false := by
          rw [shr_bit y x hx1 hx8, lo_nat hy, Int.toNat_natCast, hs, hnb, Bool.and_false, Bool.and_false]
        rw [Int.toNat_natCast] at hsh
        have h2 : 2 ^ x < 512 := by have := two_lt hnode; rwa [Int.toNat_natCast] at this
        have hw2 : wrap64 (2 ^ x) = ((2 ^ x : Nat) : Int) := by have := two_wrap hnode; rwa [Int.toNat_natCast] at this
        have hor : Hid (bits .or .i64 y (wrap64 (2 ^ x)) = ((y ||| 2 ^ x : Nat) : Int)) := by rw [Hid, hw2]; exact or_nat y _ hy h2
        have hyl : y ||| 2 ^ x < 512 := Nat.or_lt_two_pow (n := 9) hy h2
        have HNX := HN x wr
        have HX : Hid (rd m first (N - (k + 1)) (nx m x) (y ||| 2 ^ x) (k + 1) = true) := hnx
        clear hnx hrd hh hnb hnode hw2 hx HN HH
        generalize nx m x = z at HX HNX
        have hcase : k = 0 ∨ (0 < k ∧ ((x : Int) == (first : Int)) = false) := by
          rcases Nat.eq_zero_or_pos k with h | h
          · exact .inl h
          · exact .inr ⟨h, by have := hne h; simp; omega⟩
        clear hne
        rcases hcase with rfl | ⟨hk0, hxf⟩
        · go_wp2_with (fail)
          refine HK.mono ?_
          rintro e w2 ⟨rfl, rfl⟩
          go_wp2_with (fail)
          refine HNX.mono ?_
          rintro e w2 ⟨rfl, rfl⟩
          go_wp2
          go_roundw
          case rel => exact ⟨0 + 1, z, y ||| 2 ^ x, by go_num, rfl, by rw [hor.out], by omega, hyl, HX, trivial⟩
          case measure => simp [intOf]; omega
        · go_wp2_with (fail)
          refine HK.mono ?_
          rintro e w2 ⟨rfl, rfl⟩
          go_wp2_with (fail)
          refine HNX.mono ?_
          rintro e w2 ⟨rfl, rfl⟩
          go_wp2
          go_roundw
          case rel => exact ⟨k + 1, z, y ||| 2 ^ x, by go_num, rfl, by rw [hor.out], by omega, hyl, HX, trivial⟩
          case measure => simp [intOf]; omega
      · have he := rd_end (by have h := hrd.out; rw [show N - k = 0 by omega] at h; exact h)
        obtain ⟨rfl, hy2⟩ := he
        have hfin : ((y : Int) == bits .and .i64 c 510) = true := by rw [h510.out, hy2]; simp
        clear hrd hy2 h510 HN HH
        go_wp2
        go_ret
        exact ⟨rfl, hm⟩
namespace crewAround
open Go.ChangeShapes Go.WideShapes Go.ChangeAt Go.RowKit
set_option maxRecDepth 100000 in
theorem lifted (os : Os) (started : os.Started) (H : Type) (enc : TypeId × Value → H) :
    ReturnsInHanded {} Try.checked os 6 .any (Rows.crewAroundSpec.pre6 enc Try.prog Try.f6 Rows.crewAroundRow.domain false) (Rows.crewAroundSpec.post enc Try.prog Try.f6 false true false false) := by
  refine returnsInHanded_of_change_sized (C := Try.checked) own started (by kernel_rfl) Try.func6
    (ChangeSpec.witness6 (enc := enc) (C := Try.checked) false ⟨#[], #[.int .i64 0, .int .i64 0], []⟩ 8 (by kernel_rfl) (by kernel_rfl) (by kernel_rfl) (by kernel_rfl)) ?_
  intro W base args ds gs before hval0 hW hcnd hsz0 _
  have hval : ∀ (j : Nat) t v, Try.f6.params[j]? = some t → args[j]? = some v → Value.okWide Try.prog W .any base t v := hval0
  have hsz : (DataW.weightsEach Try.prog (Try.f6.params.toList ++ Rows.crewAroundSpec.plain.varTypes Try.prog) (ds ++ gs)).all (· ≤ reachBytes) = true := hsz0
  have hW' := hW
  obtain ⟨p, q, hA0, hV, rfl, hfz, hnd⟩ := hW
  have hA : DataW.TrodAll enc Try.prog W 0 (fun _ => true) true Try.f6.params.toList args.toList ds p := hA0
  rw [Try.params6] at hA hval hsz
  obtain ⟨v0, vs0, d0, ds0, p0, q0, hargs, rfl, rfl, h0, r0⟩ := trodAll_cons hA
  obtain ⟨v1, vs1, d1, ds1, p1, q1, rfl, rfl, rfl, h1, r1⟩ := trodAll_cons r0
  obtain ⟨rfl, rfl, rfl⟩ := trodAll_nil r1
  obtain rfl : args = #[v0, v1] := by cases args; simp_all
  obtain ⟨rfl, rfl⟩ := trodVars_none hV
  obtain ⟨a0, rfl, rfl, rfl, w0⟩ := open_int Try.underlying3 (hval 0 3 v0 rfl rfl) h0
  obtain ⟨a1, rfl, rfl, rfl, w1⟩ := open_int Try.underlying3 (hval 1 3 v1 rfl rfl) h1
  clear hA0 hval0
  refine (walkAround a0 a1 W).mono fun e W' ⟨he, hm⟩ => ?_
  subst he
  have bel : Below W.heap.size W W' := hm.below _ (Nat.le_refl _) (fun _ h => h.elim)
  exact ⟨_, rfl, _, _, _, [], _, [], hW', trodAll_mk1 (shut_bool Try.underlying4 _), (trodAll_cons_mk (shut_int Try.underlying3 w0) (trodAll_cons_mk (shut_int Try.underlying3 w1) trodAll_mk0)), rfl, bel.frame _, fun h => by cases h⟩

theorem over : Rows.crewAroundRow.holds Try.pinned (OpenSpec.ofChange Rows.crewAroundSpec) :=
  OpenClaim.holds_of_wide 6 Try.f6 rfl rfl rfl rfl rfl rfl rfl ⟨rfl, rfl, rfl, rfl, rfl⟩ rfl rfl rfl rfl rfl (by kernel_rfl) Try.func6 (by kernel_rfl)
    (of_decide_eq_true (by kernel_rfl)) (by unfold Func.isWrapper; first | (rw [if_pos (by decide +kernel)]; kernel_rfl) | (rw [if_neg (by decide +kernel)]; exact ⟨rfl, rfl⟩))
    (fun os started H enc _ => lifted os started H enc)
end crewAround
theorem crewAround_holds : Rows.CrewAroundSaid := crewAround.over
end Go.Proofs.Ytlhgpbelgifnpaa
