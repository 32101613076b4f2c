/- CrewTogether: how many two crews have together. No conditions. -/
import Derived.Test.YtlhgpbelgifnpaaEn
namespace Go.Proofs.Ytlhgpbelgifnpaa
open Go.RowKit
theorem bit_sum (x y : Bool) : (x || y).toNat + (x && y).toNat = x.toNat + y.toNat := by cases x <;> cases y <;> rfl
theorem cn_two (a b : Nat) (ha : a < 512) (hb : b < 512) : cn (a ||| b) + cn (a &&& b) = cn a + cn b := by
  have h1 : a ||| b < 512 := Nat.or_lt_two_pow (n := 9) ha hb
  have h2 : a &&& b < 512 := Nat.lt_of_le_of_lt Nat.and_le_left ha
  rw [cn_bits ⟨_, h1⟩, cn_bits ⟨_, h2⟩, cn_bits ⟨a, ha⟩, cn_bits ⟨b, hb⟩]
  simp only [bc, Nat.testBit_or, Nat.testBit_and]
  have k1 := bit_sum (a.testBit 1) (b.testBit 1)
  have k2 := bit_sum (a.testBit 2) (b.testBit 2)
  have k3 := bit_sum (a.testBit 3) (b.testBit 3)
  have k4 := bit_sum (a.testBit 4) (b.testBit 4)
  have k5 := bit_sum (a.testBit 5) (b.testBit 5)
  have k6 := bit_sum (a.testBit 6) (b.testBit 6)
  have k7 := bit_sum (a.testBit 7) (b.testBit 7)
  have k8 := bit_sum (a.testBit 8) (b.testBit 8)
  omega
theorem cn_not : ∀ m : Fin 512, cn m.val + cn (511 - m.val) = 8 := by decide +kernel
theorem xor_not : ∀ m : Fin 512, 511 ^^^ m.val = 511 - m.val := by decide +kernel
theorem lo_not (a : Int) : lo (bits .xor .i64 (-1) a) = 511 - lo a := by
  have e : bits .xor .i64 (-1) a = IntKind.i64.wrap ((BitVec.ofInt 64 (-1) ^^^ BitVec.ofInt 64 a).toNat : Nat) := rfl
  have h : ((BitVec.ofInt 64 (-1)).toNat ^^^ (BitVec.ofInt 64 a).toNat) % 2 ^ 9 = (BitVec.ofInt 64 (-1)).toNat % 2 ^ 9 ^^^ (BitVec.ofInt 64 a).toNat % 2 ^ 9 := Nat.xor_mod_two_pow
  rw [e, lo_bits, BitVec.toNat_xor, ← xor_not ⟨lo a, lo_lt a⟩]
  show _ = 511 ^^^ lo a
  rw [← lo_of a]
  exact h
theorem walkTogether (a b : Int) (w : World) :
    Calls Try.prog 7 #[.int .i64 a, .int .i64 b] w fun e w' => e = .returned (.bool true) ∧ Mod (fun _ => False) w w' := by
  have HW := works w
  have h1 := cn_two (lo a) (lo b) (lo_lt a) (lo_lt b)
  have H1 := fun w => Count (bits .or .i64 a b) w
  have H2 := fun w => Count a w
  have H3 := fun w => Count b w
  have H4 := fun w => Count (bits .and .i64 a b) w
  have l1 := ls_len ⟨lo a, lo_lt a⟩
  have l2 := ls_len ⟨lo b, lo_lt b⟩
  change cn (lo a) ≤ 8 at l1
  change cn (lo b) ≤ 8 at l2
  rw [lo_or] at H1
  rw [lo_and] at H4
  have H5 := fun w => Count (bits .xor .i64 (-1) a) w
  rw [lo_not] at H5
  have h5 := cn_not ⟨lo a, lo_lt a⟩
  simp only at h5
  generalize cn (lo a ||| lo b) = x1 at *
  generalize cn (lo a &&& lo b) = x4 at *
  have hx : (x1 : Int) = (cn (lo a) : Int) + (cn (lo b) : Int) - (x4 : Int) := by omega
  clear h1
  generalize cn (511 - lo a) = D at *
  have hsg : IntKind.i64.signed = true := rfl
  have hy : (cn (lo a) : Int) + (D : Int) = 8 := by omega
  generalize cn (lo a) = A at *
  generalize cn (lo b) = B at *
  go_enter Try.func7, Try.ntmps7
  go_wp2_with (fail)
  refine HW.mono ?_
  rintro e w1 ⟨rfl, hm⟩
  go_wp2_with (fail)
  refine (H1 _).mono ?_
  rintro e w2 ⟨rfl, rfl⟩
  go_wp2_with (fail)
  refine (H2 _).mono ?_
  rintro e w3 ⟨rfl, rfl⟩
  go_wp2_with (fail)
  refine (H3 _).mono ?_
  rintro e w4 ⟨rfl, rfl⟩
  go_wp2_with (fail)
  refine (H4 _).mono ?_
  rintro e w5 ⟨rfl, rfl⟩
  go_wp2_with (fail)
  refine (H2 _).mono ?_
  rintro e w6 ⟨rfl, rfl⟩
  go_wp2_with (fail)
  refine (H5 _).mono ?_
  rintro e w7 ⟨rfl, rfl⟩
  go_wp2
  go_ret
  exact ⟨rfl, hm⟩
namespace crewTogether
open Go.ChangeShapes Go.WideShapes Go.ChangeAt Go.RowKit
set_option maxRecDepth 100000 in
theorem lifted (os : Os) (started : os.Started) (H : Type) (enc : TypeId × Value → H) :
    ReturnsInHanded {} Try.checked os 7 .any (Rows.crewTogetherSpec.pre6 enc Try.prog Try.f7 Rows.crewTogetherRow.domain false) (Rows.crewTogetherSpec.post enc Try.prog Try.f7 false true false false) := by
  refine returnsInHanded_of_change_sized (C := Try.checked) own started (by kernel_rfl) Try.func7
    (ChangeSpec.witness6 (enc := enc) (C := Try.checked) false ⟨#[], #[.int .i64 0, .int .i64 0], []⟩ 8 (by kernel_rfl) (by kernel_rfl) (by kernel_rfl) (by kernel_rfl)) ?_
  intro W base args ds gs before hval0 hW hcnd hsz0 _
  have hval : ∀ (j : Nat) t v, Try.f7.params[j]? = some t → args[j]? = some v → Value.okWide Try.prog W .any base t v := hval0
  have hsz : (DataW.weightsEach Try.prog (Try.f7.params.toList ++ Rows.crewTogetherSpec.plain.varTypes Try.prog) (ds ++ gs)).all (· ≤ reachBytes) = true := hsz0
  have hW' := hW
  obtain ⟨p, q, hA0, hV, rfl, hfz, hnd⟩ := hW
  have hA : DataW.TrodAll enc Try.prog W 0 (fun _ => true) true Try.f7.params.toList args.toList ds p := hA0
  rw [Try.params7] at hA hval hsz
  obtain ⟨v0, vs0, d0, ds0, p0, q0, hargs, rfl, rfl, h0, r0⟩ := trodAll_cons hA
  obtain ⟨v1, vs1, d1, ds1, p1, q1, rfl, rfl, rfl, h1, r1⟩ := trodAll_cons r0
  obtain ⟨rfl, rfl, rfl⟩ := trodAll_nil r1
  obtain rfl : args = #[v0, v1] := by cases args; simp_all
  obtain ⟨rfl, rfl⟩ := trodVars_none hV
  obtain ⟨a0, rfl, rfl, rfl, w0⟩ := open_int Try.underlying3 (hval 0 3 v0 rfl rfl) h0
  obtain ⟨a1, rfl, rfl, rfl, w1⟩ := open_int Try.underlying3 (hval 1 3 v1 rfl rfl) h1
  clear hA0 hval0
  refine (walkTogether a0 a1 W).mono fun e W' ⟨he, hm⟩ => ?_
  subst he
  have bel : Below W.heap.size W W' := hm.below _ (Nat.le_refl _) (fun _ h => h.elim)
  exact ⟨_, rfl, _, _, _, [], _, [], hW', trodAll_mk1 (shut_bool Try.underlying4 _), (trodAll_cons_mk (shut_int Try.underlying3 w0) (trodAll_cons_mk (shut_int Try.underlying3 w1) trodAll_mk0)), rfl, bel.frame _, fun h => by cases h⟩

theorem over : Rows.crewTogetherRow.holds Try.pinned (OpenSpec.ofChange Rows.crewTogetherSpec) :=
  OpenClaim.holds_of_wide 7 Try.f7 rfl rfl rfl rfl rfl rfl rfl ⟨rfl, rfl, rfl, rfl, rfl⟩ rfl rfl rfl rfl rfl (by kernel_rfl) Try.func7 (by kernel_rfl)
    (of_decide_eq_true (by kernel_rfl)) (by unfold Func.isWrapper; first | (rw [if_pos (by decide +kernel)]; kernel_rfl) | (rw [if_neg (by decide +kernel)]; exact ⟨rfl, rfl⟩))
    (fun os started H enc _ => lifted os started H enc)
end crewTogether
theorem crewTogether_holds : Rows.CrewTogetherSaid := crewTogether.over
end Go.Proofs.Ytlhgpbelgifnpaa
