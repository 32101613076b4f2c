/- Contracts of parcel's small calls: a ring that is not none, a crew, what a message of each kind has of itself. No conditions; what is answered is said by plain functions. -/
import Derived.Test.YthiijonmnebjgaaGreatPn
namespace Go.Proofs.YthiijonmnebjgaaGreat
open Go.RowKit

theorem andNot_iff (c : Int) (hc : -9223372036854775808 ≤ c ∧ c ≤ 9223372036854775807) : bits .andNot .i64 c 510 = 0 ↔ (0 ≤ c ∧ c < 512 ∧ c % 2 = 0) := by
  have e : bits .andNot .i64 c 510 = IntKind.i64.wrap (((BitVec.ofInt 64 c &&& ~~~(BitVec.ofInt 64 510)).toNat : Nat) : Int) := rfl
  have hlt := (BitVec.ofInt 64 c &&& ~~~(BitVec.ofInt 64 510)).isLt
  have k1 : bits .andNot .i64 c 510 = 0 ↔ (BitVec.ofInt 64 c &&& ~~~(BitVec.ofInt 64 510)) = 0#64 := by
    rw [e]
    revert hlt
    generalize BitVec.ofInt 64 c &&& ~~~(BitVec.ofInt 64 510) = y
    intro hlt
    rw [IntKind.wrap_i64]
    have k0 : y = 0#64 ↔ y.toNat = 0 := ⟨fun h => by rw [h]; rfl, fun h => BitVec.eq_of_toNat_eq (by rw [h]; rfl)⟩
    rw [k0]
    generalize y.toNat = z at hlt
    have hlt' : z < 18446744073709551616 := hlt
    clear hlt
    constructor <;> intro h <;> omega
  have k2 : ∀ x : BitVec 64, (x &&& ~~~(BitVec.ofInt 64 510)) = 0#64 ↔ (x.toNat < 512 ∧ x.toNat % 2 = 0) := by
    intro x
    have a : x.toNat % 512 = x.toNat &&& 511 := by
      have := Nat.and_two_pow_sub_one_eq_mod x.toNat 9
      simpa using this.symm
    constructor
    · intro h
      have h' : x &&& BitVec.ofNat 64 510 = x := by
        have := BitVec.and_or_distrib_left (x := x) (y := BitVec.ofNat 64 510) (z := ~~~(BitVec.ofNat 64 510))
        have e1 : BitVec.ofNat 64 510 ||| ~~~(BitVec.ofNat 64 510) = BitVec.allOnes 64 := by decide
        rw [e1, BitVec.and_allOnes] at this
        rw [show BitVec.ofInt 64 510 = BitVec.ofNat 64 510 from rfl] at h
        rw [h] at this
        simpa using this.symm
      have hn : x.toNat &&& 510 = x.toNat := by
        have := congrArg BitVec.toNat h'
        simpa using this
      have l1 : x.toNat &&& 510 ≤ 510 := Nat.and_le_right
      have l2 : (x.toNat &&& 510) % 2 = 0 := by
        rw [Nat.and_mod_two_pow (n := 1)]
        simp
      omega
    · rintro ⟨h1, h2⟩
      have hk : ∀ y : Fin 512, y.val % 2 = 0 → (BitVec.ofNat 64 y.val &&& ~~~(BitVec.ofInt 64 510)) = 0#64 := by decide +kernel
      have := hk ⟨x.toNat, h1⟩ h2
      simpa using this
  rw [k1, k2, BitVec.toNat_ofInt]
  constructor
  · intro ⟨h1, h2⟩
    have : c % (2 ^ 64 : Nat) = c ∨ c % (2 ^ 64 : Nat) = c + 18446744073709551616 := by omega
    omega
  · rintro ⟨h1, h2, h3⟩
    have : c % (2 ^ 64 : Nat) = c := by omega
    omega
theorem isCrew (c : Int) (hc : -9223372036854775808 ≤ c ∧ c ≤ 9223372036854775807) (w : World) : Calls Tryz.prog 130 #[.int .i64 c] w fun e w' => e = .returned (.bool (crew c)) ∧ w' = w := by
  have hb := andNot_iff c hc
  by_cases h0 : c = 0
  · subst h0
    clear hb
    go_enter Tryz.func130, Tryz.ntmps130
    go_wp2
    go_ret
    exact ⟨rfl, rfl⟩
  · have hcr : crew c = (bits .andNot .i64 c 510 == 0) := by
      rw [Bool.eq_iff_iff]
      simp only [crew, decide_eq_true_eq, beq_iff_eq, hb]
      omega
    rw [hcr]
    clear hcr hb
    generalize hx : bits .andNot .i64 c 510 = x
    go_enter Tryz.func130, Tryz.ntmps130
    go_wp2
    go_ret
    have hc0 : (c != 0) = true := by simp [h0]
    exact ⟨by simp [hc0], rfl⟩

theorem isRing (q r : Int) (w : World) : Calls Tryz.prog 114 #[.agg #[.int .i64 q, .int .i64 r]] w fun e w' => e = .returned (.bool (isr q r)) ∧ Mod (fun _ => False) w w' := by
  have HM := fun w' (h : Mod (fun _ => False) ((w.alloc (Obj.cells #[Value.int IntKind.i64 q, Value.int IntKind.i64 r] 38)).alloc (Obj.cells #[Value.int IntKind.i64 0, Value.int IntKind.i64 0] 38)) w') =>
    (((Mod.refl (fun _ => False) w).alloc (Obj.cells #[Value.int IntKind.i64 q, Value.int IntKind.i64 r] 38)).alloc (Obj.cells #[Value.int IntKind.i64 0, Value.int IntKind.i64 0] 38)).trans h (V := fun _ => False) (fun _ _ h => h) (fun _ _ h => h)
  have H := CheckRing q r
  by_cases h0 : q = 0 ∧ r = 0
  · obtain ⟨rfl, rfl⟩ := h0
    clear H
    go_enter Tryz.func114, Tryz.ntmps114
    go_wp2
    go_ret
    exact ⟨rfl, HM _ (Mod.refl _ _)⟩
  · have e : isr q r = (cr q r == 0) := by simp only [isr, h0, not_false_eq_true, decide_true, Bool.true_and]
    rw [e]
    generalize cr q r = c at H ⊢
    clear e
    rcases (show (¬ q = 0) ∨ (q = 0 ∧ ¬ r = 0) by omega) with h | ⟨rfl, h⟩
    all_goals
      clear h0
      go_enter Tryz.func114, Tryz.ntmps114
      go_wp2_with (fail)
      refine (H _).mono ?_
      rintro e w1 ⟨rfl, hm⟩
      go_wp2
      go_ret
      exact ⟨rfl, HM _ hm⟩

theorem isClients (k o lf i p ps g : Int) (s : Bool) (st rs rr sq : Int) (ao : Option Addr) (cap : Nat) (l : List Int) (w : World) : Calls Tryz.prog 112 #[.agg #[.int .i64 k, .int .i64 o, .int .i64 lf, .int .i64 i, .int .i64 p, .int .i64 ps, .int .i64 g, .bool s, .int .i64 st, .int .i64 rs, .int .i64 rr, .int .i64 sq, .slice ao l.length cap]] w fun e w' => e = .returned (.bool (!(pln ⟨k, o, lf, i, p, ps, g, s, st, rs, rr, sq, l⟩))) ∧ Mod (fun _ => False) w w' := by
  go_enter Tryz.func112, Tryz.ntmps112
  go_wp2
  all_goals
    go_ret
    refine ⟨?_, (Mod.refl _ _).alloc _⟩
    simp [pln, *] <;> omega
theorem isText (k o lf i p ps g : Int) (s : Bool) (st rs rr sq : Int) (ao : Option Addr) (cap : Nat) (l : List Int) (w : World) : Calls Tryz.prog 87 #[.agg #[.int .i64 k, .int .i64 o, .int .i64 lf, .int .i64 i, .int .i64 p, .int .i64 ps, .int .i64 g, .bool s, .int .i64 st, .int .i64 rs, .int .i64 rr, .int .i64 sq, .slice ao l.length cap]] w fun e w' => e = .returned (.bool (tx ⟨k, o, lf, i, p, ps, g, s, st, rs, rr, sq, l⟩)) ∧ Mod (fun _ => False) w w' := by
  go_enter Tryz.func87, Tryz.ntmps87
  go_wp2
  all_goals
    go_ret
    refine ⟨?_, (Mod.refl _ _).alloc _⟩
    simp [tx, *] <;> omega
end Go.Proofs.YthiijonmnebjgaaGreat
