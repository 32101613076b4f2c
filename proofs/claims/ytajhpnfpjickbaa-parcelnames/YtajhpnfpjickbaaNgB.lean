/- ParcelAgain: data that are sent again are what they were, and have room. No conditions beyond the numbers of an int. -/
import Derived.Test.YtajhpnfpjickbaaCo
import Derived.Deep.RegionLaw
import Derived.Test.YtajhpnfpjickbaaCy
import Derived.Test.YtajhpnfpjickbaaCl
import Derived.Test.YtajhpnfpjickbaaCi
import Derived.Test.YtajhpnfpjickbaaEn
import Derived.Deep.CutRange
namespace Go.Proofs.Ytajhpnfpjickbaa
open Go.RowKit
/-- x brought to 0 .. m - 1. -/
def br (x m : Int) : Int := if x.tmod m < 0 then x.tmod m + m else x.tmod m
theorem br_rng (x : Int) (m : Nat) (h0 : 0 < m) : 0 ≤ br x m ∧ br x m < m ∧ -(m : Int) < x.tmod m ∧ x.tmod m < m := by
  have q1 : ¬ ((m : Int) = 0) := by omega
  have hb : -(m : Int) < x.tmod (m : Int) ∧ x.tmod (m : Int) < (m : Int) := by
    rcases (show 0 ≤ x ∨ x < 0 by omega) with h | h
    · rw [Int.tmod_eq_emod_of_nonneg h]
      have a1 := Int.emod_nonneg x q1
      have a2 := Int.emod_lt_of_pos x (show (0 : Int) < m by omega)
      omega
    · have e := Int.neg_tmod (-x) (m : Int)
      rw [Int.neg_neg, Int.tmod_eq_emod_of_nonneg (by omega : 0 ≤ -x)] at e
      rw [e]
      have a1 := Int.emod_nonneg (-x) q1
      have a2 := Int.emod_lt_of_pos (-x) (show (0 : Int) < m by omega)
      omega
  unfold br
  split <;> omega
theorem bring (x : Int) (m : Nat) (w : World) (h0 : 0 < m) (hm : m ≤ 1152921504606846976) (h : -9223372036854775808 ≤ x ∧ x ≤ 9223372036854775807) :
    Calls Try.prog 33 #[.int .i64 x, .int .i64 (m : Int)] w fun e w' => e = .returned (.int .i64 (br x m)) ∧ w' = w := by
  have q0 : ¬ ((m : Int) ≤ 0) := by omega
  have q1 : ¬ ((m : Int) = 0) := by omega
  have q2 : ((m : Int) == 0) = false := by simp; omega
  obtain ⟨_, _, b1, b2⟩ := br_rng x m h0
  unfold br
  generalize hr : x.tmod (m : Int) = r at b1 b2 ⊢
  obtain ⟨h1, h2⟩ := h
  by_cases hneg : r < 0
  · rw [if_pos hneg]
    go_enter Try.func33, Try.ntmps33
    go_wp2
    go_ret
    exact ⟨rfl, rfl⟩
  · rw [if_neg hneg]
    go_enter Try.func33, Try.ntmps33
    go_wp2
    go_ret
    exact ⟨rfl, rfl⟩
theorem step_bring {ops : Array Oper} {o : Oper} {a : Act} {w : World} {K : Act → World → Prop} {Q : Exit → Act → World → Prop} {E : Prop} (hgd : o.guard = none) (x : Operand) (m r : Int)
    (ho : o.op = .call { callee := .value (.func 33), args := #[x, .const (.int .i64 m)], argTypes := #[3, 3] }) (n : Int) (hx : a.eval x = .int .i64 n)
    (HB : Calls Try.prog 33 #[.int .i64 n, .int .i64 m] w fun e w' => e = .returned (.int .i64 r) ∧ w' = w) (h : K (a.put o.dst (.int .i64 r)) w) :
    if Region.wanted o (yielded ops a.tmps) = true then Oper.wp Try.prog o a w K Q else E := by
  rw [if_pos (by simp [Region.wanted, hgd])]
  unfold Oper.wp
  have hrun : (execOp a.eval o).run Try.prog w = .ok (.enter 33 #[.int .i64 n, .int .i64 m]) w := by
    unfold execOp
    simp only [go_sem] at hx
    simp [ho, resolve, invoke, go_sem]
    simpa using hx
  rw [hrun, Oper.upon_enter]
  refine HB.mono ?_
  rintro e w' ⟨rfl, rfl⟩
  exact h
end Go.Proofs.Ytajhpnfpjickbaa
namespace Go.Proofs.Ytajhpnfpjickbaa
open Go.RowKit
set_option maxRecDepth 100000 in
set_option maxHeartbeats 8000000 in
theorem again_a (dq dr ds dn dt : Int) (k o lf i p ps g : Int) (s : Bool) (st rs rr sq : Int) (ao : Option Addr) (cap : Nat) (l : List Int) (w : World) (hs : Sl w (.slice ao l.length cap) l) (iq : (-9223372036854775808 ≤ dq ∧ dq ≤ 9223372036854775807)) (ir : (-9223372036854775808 ≤ dr ∧ dr ≤ 9223372036854775807)) (is : (-9223372036854775808 ≤ ds ∧ ds ≤ 9223372036854775807)) (ino : (-9223372036854775808 ≤ dn ∧ dn ≤ 9223372036854775807)) (it : (-9223372036854775808 ≤ dt ∧ dt ≤ 9223372036854775807)) (hc : ¬ chk ⟨k, o, lf, i, p, ps, g, s, st, rs, rr, sq, l⟩ = 0) :
    Calls Try.prog 7 #[.agg #[.int .i64 dq, .int .i64 dr, .int .i64 ds, .int .i64 dn, .int .i64 dt, .int .i64 k, .int .i64 o, .int .i64 lf, .int .i64 i, .int .i64 p, .int .i64 ps, .int .i64 g, .bool s, .int .i64 st, .int .i64 rs, .int .i64 rr, .int .i64 sq, .slice ao l.length cap]] w fun e w' => e = .returned (.bool true) ∧ Mod (fun _ => False) w w' := by
  have Bq1 : ∀ W, Calls Try.prog 33 #[.int .i64 dq, .int .i64 9007199254740991] W fun e w' => e = .returned (.int .i64 (br dq 9007199254740991)) ∧ w' = W := fun W => bring dq 9007199254740991 W (by omega) (by omega) iq
  have Rq1 : 0 ≤ br dq 9007199254740991 ∧ br dq 9007199254740991 < 9007199254740991 := by
    obtain ⟨x1, x2, _, _⟩ := br_rng dq 9007199254740991 (by omega)
    exact ⟨x1, x2⟩
  generalize br dq 9007199254740991 = q1 at Bq1 Rq1
  have Br1 : ∀ W, Calls Try.prog 33 #[.int .i64 dr, .int .i64 8] W fun e w' => e = .returned (.int .i64 (br dr 8)) ∧ w' = W := fun W => bring dr 8 W (by omega) (by omega) ir
  have Rr1 : 0 ≤ br dr 8 ∧ br dr 8 < 8 := by
    obtain ⟨x1, x2, _, _⟩ := br_rng dr 8 (by omega)
    exact ⟨x1, x2⟩
  generalize br dr 8 = r1 at Br1 Rr1
  have Bs1 : ∀ W, Calls Try.prog 33 #[.int .i64 ds, .int .i64 9007199254740991] W fun e w' => e = .returned (.int .i64 (br ds 9007199254740991)) ∧ w' = W := fun W => bring ds 9007199254740991 W (by omega) (by omega) is
  have Rs1 : 0 ≤ br ds 9007199254740991 ∧ br ds 9007199254740991 < 9007199254740991 := by
    obtain ⟨x1, x2, _, _⟩ := br_rng ds 9007199254740991 (by omega)
    exact ⟨x1, x2⟩
  generalize br ds 9007199254740991 = s1 at Bs1 Rs1
  have Bn1 : ∀ W, Calls Try.prog 33 #[.int .i64 dn, .int .i64 8] W fun e w' => e = .returned (.int .i64 (br dn 8)) ∧ w' = W := fun W => bring dn 8 W (by omega) (by omega) ino
  have Rn1 : 0 ≤ br dn 8 ∧ br dn 8 < 8 := by
    obtain ⟨x1, x2, _, _⟩ := br_rng dn 8 (by omega)
    exact ⟨x1, x2⟩
  generalize br dn 8 = n1 at Bn1 Rn1
  have Bt1 : ∀ W, Calls Try.prog 33 #[.int .i64 dt, .int .i64 9007199254740992] W fun e w' => e = .returned (.int .i64 (br dt 9007199254740992)) ∧ w' = W := fun W => bring dt 9007199254740992 W (by omega) (by omega) it
  have Rt1 : 0 ≤ br dt 9007199254740992 ∧ br dt 9007199254740992 < 9007199254740992 := by
    obtain ⟨x1, x2, _, _⟩ := br_rng dt 9007199254740992 (by omega)
    exact ⟨x1, x2⟩
  generalize br dt 9007199254740992 = t1 at Bt1 Rt1
  have hN1 : nd (1 + n1) = true := by simp only [nd, decide_eq_true_eq]; omega
  have hN2 : nm t1 = true := by simp only [nm, decide_eq_true_eq]; omega
  have hN3 : nm (1 + s1) = true := by simp only [nm, decide_eq_true_eq]; omega
  have hN4 : isr (1 + q1) (1 + r1) = true := by
    have : cr (1 + q1) (1 + r1) = 0 := by rw [cr, if_pos]; omega
    simp only [isr, this, Bool.and_eq_true, decide_eq_true_eq, beq_self_eq_true, and_true]
    omega
  have hN5 : 0 < 1 + s1 := by omega
  have hN6 : 0 < 1 + q1 ∧ 1 + q1 ≤ 9007199254740991 ∧ 1 ≤ 1 + r1 ∧ 1 + r1 ≤ 8 := isr_nums hN4
  have hol : olE t1 (1 + q1) (1 + r1) (1 + s1) (1 + n1) ⟨k, o, lf, i, p, ps, g, s, st, rs, rr, sq, l⟩ = 2 := by
    unfold olE
    rw [if_neg]
    rintro ⟨h1, h2⟩
    exact hc h1
  have HO := fun W h => Old_any (1 + q1) (1 + r1) (1 + s1) (1 + n1) t1 k o lf i p ps g s st rs rr sq ao cap l W h
  rw [hol] at HO
  have HC := fun W h => Check_any k o lf i p ps g s st rs rr sq ao cap l W h
  generalize chk ⟨k, o, lf, i, p, ps, g, s, st, rs, rr, sq, l⟩ = E at HC hc
  have hen : (E != 0) = true := by simp [hc]
  clear hol
  have hw1 : IntKind.i64.wrap (1 + q1) = 1 + q1 := by rw [IntKind.wrap_i64]; omega
  have hw2 : IntKind.i64.wrap (1 + r1) = 1 + r1 := by rw [IntKind.wrap_i64]; omega
  have hw3 : IntKind.i64.wrap (1 + s1) = 1 + s1 := by rw [IntKind.wrap_i64]; omega
  have hw4 : IntKind.i64.wrap (1 + n1) = 1 + n1 := by rw [IntKind.wrap_i64]; omega
  have hd0 := DB.new w dq dr ds dn dt k o lf i p ps g s st rs rr sq (.slice ao l.length cap)
  have hA0 := (Mod.refl (fun _ => False) w).alloc (.cells #[.int .i64 dq, .int .i64 dr, .int .i64 ds, .int .i64 dn, .int .i64 dt, .int .i64 k, .int .i64 o, .int .i64 lf, .int .i64 i, .int .i64 p, .int .i64 ps, .int .i64 g, .bool s, .int .i64 st, .int .i64 rs, .int .i64 rr, .int .i64 sq, (.slice ao l.length cap)] 49)
  clear Rq1 Rr1 Rs1 Rn1 Rt1 hN6
  go_enter Try.func7, Try.ntmps7
  go_wp2_with (fail)
  refine (awake _).mono ?_
  rintro e w1 ⟨rfl, hm1⟩
  have hd1 := DB.mod (S := fun _ => False) hd0 hm1 (fun h => h)
  obtain ⟨a0, a1, a2, a3, a4, a5, a6, a7, a8, a9, a10, a11, a12, a13, a14, a15, a16, a17⟩ := hd1.cells
  have hz := hd1.frz
  have hA1 := hA0.trans hm1 (V := fun _ => False) (fun _ _ h => h) (fun _ _ h => h)
  have hD2 := (hd1.i0 (1 + q1)).i1 (1 + r1)
  have hM2 := (hA1.setCell ⟨w.heap.size, 0, none⟩ (.int .i64 (1 + q1)) (.inr (Nat.le_refl _))).setCell ⟨w.heap.size, 1, none⟩ (.int .i64 (1 + r1)) (.inr (Nat.le_refl _))
  have hsz1 : w.heap.size < w1.heap.size := by have := hm1.size; simp at this; omega
  have hsz2 : ((w1.setCell ⟨w.heap.size, 0, none⟩ (.int .i64 (1 + q1))).setCell ⟨w.heap.size, 1, none⟩ (.int .i64 (1 + r1))).heap.size = w1.heap.size := by simp [World.setCell]
  go_upto_region 3 with fail
  go_cut [] from 15 to 26 (fun wx => DB wx w.heap.size (1 + q1) (1 + r1) ds dn dt k o lf i p ps g s st rs rr sq (.slice ao l.length cap) ∧ Mod (fun _ => False) w wx ∧ w.heap.size < wx.heap.size)
  case first =>
    go_region_law ((first | (refine step_bring (by rfl) _ _ q1 (by rfl) dq (by rfl) (Bq1 _) ?_) | (refine step_bring (by rfl) _ _ r1 (by rfl) dr (by rfl) (Br1 _) ?_)))
    all_goals
      go_wp2_with fail
      go_meet
      exact ⟨hD2, hM2.drew, by show w.heap.size < _; rw [show (((w1.setCell ⟨w.heap.size, 0, none⟩ (.int .i64 (1 + q1))).setCell ⟨w.heap.size, 1, none⟩ (.int .i64 (1 + r1))).drew).heap.size = w1.heap.size from hsz2]; exact hsz1⟩
  case rest =>
    obtain ⟨hd3, hM3, hsz3⟩ := hcut
    clear a0 a1 a2 a3 a4 a5 a6 a7 a8 a9 a10 a11 a12 a13 a14 a15 a16 a17 hz hd0 hA0 hA1 hD2 hM2 hm1 hd1 hsz1 hsz2
    obtain ⟨a0, a1, a2, a3, a4, a5, a6, a7, a8, a9, a10, a11, a12, a13, a14, a15, a16, a17⟩ := hd3.cells
    have hz := hd3.frz
    have hd4 := hd3.i2 (1 + s1)
    have b3 := hd4.cells.2.2.2.1
    have z4 := hd4.frz
    have hd5 := hd4.i3 (1 + n1)
    have b4 := hd5.cells.2.2.2.2.1
    have z5 := hd5.frz
    have hd6 := hd5.i4 t1
    have hM6 := ((hM3.setCell ⟨w.heap.size, 2, none⟩ (.int .i64 (1 + s1)) (.inr (Nat.le_refl _))).setCell ⟨w.heap.size, 3, none⟩ (.int .i64 (1 + n1)) (.inr (Nat.le_refl _))).setCell ⟨w.heap.size, 4, none⟩ (.int .i64 t1) (.inr (Nat.le_refl _))
    have hsz6 : w.heap.size < (((wc.setCell ⟨w.heap.size, 2, none⟩ (.int .i64 (1 + s1))).setCell ⟨w.heap.size, 3, none⟩ (.int .i64 (1 + n1))).setCell ⟨w.heap.size, 4, none⟩ (.int .i64 t1)).heap.size := by
      simp only [World.setCell, Array.size_modify]
      exact hsz3
    go_wp2_with (fail)
    refine (Bs1 _).mono ?_
    rintro e w' ⟨rfl, rfl⟩
    go_wp2_with (fail)
    refine (Bn1 _).mono ?_
    rintro e w' ⟨rfl, rfl⟩
    go_wp2_with (fail)
    refine (Bt1 _).mono ?_
    rintro e w' ⟨rfl, rfl⟩
    have hs6 := hs.mod hM6 (fun _ _ h => h)
    go_wp2_with (refine wpList_load_row info18 Try.underlying49 rfl rfl _ rfl w.heap.size rfl (Bk.mk hd6) rfl ?_; simp only [Act.put, List.setIfInBounds_toArray, List.set_cons_succ, List.set_cons_zero])
    clear a0 a1 a2 a3 a4 a5 a6 a7 a8 a9 a10 a11 a12 a13 a14 a15 a16 a17 b3 b4 z4 z5 hz hd3 hd4 hd5 hM3 hsz3
    generalize (((w'.setCell ⟨w.heap.size, 2, none⟩ (.int .i64 (1 + s1))).setCell ⟨w.heap.size, 3, none⟩ (.int .i64 (1 + n1))).setCell ⟨w.heap.size, 4, none⟩ (.int .i64 t1)) = w6 at hd6 hM6 hsz6 hs6 ⊢
    refine (HO _ hs6).mono ?_
    rintro e w7 ⟨k', o', lf', i', p', ps', g', s', st', rs', rr', sq', bv', rfl, hm7, _, hno⟩
    obtain ⟨rfl, rfl, rfl, rfl, rfl, rfl, rfl, rfl, rfl, rfl, rfl, rfl, rfl⟩ := hno (by decide)
    have hD8 := (Mod.refl (fun _ => False) w7).alloc (.cells #[.int .i64 0, .int .i64 0, .int .i64 0, .int .i64 0, .int .i64 0, .int .i64 0, .int .i64 0, .bool false, .int .i64 0, .int .i64 0, .int .i64 0, .int .i64 0, (.slice none 0 0)] 28)
    have hn8 := MB.new w7 0 0 0 0 0 0 0 false 0 0 0 0 (.slice none 0 0)
    replace hd6 := hd6.mod hm7 (fun h => h)
    replace hs6 := hs6.mod hm7 (fun _ _ h => h)
    replace hM6 := hM6.trans hm7 (V := fun _ => False) (fun _ _ h => h) (fun _ _ h => h)
    replace hd6 := hd6.mod hD8 (fun h => h)
    replace hs6 := hs6.mod hD8 (fun _ _ h => h)
    replace hM6 := hM6.trans hD8 (V := fun _ => False) (fun _ _ h => h) (fun _ _ h => h)
    clear hno HO hm7
    obtain ⟨a0, a1, a2, a3, a4, a5, a6, a7, a8, a9, a10, a11, a12, a13, a14, a15, a16, a17⟩ := hd6.cells
    go_wp2_with (fail)
    refine (HC _ hs6).mono ?_
    rintro e w9 ⟨rfl, hm9⟩
    replace hd6 := hd6.mod hm9 (fun h => h)
    replace hn8 := hn8.mod hm9 (fun h => h)
    replace hM6 := hM6.trans hm9 (V := fun _ => False) (fun _ _ h => h) (fun _ _ h => h)
    clear a0 a1 a2 a3 a4 a5 a6 a7 a8 a9 a10 a11 a12 a13 a14 a15 a16 a17
    obtain ⟨a0, a1, a2, a3, a4, a5, a6, a7, a8, a9, a10, a11, a12, a13, a14, a15, a16, a17⟩ := hd6.cells
    obtain ⟨b0, b1, b2, b3, b4, b5, b6, b7, b8, b9, b10, b11, b12⟩ := hn8.cells
    go_wp2_with (fail)
    refine (same_eq 0 0 0 0 0 0 0 false 0 0 0 0 none none 0 0 [] w9 (Own.sl (Own.nil w9) (by simp)) (Own.sl (Own.nil w9) (by simp))).mono ?_
    rintro e w10 ⟨rfl, hm10⟩
    go_wp2
    go_ret
    exact ⟨rfl, hM6.trans hm10 (V := fun _ => False) (fun _ _ h => h) (fun _ _ h => h)⟩

set_option maxRecDepth 100000 in
set_option maxHeartbeats 8000000 in
theorem again_b (dq dr ds dn dt : Int) (k o lf i p ps g : Int) (s : Bool) (st rs rr sq : Int) (ao : Option Addr) (cap : Nat) (l : List Int) (w : World) (hs : Sl w (.slice ao l.length cap) l) (iq : (-9223372036854775808 ≤ dq ∧ dq ≤ 9223372036854775807)) (ir : (-9223372036854775808 ≤ dr ∧ dr ≤ 9223372036854775807)) (is : (-9223372036854775808 ≤ ds ∧ ds ≤ 9223372036854775807)) (ino : (-9223372036854775808 ≤ dn ∧ dn ≤ 9223372036854775807)) (it : (-9223372036854775808 ≤ dt ∧ dt ≤ 9223372036854775807)) (hc : chk ⟨k, o, lf, i, p, ps, g, s, st, rs, rr, sq, l⟩ = 0) (hk5 : k = 5) :
    Calls Try.prog 7 #[.agg #[.int .i64 dq, .int .i64 dr, .int .i64 ds, .int .i64 dn, .int .i64 dt, .int .i64 k, .int .i64 o, .int .i64 lf, .int .i64 i, .int .i64 p, .int .i64 ps, .int .i64 g, .bool s, .int .i64 st, .int .i64 rs, .int .i64 rr, .int .i64 sq, .slice ao l.length cap]] w fun e w' => e = .returned (.bool true) ∧ Mod (fun _ => False) w w' := by
  have Bq1 : ∀ W, Calls Try.prog 33 #[.int .i64 dq, .int .i64 9007199254740991] W fun e w' => e = .returned (.int .i64 (br dq 9007199254740991)) ∧ w' = W := fun W => bring dq 9007199254740991 W (by omega) (by omega) iq
  have Rq1 : 0 ≤ br dq 9007199254740991 ∧ br dq 9007199254740991 < 9007199254740991 := by
    obtain ⟨x1, x2, _, _⟩ := br_rng dq 9007199254740991 (by omega)
    exact ⟨x1, x2⟩
  generalize br dq 9007199254740991 = q1 at Bq1 Rq1
  have Br1 : ∀ W, Calls Try.prog 33 #[.int .i64 dr, .int .i64 8] W fun e w' => e = .returned (.int .i64 (br dr 8)) ∧ w' = W := fun W => bring dr 8 W (by omega) (by omega) ir
  have Rr1 : 0 ≤ br dr 8 ∧ br dr 8 < 8 := by
    obtain ⟨x1, x2, _, _⟩ := br_rng dr 8 (by omega)
    exact ⟨x1, x2⟩
  generalize br dr 8 = r1 at Br1 Rr1
  have Bs1 : ∀ W, Calls Try.prog 33 #[.int .i64 ds, .int .i64 9007199254740991] W fun e w' => e = .returned (.int .i64 (br ds 9007199254740991)) ∧ w' = W := fun W => bring ds 9007199254740991 W (by omega) (by omega) is
  have Rs1 : 0 ≤ br ds 9007199254740991 ∧ br ds 9007199254740991 < 9007199254740991 := by
    obtain ⟨x1, x2, _, _⟩ := br_rng ds 9007199254740991 (by omega)
    exact ⟨x1, x2⟩
  generalize br ds 9007199254740991 = s1 at Bs1 Rs1
  have Bn1 : ∀ W, Calls Try.prog 33 #[.int .i64 dn, .int .i64 8] W fun e w' => e = .returned (.int .i64 (br dn 8)) ∧ w' = W := fun W => bring dn 8 W (by omega) (by omega) ino
  have Rn1 : 0 ≤ br dn 8 ∧ br dn 8 < 8 := by
    obtain ⟨x1, x2, _, _⟩ := br_rng dn 8 (by omega)
    exact ⟨x1, x2⟩
  generalize br dn 8 = n1 at Bn1 Rn1
  have Bt1 : ∀ W, Calls Try.prog 33 #[.int .i64 dt, .int .i64 9007199254740992] W fun e w' => e = .returned (.int .i64 (br dt 9007199254740992)) ∧ w' = W := fun W => bring dt 9007199254740992 W (by omega) (by omega) it
  have Rt1 : 0 ≤ br dt 9007199254740992 ∧ br dt 9007199254740992 < 9007199254740992 := by
    obtain ⟨x1, x2, _, _⟩ := br_rng dt 9007199254740992 (by omega)
    exact ⟨x1, x2⟩
  generalize br dt 9007199254740992 = t1 at Bt1 Rt1
  have hN1 : nd (1 + n1) = true := by simp only [nd, decide_eq_true_eq]; omega
  have hN2 : nm t1 = true := by simp only [nm, decide_eq_true_eq]; omega
  have hN3 : nm (1 + s1) = true := by simp only [nm, decide_eq_true_eq]; omega
  have hN4 : isr (1 + q1) (1 + r1) = true := by
    have : cr (1 + q1) (1 + r1) = 0 := by rw [cr, if_pos]; omega
    simp only [isr, this, Bool.and_eq_true, decide_eq_true_eq, beq_self_eq_true, and_true]
    omega
  have hN5 : 0 < 1 + s1 := by omega
  have hN6 : 0 < 1 + q1 ∧ 1 + q1 ≤ 9007199254740991 ∧ 1 ≤ 1 + r1 ∧ 1 + r1 ≤ 8 := isr_nums hN4
  have hol : olE t1 (1 + q1) (1 + r1) (1 + s1) (1 + n1) ⟨k, o, lf, i, p, ps, g, s, st, rs, rr, sq, l⟩ = 2 := by
    unfold olE
    rw [if_neg]
    rintro ⟨h1, h2⟩
    exact ((old_chk hs.rng h1).1 h2).2.2.2.2.2 hk5
  have HO := fun W h => Old_any (1 + q1) (1 + r1) (1 + s1) (1 + n1) t1 k o lf i p ps g s st rs rr sq ao cap l W h
  rw [hol] at HO
  have HC := fun W h => Check_any k o lf i p ps g s st rs rr sq ao cap l W h
  rw [hc] at HC
  have hk5b : (k == 5) = true := by simp [hk5]
  clear hol
  have HK5 : Hid (k = 5) := hk5
  clear hk5
  have hw1 : IntKind.i64.wrap (1 + q1) = 1 + q1 := by rw [IntKind.wrap_i64]; omega
  have hw2 : IntKind.i64.wrap (1 + r1) = 1 + r1 := by rw [IntKind.wrap_i64]; omega
  have hw3 : IntKind.i64.wrap (1 + s1) = 1 + s1 := by rw [IntKind.wrap_i64]; omega
  have hw4 : IntKind.i64.wrap (1 + n1) = 1 + n1 := by rw [IntKind.wrap_i64]; omega
  have hd0 := DB.new w dq dr ds dn dt k o lf i p ps g s st rs rr sq (.slice ao l.length cap)
  have hA0 := (Mod.refl (fun _ => False) w).alloc (.cells #[.int .i64 dq, .int .i64 dr, .int .i64 ds, .int .i64 dn, .int .i64 dt, .int .i64 k, .int .i64 o, .int .i64 lf, .int .i64 i, .int .i64 p, .int .i64 ps, .int .i64 g, .bool s, .int .i64 st, .int .i64 rs, .int .i64 rr, .int .i64 sq, (.slice ao l.length cap)] 49)
  clear Rq1 Rr1 Rs1 Rn1 Rt1 hN6
  go_enter Try.func7, Try.ntmps7
  go_wp2_with (fail)
  refine (awake _).mono ?_
  rintro e w1 ⟨rfl, hm1⟩
  have hd1 := DB.mod (S := fun _ => False) hd0 hm1 (fun h => h)
  obtain ⟨a0, a1, a2, a3, a4, a5, a6, a7, a8, a9, a10, a11, a12, a13, a14, a15, a16, a17⟩ := hd1.cells
  have hz := hd1.frz
  have hA1 := hA0.trans hm1 (V := fun _ => False) (fun _ _ h => h) (fun _ _ h => h)
  have hD2 := (hd1.i0 (1 + q1)).i1 (1 + r1)
  have hM2 := (hA1.setCell ⟨w.heap.size, 0, none⟩ (.int .i64 (1 + q1)) (.inr (Nat.le_refl _))).setCell ⟨w.heap.size, 1, none⟩ (.int .i64 (1 + r1)) (.inr (Nat.le_refl _))
  have hsz1 : w.heap.size < w1.heap.size := by have := hm1.size; simp at this; omega
  have hsz2 : ((w1.setCell ⟨w.heap.size, 0, none⟩ (.int .i64 (1 + q1))).setCell ⟨w.heap.size, 1, none⟩ (.int .i64 (1 + r1))).heap.size = w1.heap.size := by simp [World.setCell]
  go_upto_region 3 with fail
  go_cut [] from 15 to 26 (fun wx => DB wx w.heap.size (1 + q1) (1 + r1) ds dn dt k o lf i p ps g s st rs rr sq (.slice ao l.length cap) ∧ Mod (fun _ => False) w wx ∧ w.heap.size < wx.heap.size)
  case first =>
    go_region_law ((first | (refine step_bring (by rfl) _ _ q1 (by rfl) dq (by rfl) (Bq1 _) ?_) | (refine step_bring (by rfl) _ _ r1 (by rfl) dr (by rfl) (Br1 _) ?_)))
    all_goals
      go_wp2_with fail
      go_meet
      exact ⟨hD2, hM2.drew, by show w.heap.size < _; rw [show (((w1.setCell ⟨w.heap.size, 0, none⟩ (.int .i64 (1 + q1))).setCell ⟨w.heap.size, 1, none⟩ (.int .i64 (1 + r1))).drew).heap.size = w1.heap.size from hsz2]; exact hsz1⟩
  case rest =>
    obtain ⟨hd3, hM3, hsz3⟩ := hcut
    clear a0 a1 a2 a3 a4 a5 a6 a7 a8 a9 a10 a11 a12 a13 a14 a15 a16 a17 hz hd0 hA0 hA1 hD2 hM2 hm1 hd1 hsz1 hsz2
    obtain ⟨a0, a1, a2, a3, a4, a5, a6, a7, a8, a9, a10, a11, a12, a13, a14, a15, a16, a17⟩ := hd3.cells
    have hz := hd3.frz
    have hd4 := hd3.i2 (1 + s1)
    have b3 := hd4.cells.2.2.2.1
    have z4 := hd4.frz
    have hd5 := hd4.i3 (1 + n1)
    have b4 := hd5.cells.2.2.2.2.1
    have z5 := hd5.frz
    have hd6 := hd5.i4 t1
    have hM6 := ((hM3.setCell ⟨w.heap.size, 2, none⟩ (.int .i64 (1 + s1)) (.inr (Nat.le_refl _))).setCell ⟨w.heap.size, 3, none⟩ (.int .i64 (1 + n1)) (.inr (Nat.le_refl _))).setCell ⟨w.heap.size, 4, none⟩ (.int .i64 t1) (.inr (Nat.le_refl _))
    have hsz6 : w.heap.size < (((wc.setCell ⟨w.heap.size, 2, none⟩ (.int .i64 (1 + s1))).setCell ⟨w.heap.size, 3, none⟩ (.int .i64 (1 + n1))).setCell ⟨w.heap.size, 4, none⟩ (.int .i64 t1)).heap.size := by
      simp only [World.setCell, Array.size_modify]
      exact hsz3
    go_wp2_with (fail)
    refine (Bs1 _).mono ?_
    rintro e w' ⟨rfl, rfl⟩
    go_wp2_with (fail)
    refine (Bn1 _).mono ?_
    rintro e w' ⟨rfl, rfl⟩
    go_wp2_with (fail)
    refine (Bt1 _).mono ?_
    rintro e w' ⟨rfl, rfl⟩
    have hs6 := hs.mod hM6 (fun _ _ h => h)
    go_wp2_with (refine wpList_load_row info18 Try.underlying49 rfl rfl _ rfl w.heap.size rfl (Bk.mk hd6) rfl ?_; simp only [Act.put, List.setIfInBounds_toArray, List.set_cons_succ, List.set_cons_zero])
    clear a0 a1 a2 a3 a4 a5 a6 a7 a8 a9 a10 a11 a12 a13 a14 a15 a16 a17 b3 b4 z4 z5 hz hd3 hd4 hd5 hM3 hsz3
    generalize (((w'.setCell ⟨w.heap.size, 2, none⟩ (.int .i64 (1 + s1))).setCell ⟨w.heap.size, 3, none⟩ (.int .i64 (1 + n1))).setCell ⟨w.heap.size, 4, none⟩ (.int .i64 t1)) = w6 at hd6 hM6 hsz6 hs6 ⊢
    refine (HO _ hs6).mono ?_
    rintro e w7 ⟨k', o', lf', i', p', ps', g', s', st', rs', rr', sq', bv', rfl, hm7, _, hno⟩
    obtain ⟨rfl, rfl, rfl, rfl, rfl, rfl, rfl, rfl, rfl, rfl, rfl, rfl, rfl⟩ := hno (by decide)
    have hD8 := (Mod.refl (fun _ => False) w7).alloc (.cells #[.int .i64 0, .int .i64 0, .int .i64 0, .int .i64 0, .int .i64 0, .int .i64 0, .int .i64 0, .bool false, .int .i64 0, .int .i64 0, .int .i64 0, .int .i64 0, (.slice none 0 0)] 28)
    have hn8 := MB.new w7 0 0 0 0 0 0 0 false 0 0 0 0 (.slice none 0 0)
    replace hd6 := hd6.mod hm7 (fun h => h)
    replace hs6 := hs6.mod hm7 (fun _ _ h => h)
    replace hM6 := hM6.trans hm7 (V := fun _ => False) (fun _ _ h => h) (fun _ _ h => h)
    replace hd6 := hd6.mod hD8 (fun h => h)
    replace hs6 := hs6.mod hD8 (fun _ _ h => h)
    replace hM6 := hM6.trans hD8 (V := fun _ => False) (fun _ _ h => h) (fun _ _ h => h)
    clear hno HO hm7
    obtain ⟨a0, a1, a2, a3, a4, a5, a6, a7, a8, a9, a10, a11, a12, a13, a14, a15, a16, a17⟩ := hd6.cells
    go_wp2_with (fail)
    refine (HC _ hs6).mono ?_
    rintro e w9 ⟨rfl, hm9⟩
    replace hd6 := hd6.mod hm9 (fun h => h)
    replace hn8 := hn8.mod hm9 (fun h => h)
    replace hM6 := hM6.trans hm9 (V := fun _ => False) (fun _ _ h => h) (fun _ _ h => h)
    clear a0 a1 a2 a3 a4 a5 a6 a7 a8 a9 a10 a11 a12 a13 a14 a15 a16 a17
    obtain ⟨a0, a1, a2, a3, a4, a5, a6, a7, a8, a9, a10, a11, a12, a13, a14, a15, a16, a17⟩ := hd6.cells
    obtain ⟨b0, b1, b2, b3, b4, b5, b6, b7, b8, b9, b10, b11, b12⟩ := hn8.cells
    go_wp2_with (fail)
    refine (same_eq 0 0 0 0 0 0 0 false 0 0 0 0 none none 0 0 [] w9 (Own.sl (Own.nil w9) (by simp)) (Own.sl (Own.nil w9) (by simp))).mono ?_
    rintro e w10 ⟨rfl, hm10⟩
    go_wp2
    go_ret
    exact ⟨rfl, hM6.trans hm10 (V := fun _ => False) (fun _ _ h => h) (fun _ _ h => h)⟩

set_option maxRecDepth 100000 in
set_option maxHeartbeats 8000000 in
theorem again_c (dq dr ds dn dt : Int) (k o lf i p ps g : Int) (s : Bool) (st rs rr sq : Int) (ao : Option Addr) (cap : Nat) (l : List Int) (w : World) (hs : Sl w (.slice ao l.length cap) l) (iq : (-9223372036854775808 ≤ dq ∧ dq ≤ 9223372036854775807)) (ir : (-9223372036854775808 ≤ dr ∧ dr ≤ 9223372036854775807)) (is : (-9223372036854775808 ≤ ds ∧ ds ≤ 9223372036854775807)) (ino : (-9223372036854775808 ≤ dn ∧ dn ≤ 9223372036854775807)) (it : (-9223372036854775808 ≤ dt ∧ dt ≤ 9223372036854775807)) (hc : chk ⟨k, o, lf, i, p, ps, g, s, st, rs, rr, sq, l⟩ = 0) (hk5 : k ≠ 5) :
    Calls Try.prog 7 #[.agg #[.int .i64 dq, .int .i64 dr, .int .i64 ds, .int .i64 dn, .int .i64 dt, .int .i64 k, .int .i64 o, .int .i64 lf, .int .i64 i, .int .i64 p, .int .i64 ps, .int .i64 g, .bool s, .int .i64 st, .int .i64 rs, .int .i64 rr, .int .i64 sq, .slice ao l.length cap]] w fun e w' => e = .returned (.bool true) ∧ Mod (fun _ => False) w w' := by
  have Bq1 : ∀ W, Calls Try.prog 33 #[.int .i64 dq, .int .i64 9007199254740991] W fun e w' => e = .returned (.int .i64 (br dq 9007199254740991)) ∧ w' = W := fun W => bring dq 9007199254740991 W (by omega) (by omega) iq
  have Rq1 : 0 ≤ br dq 9007199254740991 ∧ br dq 9007199254740991 < 9007199254740991 := by
    obtain ⟨x1, x2, _, _⟩ := br_rng dq 9007199254740991 (by omega)
    exact ⟨x1, x2⟩
  generalize br dq 9007199254740991 = q1 at Bq1 Rq1
  have Br1 : ∀ W, Calls Try.prog 33 #[.int .i64 dr, .int .i64 8] W fun e w' => e = .returned (.int .i64 (br dr 8)) ∧ w' = W := fun W => bring dr 8 W (by omega) (by omega) ir
  have Rr1 : 0 ≤ br dr 8 ∧ br dr 8 < 8 := by
    obtain ⟨x1, x2, _, _⟩ := br_rng dr 8 (by omega)
    exact ⟨x1, x2⟩
  generalize br dr 8 = r1 at Br1 Rr1
  have Bs1 : ∀ W, Calls Try.prog 33 #[.int .i64 ds, .int .i64 9007199254740991] W fun e w' => e = .returned (.int .i64 (br ds 9007199254740991)) ∧ w' = W := fun W => bring ds 9007199254740991 W (by omega) (by omega) is
  have Rs1 : 0 ≤ br ds 9007199254740991 ∧ br ds 9007199254740991 < 9007199254740991 := by
    obtain ⟨x1, x2, _, _⟩ := br_rng ds 9007199254740991 (by omega)
    exact ⟨x1, x2⟩
  generalize br ds 9007199254740991 = s1 at Bs1 Rs1
  have Bn1 : ∀ W, Calls Try.prog 33 #[.int .i64 dn, .int .i64 8] W fun e w' => e = .returned (.int .i64 (br dn 8)) ∧ w' = W := fun W => bring dn 8 W (by omega) (by omega) ino
  have Rn1 : 0 ≤ br dn 8 ∧ br dn 8 < 8 := by
    obtain ⟨x1, x2, _, _⟩ := br_rng dn 8 (by omega)
    exact ⟨x1, x2⟩
  generalize br dn 8 = n1 at Bn1 Rn1
  have Bt1 : ∀ W, Calls Try.prog 33 #[.int .i64 dt, .int .i64 9007199254740992] W fun e w' => e = .returned (.int .i64 (br dt 9007199254740992)) ∧ w' = W := fun W => bring dt 9007199254740992 W (by omega) (by omega) it
  have Rt1 : 0 ≤ br dt 9007199254740992 ∧ br dt 9007199254740992 < 9007199254740992 := by
    obtain ⟨x1, x2, _, _⟩ := br_rng dt 9007199254740992 (by omega)
    exact ⟨x1, x2⟩
  generalize br dt 9007199254740992 = t1 at Bt1 Rt1
  have hN1 : nd (1 + n1) = true := by simp only [nd, decide_eq_true_eq]; omega
  have hN2 : nm t1 = true := by simp only [nm, decide_eq_true_eq]; omega
  have hN3 : nm (1 + s1) = true := by simp only [nm, decide_eq_true_eq]; omega
  have hN4 : isr (1 + q1) (1 + r1) = true := by
    have : cr (1 + q1) (1 + r1) = 0 := by rw [cr, if_pos]; omega
    simp only [isr, this, Bool.and_eq_true, decide_eq_true_eq, beq_self_eq_true, and_true]
    omega
  have hN5 : 0 < 1 + s1 := by omega
  have hN6 : 0 < 1 + q1 ∧ 1 + q1 ≤ 9007199254740991 ∧ 1 ≤ 1 + r1 ∧ 1 + r1 ≤ 8 := isr_nums hN4
  have hch := (old_chk (s := t1) (q := 1 + q1) (r := 1 + r1) (n := 1 + s1) (sn := 1 + n1) hs.rng hc).2 ⟨hN1, hN2, hN3, hN4, hN5, hk5⟩
  have h5 : od5 t1 (1 + q1) (1 + r1) (1 + s1) (1 + n1) ⟨k, o, lf, i, p, ps, g, s, st, rs, rr, sq, l⟩ = Ms.mk 5 (1 + n1) 0 (1 + n1) 0 0 0 false t1 (1 + q1) (1 + r1) (1 + s1) (pk ⟨k, o, lf, i, p, ps, g, s, st, rs, rr, sq, l⟩) := rfl
  rw [h5] at hch
  have hol : olE t1 (1 + q1) (1 + r1) (1 + s1) (1 + n1) ⟨k, o, lf, i, p, ps, g, s, st, rs, rr, sq, l⟩ = 0 := by
    unfold olE
    rw [h5, if_pos ⟨hc, hch⟩]
  have HO := fun W h => Old_any (1 + q1) (1 + r1) (1 + s1) (1 + n1) t1 k o lf i p ps g s st rs rr sq ao cap l W h
  rw [hol] at HO
  have HC := fun W h => Check_any k o lf i p ps g s st rs rr sq ao cap l W h
  rw [hc] at HC
  have hk5b : (k == 5) = false := by simp [hk5]
  have hrl := hs.rng
  have hrB := pk_rng ⟨k, o, lf, i, p, ps, g, s, st, rs, rr, sq, l⟩ hrl
  obtain ⟨u1, u2⟩ := un_pk0 hc
  generalize hB : pk ⟨k, o, lf, i, p, ps, g, s, st, rs, rr, sq, l⟩ = B at HO hch hrB u1 u2
  have HI := fun a c W h => Inner_any 5 (1 + n1) 0 (1 + n1) 0 0 0 false t1 (1 + q1) (1 + r1) (1 + s1) a c B W h
  have hin : inE (Ms.mk 5 (1 + n1) 0 (1 + n1) 0 0 0 false t1 (1 + q1) (1 + r1) (1 + s1) B) = 0 := by unfold inE; rw [if_pos ⟨rfl, hch⟩]
  rw [hin, u1] at HI
  have HP := fun a c W h => Pack_any 5 (1 + n1) 0 (1 + n1) 0 0 0 false t1 (1 + q1) (1 + r1) (1 + s1) a c B W h
  rw [hch] at HP
  obtain ⟨p1, p2⟩ := un_pk0 hch
  have hrP := pk_rng (Ms.mk 5 (1 + n1) 0 (1 + n1) 0 0 0 false t1 (1 + q1) (1 + r1) (1 + s1) B) hrB
  have hlP : (pk (Ms.mk 5 (1 + n1) 0 (1 + n1) 0 0 0 false t1 (1 + q1) (1 + r1) (1 + s1) B)).length ≤ 140737488355328 := by
    have h1 := pk_len (Ms.mk 5 (1 + n1) 0 (1 + n1) 0 0 0 false t1 (1 + q1) (1 + r1) (1 + s1) B)
    have h2 := (chk_parts hch).1
    dsimp only at h1 h2
    omega
  generalize pk (Ms.mk 5 (1 + n1) 0 (1 + n1) 0 0 0 false t1 (1 + q1) (1 + r1) (1 + s1) B) = B5 at HP p1 p2 hrP hlP
  have HU := fun v W h => Unpack_any v B5 W h hlP
  unfold Unp at HU
  rw [p1, p2] at HU
  have hol2 : olE 0 (1 + q1) (1 + r1) 1 1 (Ms.mk 5 (1 + n1) 0 (1 + n1) 0 0 0 false t1 (1 + q1) (1 + r1) (1 + s1) B) = 2 := by
    unfold olE
    rw [if_neg]
    rintro ⟨h1, h2⟩
    exact ((old_chk hrB h1).1 h2).2.2.2.2.2 rfl
  have HO2 := fun a c W h => Old_any (1 + q1) (1 + r1) 1 1 0 5 (1 + n1) 0 (1 + n1) 0 0 0 false t1 (1 + q1) (1 + r1) (1 + s1) a c B W h
  rw [hol2] at HO2
  have ER : ∀ W, (Op.equalIn 10000 23 (.agg #[.int .i64 (1 + q1), .int .i64 (1 + r1)]) (.agg #[.int .i64 (1 + q1), .int .i64 (1 + r1)])).run Try.prog W = .ok true W := fun W => by
    have := eqRing (1 + q1) (1 + r1) (1 + q1) (1 + r1) W
    simpa using this
  dsimp only at HI HU
  clear hol hol2 hch h5 hin u1 u2 p1 p2 hlP hB hc hk5 hN1 hN2 hN3 hN4 hN5
  have hw1 : IntKind.i64.wrap (1 + q1) = 1 + q1 := by rw [IntKind.wrap_i64]; omega
  have hw2 : IntKind.i64.wrap (1 + r1) = 1 + r1 := by rw [IntKind.wrap_i64]; omega
  have hw3 : IntKind.i64.wrap (1 + s1) = 1 + s1 := by rw [IntKind.wrap_i64]; omega
  have hw4 : IntKind.i64.wrap (1 + n1) = 1 + n1 := by rw [IntKind.wrap_i64]; omega
  have hd0 := DB.new w dq dr ds dn dt k o lf i p ps g s st rs rr sq (.slice ao l.length cap)
  have hA0 := (Mod.refl (fun _ => False) w).alloc (.cells #[.int .i64 dq, .int .i64 dr, .int .i64 ds, .int .i64 dn, .int .i64 dt, .int .i64 k, .int .i64 o, .int .i64 lf, .int .i64 i, .int .i64 p, .int .i64 ps, .int .i64 g, .bool s, .int .i64 st, .int .i64 rs, .int .i64 rr, .int .i64 sq, (.slice ao l.length cap)] 49)
  clear Rq1 Rr1 Rs1 Rn1 Rt1 hN6
  go_enter Try.func7, Try.ntmps7
  go_wp2_with (fail)
  refine (awake _).mono ?_
  rintro e w1 ⟨rfl, hm1⟩
  have hd1 := DB.mod (S := fun _ => False) hd0 hm1 (fun h => h)
  obtain ⟨a0, a1, a2, a3, a4, a5, a6, a7, a8, a9, a10, a11, a12, a13, a14, a15, a16, a17⟩ := hd1.cells
  have hz := hd1.frz
  have hA1 := hA0.trans hm1 (V := fun _ => False) (fun _ _ h => h) (fun _ _ h => h)
  have hD2 := (hd1.i0 (1 + q1)).i1 (1 + r1)
  have hM2 := (hA1.setCell ⟨w.heap.size, 0, none⟩ (.int .i64 (1 + q1)) (.inr (Nat.le_refl _))).setCell ⟨w.heap.size, 1, none⟩ (.int .i64 (1 + r1)) (.inr (Nat.le_refl _))
  have hsz1 : w.heap.size < w1.heap.size := by have := hm1.size; simp at this; omega
  have hsz2 : ((w1.setCell ⟨w.heap.size, 0, none⟩ (.int .i64 (1 + q1))).setCell ⟨w.heap.size, 1, none⟩ (.int .i64 (1 + r1))).heap.size = w1.heap.size := by simp [World.setCell]
  go_upto_region 3 with fail
  go_cut [] from 15 to 26 (fun wx => DB wx w.heap.size (1 + q1) (1 + r1) ds dn dt k o lf i p ps g s st rs rr sq (.slice ao l.length cap) ∧ Mod (fun _ => False) w wx ∧ w.heap.size < wx.heap.size)
  case first =>
    go_region_law ((first | (refine step_bring (by rfl) _ _ q1 (by rfl) dq (by rfl) (Bq1 _) ?_) | (refine step_bring (by rfl) _ _ r1 (by rfl) dr (by rfl) (Br1 _) ?_)))
    all_goals
      go_wp2_with fail
      go_meet
      exact ⟨hD2, hM2.drew, by show w.heap.size < _; rw [show (((w1.setCell ⟨w.heap.size, 0, none⟩ (.int .i64 (1 + q1))).setCell ⟨w.heap.size, 1, none⟩ (.int .i64 (1 + r1))).drew).heap.size = w1.heap.size from hsz2]; exact hsz1⟩
  case rest =>
    obtain ⟨hd3, hM3, hsz3⟩ := hcut
    clear a0 a1 a2 a3 a4 a5 a6 a7 a8 a9 a10 a11 a12 a13 a14 a15 a16 a17 hz hd0 hA0 hA1 hD2 hM2 hm1 hd1 hsz1 hsz2
    obtain ⟨a0, a1, a2, a3, a4, a5, a6, a7, a8, a9, a10, a11, a12, a13, a14, a15, a16, a17⟩ := hd3.cells
    have hz := hd3.frz
    have hd4 := hd3.i2 (1 + s1)
    have b3 := hd4.cells.2.2.2.1
    have z4 := hd4.frz
    have hd5 := hd4.i3 (1 + n1)
    have b4 := hd5.cells.2.2.2.2.1
    have z5 := hd5.frz
    have hd6 := hd5.i4 t1
    have hM6 := ((hM3.setCell ⟨w.heap.size, 2, none⟩ (.int .i64 (1 + s1)) (.inr (Nat.le_refl _))).setCell ⟨w.heap.size, 3, none⟩ (.int .i64 (1 + n1)) (.inr (Nat.le_refl _))).setCell ⟨w.heap.size, 4, none⟩ (.int .i64 t1) (.inr (Nat.le_refl _))
    have hsz6 : w.heap.size < (((wc.setCell ⟨w.heap.size, 2, none⟩ (.int .i64 (1 + s1))).setCell ⟨w.heap.size, 3, none⟩ (.int .i64 (1 + n1))).setCell ⟨w.heap.size, 4, none⟩ (.int .i64 t1)).heap.size := by
      simp only [World.setCell, Array.size_modify]
      exact hsz3
    go_wp2_with (fail)
    refine (Bs1 _).mono ?_
    rintro e w' ⟨rfl, rfl⟩
    go_wp2_with (fail)
    refine (Bn1 _).mono ?_
    rintro e w' ⟨rfl, rfl⟩
    go_wp2_with (fail)
    refine (Bt1 _).mono ?_
    rintro e w' ⟨rfl, rfl⟩
    have hs6 := hs.mod hM6 (fun _ _ h => h)
    go_wp2_with (refine wpList_load_row info18 Try.underlying49 rfl rfl _ rfl w.heap.size rfl (Bk.mk hd6) rfl ?_; simp only [Act.put, List.setIfInBounds_toArray, List.set_cons_succ, List.set_cons_zero])
    clear a0 a1 a2 a3 a4 a5 a6 a7 a8 a9 a10 a11 a12 a13 a14 a15 a16 a17 b3 b4 z4 z5 hz hd3 hd4 hd5 hM3 hsz3
    generalize (((w'.setCell ⟨w.heap.size, 2, none⟩ (.int .i64 (1 + s1))).setCell ⟨w.heap.size, 3, none⟩ (.int .i64 (1 + n1))).setCell ⟨w.heap.size, 4, none⟩ (.int .i64 t1)) = w6 at hd6 hM6 hsz6 hs6 ⊢
    refine (HO _ hs6).mono ?_
    rintro e w7 ⟨k', o', lf', i', p', ps', g', s', st', rs', rr', sq', bv', rfl, hm7, hok, _⟩
    obtain ⟨⟨rfl, rfl, rfl, rfl, rfl, rfl, rfl, rfl, e8, rfl, rfl, rfl⟩, ho7, _⟩ := hok trivial
    have e8' := e8.symm
    clear e8
    subst e8'
    obtain ⟨ao7, cap7, rfl⟩ := ho7.shape
    have hD8 := (Mod.refl (fun _ => False) w7).alloc (.cells #[.int .i64 5, .int .i64 (1 + n1), .int .i64 0, .int .i64 (1 + n1), .int .i64 0, .int .i64 0, .int .i64 0, .bool false, .int .i64 t1, .int .i64 (1 + q1), .int .i64 (1 + r1), .int .i64 (1 + s1), (.slice ao7 B.length cap7)] 28)
    have hn8 := MB.new w7 5 (1 + n1) 0 (1 + n1) 0 0 0 false t1 (1 + q1) (1 + r1) (1 + s1) (.slice ao7 B.length cap7)
    replace hd6 := hd6.mod hm7 (fun h => h)
    replace hs6 := hs6.mod hm7 (fun _ _ h => h)
    replace hM6 := hM6.trans hm7 (V := fun _ => False) (fun _ _ h => h) (fun _ _ h => h)
    replace hd6 := hd6.mod hD8 (fun h => h)
    replace hs6 := hs6.mod hD8 (fun _ _ h => h)
    replace hM6 := hM6.trans hD8 (V := fun _ => False) (fun _ _ h => h) (fun _ _ h => h)
    replace ho7 := ho7.mod hD8 (fun _ _ h => h)
    clear hok HO hm7 hD8
    obtain ⟨a0, a1, a2, a3, a4, a5, a6, a7, a8, a9, a10, a11, a12, a13, a14, a15, a16, a17⟩ := hd6.cells
    go_wp2_with (fail)
    refine (HC _ hs6).mono ?_
    rintro e w9 ⟨rfl, hm9⟩
    replace hd6 := hd6.mod hm9 (fun h => h)
    replace hn8 := hn8.mod hm9 (fun h => h)
    replace hM6 := hM6.trans hm9 (V := fun _ => False) (fun _ _ h => h) (fun _ _ h => h)
    replace ho7 := ho7.mod hm9 (fun _ _ h => h)
    replace hs6 := hs6.mod hm9 (fun _ _ h => h)
    clear a0 a1 a2 a3 a4 a5 a6 a7 a8 a9 a10 a11 a12 a13 a14 a15 a16 a17 HC hm9
    obtain ⟨a0, a1, a2, a3, a4, a5, a6, a7, a8, a9, a10, a11, a12, a13, a14, a15, a16, a17⟩ := hd6.cells
    obtain ⟨b0, b1, b2, b3, b4, b5, b6, b7, b8, b9, b10, b11, b12⟩ := hn8.cells
    go_wp2_with (fail)
    refine (HI _ _ _ (ho7.sl hrB)).mono ?_
    rintro e w10 ⟨x0, x1, x2, x3, x4, x5, x6, x7, x8, x9, x10, x11, x12, x13, x14, x15, x16, x17, rfl, hm10, hok10, _⟩
    obtain ⟨⟨rfl, rfl, rfl, rfl, e4⟩, he, ho10, _⟩ := hok10 trivial
    have e4' := e4.symm
    clear e4
    subst e4'
    simp only [Ms.mk.injEq] at he
    obtain ⟨rfl, rfl, rfl, rfl, rfl, rfl, rfl, rfl, rfl, rfl, rfl, rfl, _⟩ := he
    obtain ⟨ao10, cap10, rfl⟩ := ho10.shape
    go_upto_region 11 with (refine wpList_store_row info18 rfl rfl _ _ rfl w10.heap.size #[.int .i64 (1 + q1), .int .i64 (1 + r1), .int .i64 (1 + s1), .int .i64 (1 + n1), .int .i64 t1, .int .i64 x5, .int .i64 x6, .int .i64 x7, .int .i64 x8, .int .i64 x9, .int .i64 x10, .int .i64 x11, .bool x12, .int .i64 x13, .int .i64 x14, .int .i64 x15, .int .i64 x16, (.slice ao10 l.length cap10)] rfl rfl (Bk.new w10 #[.int .i64 0, .int .i64 0, .int .i64 0, .int .i64 0, .int .i64 0, .int .i64 0, .int .i64 0, .int .i64 0, .int .i64 0, .int .i64 0, .int .i64 0, .int .i64 0, .bool false, .int .i64 0, .int .i64 0, .int .i64 0, .int .i64 0, (.slice none 0 0)] 49) rfl rfl rfl ?_; intro w11 hB11 hM11)
    have hD11 : Mod (fun _ => False) w10 w11 := ((Mod.refl (fun _ => False) w10).alloc (.cells #[.int .i64 0, .int .i64 0, .int .i64 0, .int .i64 0, .int .i64 0, .int .i64 0, .int .i64 0, .int .i64 0, .int .i64 0, .int .i64 0, .int .i64 0, .int .i64 0, .bool false, .int .i64 0, .int .i64 0, .int .i64 0, .int .i64 0, (.slice none 0 0)] 49)).trans hM11 (fun _ _ h => h) (fun _ hi h => by omega)
    have hn11 : DB w11 w10.heap.size (1 + q1) (1 + r1) (1 + s1) (1 + n1) t1 x5 x6 x7 x8 x9 x10 x11 x12 x13 x14 x15 x16 (.slice ao10 l.length cap10) := hB11.at'
    clear hB11 hM11
    replace hd6 := hd6.mod hm10 (fun h => h)
    replace hn8 := hn8.mod hm10 (fun h => h)
    replace hM6 := hM6.trans hm10 (V := fun _ => False) (fun _ _ h => h) (fun _ _ h => h)
    replace ho7 := ho7.mod hm10 (fun _ _ h => h)
    replace hs6 := hs6.mod hm10 (fun _ _ h => h)
    replace hd6 := hd6.mod hD11 (fun h => h)
    replace hn8 := hn8.mod hD11 (fun h => h)
    replace hM6 := hM6.trans hD11 (V := fun _ => False) (fun _ _ h => h) (fun _ _ h => h)
    replace ho7 := ho7.mod hD11 (fun _ _ h => h)
    replace hs6 := hs6.mod hD11 (fun _ _ h => h)
    replace ho10 := ho10.mod hD11 (fun _ _ h => h)
    clear a0 a1 a2 a3 a4 a5 a6 a7 a8 a9 a10 a11 a12 a13 a14 a15 a16 a17 b0 b1 b2 b3 b4 b5 b6 b7 b8 b9 b10 b11 b12 hok10 HI hm10 hD11
    obtain ⟨b0, b1, b2, b3, b4, b5, b6, b7, b8, b9, b10, b11, b12⟩ := hn8.cells
    go_wp2_with (fail)
    refine (HP _ _ _ (ho7.sl hrB)).mono ?_
    rintro e w12 ⟨v12, rfl, hm12, hok12, _⟩
    obtain ⟨ho12, _⟩ := hok12 trivial
    replace hd6 := hd6.mod hm12 (fun h => h)
    replace hn8 := hn8.mod hm12 (fun h => h)
    replace hn11 := hn11.mod hm12 (fun h => h)
    replace hM6 := hM6.trans hm12 (V := fun _ => False) (fun _ _ h => h) (fun _ _ h => h)
    replace ho7 := ho7.mod hm12 (fun _ _ h => h)
    replace hs6 := hs6.mod hm12 (fun _ _ h => h)
    replace ho10 := ho10.mod hm12 (fun _ _ h => h)
    clear b0 b1 b2 b3 b4 b5 b6 b7 b8 b9 b10 b11 b12 hok12 HP hm12
    go_wp2_with (fail)
    refine (HU _ _ (ho12.sl hrP)).mono ?_
    rintro e w13 ⟨y0, y1, y2, y3, y4, y5, y6, y7, y8, y9, y10, y11, y12, rfl, hm13, hok13, _⟩
    obtain ⟨he, ho13, _⟩ := hok13 trivial
    simp only [Ms.mk.injEq] at he
    obtain ⟨rfl, rfl, rfl, rfl, rfl, rfl, rfl, rfl, e8, rfl, rfl, rfl, _⟩ := he
    have e8' := e8.symm
    clear e8
    subst e8'
    obtain ⟨ao13, cap13, rfl⟩ := ho13.shape
    have hD14 := (Mod.refl (fun _ => False) w13).alloc (.cells #[.int .i64 5, .int .i64 (1 + n1), .int .i64 0, .int .i64 (1 + n1), .int .i64 0, .int .i64 0, .int .i64 0, .bool false, .int .i64 t1, .int .i64 (1 + q1), .int .i64 (1 + r1), .int .i64 (1 + s1), (.slice ao13 B.length cap13)] 28)
    have hn14 := MB.new w13 5 (1 + n1) 0 (1 + n1) 0 0 0 false t1 (1 + q1) (1 + r1) (1 + s1) (.slice ao13 B.length cap13)
    replace hd6 := hd6.mod hm13 (fun h => h)
    replace hn8 := hn8.mod hm13 (fun h => h)
    replace hn11 := hn11.mod hm13 (fun h => h)
    replace hM6 := hM6.trans hm13 (V := fun _ => False) (fun _ _ h => h) (fun _ _ h => h)
    replace ho7 := ho7.mod hm13 (fun _ _ h => h)
    replace hs6 := hs6.mod hm13 (fun _ _ h => h)
    replace ho10 := ho10.mod hm13 (fun _ _ h => h)
    replace hd6 := hd6.mod hD14 (fun h => h)
    replace hn8 := hn8.mod hD14 (fun h => h)
    replace hn11 := hn11.mod hD14 (fun h => h)
    replace hM6 := hM6.trans hD14 (V := fun _ => False) (fun _ _ h => h) (fun _ _ h => h)
    replace ho7 := ho7.mod hD14 (fun _ _ h => h)
    replace hs6 := hs6.mod hD14 (fun _ _ h => h)
    replace ho10 := ho10.mod hD14 (fun _ _ h => h)
    replace ho13 := ho13.mod hD14 (fun _ _ h => h)
    clear hok13 HU hm13 hD14 ho12
    obtain ⟨a0, a1, a2, a3, a4, a5, a6, a7, a8, a9, a10, a11, a12, a13, a14, a15, a16, a17⟩ := hd6.cells
    obtain ⟨b0, b1, b2, b3, b4, b5, b6, b7, b8, b9, b10, b11, b12⟩ := hn8.cells
    go_wp2_with (fail)
    refine (HO2 _ _ _ (ho7.sl hrB)).mono ?_
    rintro e w15 ⟨z0, z1, z2, z3, z4, z5, z6, z7, z8, z9, z10, z11, z12, rfl, hm15, _, hno15⟩
    obtain ⟨rfl, rfl, rfl, rfl, rfl, rfl, rfl, rfl, rfl, rfl, rfl, rfl, rfl⟩ := hno15 (by decide)
    have hD16 := (Mod.refl (fun _ => False) w15).alloc (.cells #[.int .i64 0, .int .i64 0, .int .i64 0, .int .i64 0, .int .i64 0, .int .i64 0, .int .i64 0, .bool false, .int .i64 0, .int .i64 0, .int .i64 0, .int .i64 0, (.slice none 0 0)] 28)
    replace hd6 := hd6.mod hm15 (fun h => h)
    replace hn8 := hn8.mod hm15 (fun h => h)
    replace hn11 := hn11.mod hm15 (fun h => h)
    replace hn14 := hn14.mod hm15 (fun h => h)
    replace hM6 := hM6.trans hm15 (V := fun _ => False) (fun _ _ h => h) (fun _ _ h => h)
    replace ho7 := ho7.mod hm15 (fun _ _ h => h)
    replace hs6 := hs6.mod hm15 (fun _ _ h => h)
    replace ho10 := ho10.mod hm15 (fun _ _ h => h)
    replace ho13 := ho13.mod hm15 (fun _ _ h => h)
    replace hd6 := hd6.mod hD16 (fun h => h)
    replace hn8 := hn8.mod hD16 (fun h => h)
    replace hn11 := hn11.mod hD16 (fun h => h)
    replace hn14 := hn14.mod hD16 (fun h => h)
    replace hM6 := hM6.trans hD16 (V := fun _ => False) (fun _ _ h => h) (fun _ _ h => h)
    replace ho7 := ho7.mod hD16 (fun _ _ h => h)
    replace hs6 := hs6.mod hD16 (fun _ _ h => h)
    replace ho10 := ho10.mod hD16 (fun _ _ h => h)
    replace ho13 := ho13.mod hD16 (fun _ _ h => h)
    clear a0 a1 a2 a3 a4 a5 a6 a7 a8 a9 a10 a11 a12 a13 a14 a15 a16 a17 b0 b1 b2 b3 b4 b5 b6 b7 b8 b9 b10 b11 b12 hno15 HO2 hm15 hD16
    obtain ⟨b0, b1, b2, b3, b4, b5, b6, b7, b8, b9, b10, b11, b12⟩ := hn8.cells
    obtain ⟨c0, c1, c2, c3, c4, c5, c6, c7, c8, c9, c10, c11, c12⟩ := hn14.cells
    go_wp2_with (fail)
    refine (same_eq 5 (1 + n1) 0 (1 + n1) 0 0 0 false t1 (1 + q1) (1 + r1) (1 + s1) ao13 ao7 cap13 cap7 B _ (ho13.sl hrB) (ho7.sl hrB)).mono ?_
    rintro e w17 ⟨rfl, hm17⟩
    replace hd6 := hd6.mod hm17 (fun h => h)
    replace hn11 := hn11.mod hm17 (fun h => h)
    replace hM6 := hM6.trans hm17 (V := fun _ => False) (fun _ _ h => h) (fun _ _ h => h)
    replace hs6 := hs6.mod hm17 (fun _ _ h => h)
    replace ho10 := ho10.mod hm17 (fun _ _ h => h)
    clear b0 b1 b2 b3 b4 b5 b6 b7 b8 b9 b10 b11 b12 c0 c1 c2 c3 c4 c5 c6 c7 c8 c9 c10 c11 c12 hn8 hn14 ho7 ho13 hm17
    obtain ⟨a0, a1, a2, a3, a4, a5, a6, a7, a8, a9, a10, a11, a12, a13, a14, a15, a16, a17⟩ := hd6.cells
    obtain ⟨b0, b1, b2, b3, b4, b5, b6, b7, b8, b9, b10, b11, b12, b13, b14, b15, b16, b17⟩ := hn11.cells
    go_wp2_with (fail)
    refine (same_eq x5 x6 x7 x8 x9 x10 x11 x12 x13 x14 x15 x16 ao10 ao cap10 cap l _ (ho10.sl hrl) hs6).mono ?_
    rintro e w18 ⟨rfl, hm18⟩
    go_wp2
    go_ret
    exact ⟨rfl, hM6.trans hm18 (V := fun _ => False) (fun _ _ h => h) (fun _ _ h => h)⟩

theorem again_walk (dq dr ds dn dt : Int) (k o lf i p ps g : Int) (s : Bool) (st rs rr sq : Int) (ao : Option Addr) (cap : Nat) (l : List Int) (w : World) (hs : Sl w (.slice ao l.length cap) l) (iq : (-9223372036854775808 ≤ dq ∧ dq ≤ 9223372036854775807)) (ir : (-9223372036854775808 ≤ dr ∧ dr ≤ 9223372036854775807)) (is : (-9223372036854775808 ≤ ds ∧ ds ≤ 9223372036854775807)) (ino : (-9223372036854775808 ≤ dn ∧ dn ≤ 9223372036854775807)) (it : (-9223372036854775808 ≤ dt ∧ dt ≤ 9223372036854775807)) :
    Calls Try.prog 7 #[.agg #[.int .i64 dq, .int .i64 dr, .int .i64 ds, .int .i64 dn, .int .i64 dt, .int .i64 k, .int .i64 o, .int .i64 lf, .int .i64 i, .int .i64 p, .int .i64 ps, .int .i64 g, .bool s, .int .i64 st, .int .i64 rs, .int .i64 rr, .int .i64 sq, .slice ao l.length cap]] w fun e w' => e = .returned (.bool true) ∧ Mod (fun _ => False) w w' := by
  by_cases hc : chk ⟨k, o, lf, i, p, ps, g, s, st, rs, rr, sq, l⟩ = 0
  · by_cases hk : k = 5
    · exact again_b dq dr ds dn dt k o lf i p ps g s st rs rr sq ao cap l w hs iq ir is ino it hc hk
    · exact again_c dq dr ds dn dt k o lf i p ps g s st rs rr sq ao cap l w hs iq ir is ino it hc hk
  · exact again_a dq dr ds dn dt k o lf i p ps g s st rs rr sq ao cap l w hs iq ir is ino it hc
end Go.Proofs.Ytajhpnfpjickbaa
