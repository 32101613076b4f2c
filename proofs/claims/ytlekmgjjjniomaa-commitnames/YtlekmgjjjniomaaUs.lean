/- The document's ring, number and commit. Conditions: sizes that a slice has. -/
import Derived.Test.YtlekmgjjjniomaaUh
import Derived.Test.YtlekmgjjjniomaaRge
namespace Go.Proofs.Ytlekmgjjjniomaa
open Go.RowKit
theorem dNum (n : Int) (w : World) : Calls Try.prog 56 #[.int .i64 n] w fun e w' => e = .returned (.bool (nm n)) ∧ w' = w := by
  have h : 0 ≤ n ∨ n < 0 := by omega
  rcases h with h | h
  all_goals
    go_enter Try.func56, Try.ntmps56
    go_wp2
    go_ret
    refine ⟨?_, rfl⟩
    simp [nm]
    try omega
theorem dRing (q r : Int) (w : World) : Calls Try.prog 55 #[.agg #[.int .i64 q, .int .i64 r]] w fun e w' => e = .returned (.bool (isr q r)) ∧ Mod (fun _ => False) w w' := by
  have hA := (Mod.refl (fun _ => False) w).alloc (.cells #[.int .i64 q, .int .i64 r] 23)
  have H := RCheckRing q r
  have ER := eqRing q r 0 0
  have hi : isr q r = (!(decide (q = 0) && decide (r = 0)) && (cr q r == 0)) := by
    rw [isr, Bool.eq_iff_iff]
    simp
  rw [hi]
  generalize (decide (q = 0) && decide (r = 0)) = z at ER ⊢
  generalize cr q r = c at H ⊢
  clear hi
  cases z
  · by_cases hc : c = 0
    · subst hc
      go_enter Try.func55, Try.ntmps55
      go_wp2_with (fail)
      refine (H _).mono ?_
      rintro e w1 ⟨rfl, hm1⟩
      go_wp2
      go_ret
      exact ⟨rfl, hA.and hm1⟩
    · have hcb : (c == 0) = false := by simp [hc]
      rw [hcb]
      go_enter Try.func55, Try.ntmps55
      go_wp2_with (fail)
      refine (H _).mono ?_
      rintro e w1 ⟨rfl, hm1⟩
      go_wp2
      go_ret
      exact ⟨rfl, hA.and hm1⟩
  · go_enter Try.func55, Try.ntmps55
    go_wp2
    go_ret
    exact ⟨rfl, hA⟩
theorem rd5_len24 {o : Oper} {w : World} {ρ : Operand → Value} {x : Operand} (ho : o.op = .call { callee := .builtin .len, args := #[x], argTypes := #[24] }) {ao : Option Addr} {n c : Nat} (hx : ρ x = .slice ao n c) : (execOp ρ o).run Try.prog w = .ok (.value (.int .i64 (n : Int))) w := by
  simp [execOp, ho, resolve, invoke, hx, go_sem]
/-- What is said of a slot. -/
def p_rd5 (g lb : Nat) (lo N lcap le ccap rq : Nat) (cao : Option Addr) (_mm _rs rr hp tw l0 lr : Int) (i : Nat) (v : Value) (_w : World) : Prop :=
  match i with
  | 0 => v = .pointer (some ⟨g, 0, none⟩)
  | 1 => v = .pointer (some ⟨g, 1, none⟩)
  | 2 => v = .int .i64 rr
  | 3 => v = .slice (some ⟨lb, lo, none⟩) N lcap
  | 4 => v = .pointer (some ⟨lb, lo, none⟩)
  | 5 => v = .int .i64 l0
  | 6 => v = .bool (rr != l0)
  | 7 => v = .bool (rr != l0)
  | 8 => v = if (!(rr != l0)) = true then .pointer (some ⟨g, 3, none⟩) else undef
  | 9 => v = if (!(rr != l0)) = true then .int .i64 hp else undef
  | 10 => v = if (!(rr != l0)) = true then .bool (decide (hp < 1)) else undef
  | 11 => v = .bool ((rr != l0) || (decide (hp < 1)))
  | 12 => v = .bool ((rr != l0) || (decide (hp < 1)))
  | 13 => v = if (!((rr != l0) || (decide (hp < 1)))) = true then .pointer (some ⟨g, 3, none⟩) else undef
  | 14 => v = if (!((rr != l0) || (decide (hp < 1)))) = true then .int .i64 hp else undef
  | 15 => v = if (!((rr != l0) || (decide (hp < 1)))) = true then .int .i64 (N : Int) else undef
  | 16 => v = if (!((rr != l0) || (decide (hp < 1)))) = true then .int .i64 (IntKind.i64.wrap ((2 : Int) * (N : Int))) else undef
  | 17 => v = if (!((rr != l0) || (decide (hp < 1)))) = true then .bool (decide ((IntKind.i64.wrap ((2 : Int) * (N : Int))) < hp)) else undef
  | 18 => v = .bool (((rr != l0) || (decide (hp < 1))) || (decide ((IntKind.i64.wrap ((2 : Int) * (N : Int))) < hp)))
  | 19 => v = .bool (((rr != l0) || (decide (hp < 1))) || (decide ((IntKind.i64.wrap ((2 : Int) * (N : Int))) < hp)))
  | 20 => v = if (!(((rr != l0) || (decide (hp < 1))) || (decide ((IntKind.i64.wrap ((2 : Int) * (N : Int))) < hp)))) = true then .pointer (some ⟨g, 4, none⟩) else undef
  | 21 => v = if (!(((rr != l0) || (decide (hp < 1))) || (decide ((IntKind.i64.wrap ((2 : Int) * (N : Int))) < hp)))) = true then .slice cao le ccap else undef
  | 22 => v = if (!(((rr != l0) || (decide (hp < 1))) || (decide ((IntKind.i64.wrap ((2 : Int) * (N : Int))) < hp)))) = true then .int .i64 (le : Int) else undef
  | 23 => v = if (!(((rr != l0) || (decide (hp < 1))) || (decide ((IntKind.i64.wrap ((2 : Int) * (N : Int))) < hp)))) = true then .pointer (some ⟨g, 3, none⟩) else undef
  | 24 => v = if (!(((rr != l0) || (decide (hp < 1))) || (decide ((IntKind.i64.wrap ((2 : Int) * (N : Int))) < hp)))) = true then .int .i64 hp else undef
  | 25 => v = if (!(((rr != l0) || (decide (hp < 1))) || (decide ((IntKind.i64.wrap ((2 : Int) * (N : Int))) < hp)))) = true then .int .i64 (N : Int) else undef
  | 26 => v = if (!(((rr != l0) || (decide (hp < 1))) || (decide ((IntKind.i64.wrap ((2 : Int) * (N : Int))) < hp)))) = true then .int .i64 (if (N : Int) < hp then (N : Int) else hp) else undef
  | 27 => v = if (!(((rr != l0) || (decide (hp < 1))) || (decide ((IntKind.i64.wrap ((2 : Int) * (N : Int))) < hp)))) = true then .bool ((le : Int) != (if (N : Int) < hp then (N : Int) else hp)) else undef
  | 28 => v = .bool ((((rr != l0) || (decide (hp < 1))) || (decide ((IntKind.i64.wrap ((2 : Int) * (N : Int))) < hp))) || ((le : Int) != (if (N : Int) < hp then (N : Int) else hp)))
  | 29 => v = .bool ((((rr != l0) || (decide (hp < 1))) || (decide ((IntKind.i64.wrap ((2 : Int) * (N : Int))) < hp))) || ((le : Int) != (if (N : Int) < hp then (N : Int) else hp)))
  | 30 => v = if (!((((rr != l0) || (decide (hp < 1))) || (decide ((IntKind.i64.wrap ((2 : Int) * (N : Int))) < hp))) || ((le : Int) != (if (N : Int) < hp then (N : Int) else hp)))) = true then .int .i64 tw else undef
  | 31 => v = if (!((((rr != l0) || (decide (hp < 1))) || (decide ((IntKind.i64.wrap ((2 : Int) * (N : Int))) < hp))) || ((le : Int) != (if (N : Int) < hp then (N : Int) else hp)))) = true then .slice (some ⟨lb, lo, none⟩) N lcap else undef
  | 32 => v = if (!((((rr != l0) || (decide (hp < 1))) || (decide ((IntKind.i64.wrap ((2 : Int) * (N : Int))) < hp))) || ((le : Int) != (if (N : Int) < hp then (N : Int) else hp)))) = true then .pointer (some ⟨g, 3, none⟩) else undef
  | 33 => v = if (!((((rr != l0) || (decide (hp < 1))) || (decide ((IntKind.i64.wrap ((2 : Int) * (N : Int))) < hp))) || ((le : Int) != (if (N : Int) < hp then (N : Int) else hp)))) = true then .int .i64 hp else undef
  | 34 => v = if (!((((rr != l0) || (decide (hp < 1))) || (decide ((IntKind.i64.wrap ((2 : Int) * (N : Int))) < hp))) || ((le : Int) != (if (N : Int) < hp then (N : Int) else hp)))) = true then .int .i64 (N : Int) else undef
  | 35 => v = if (!((((rr != l0) || (decide (hp < 1))) || (decide ((IntKind.i64.wrap ((2 : Int) * (N : Int))) < hp))) || ((le : Int) != (if (N : Int) < hp then (N : Int) else hp)))) = true then .int .i64 (rq : Int) else undef
  | 36 => v = if (!((((rr != l0) || (decide (hp < 1))) || (decide ((IntKind.i64.wrap ((2 : Int) * (N : Int))) < hp))) || ((le : Int) != (if (N : Int) < hp then (N : Int) else hp)))) = true then .pointer (some ⟨lb, lo + rq, none⟩) else undef
  | 37 => v = if (!((((rr != l0) || (decide (hp < 1))) || (decide ((IntKind.i64.wrap ((2 : Int) * (N : Int))) < hp))) || ((le : Int) != (if (N : Int) < hp then (N : Int) else hp)))) = true then .int .i64 lr else undef
  | 38 => v = if (!((((rr != l0) || (decide (hp < 1))) || (decide ((IntKind.i64.wrap ((2 : Int) * (N : Int))) < hp))) || ((le : Int) != (if (N : Int) < hp then (N : Int) else hp)))) = true then .bool (tw != lr) else undef
  | 39 => v = .bool (((((rr != l0) || (decide (hp < 1))) || (decide ((IntKind.i64.wrap ((2 : Int) * (N : Int))) < hp))) || ((le : Int) != (if (N : Int) < hp then (N : Int) else hp))) || (tw != lr))
  | _ => True
/-- Its operations. -/
structure O_rd5 (ops : Array Oper) : Prop where
  e0 : Is ops 0 (some 29) (Op.fieldAddr 26 (Operand.tmp 2) 0) none []
  e1 : Is ops 1 (some 30) (Op.fieldAddr 23 (Operand.tmp 29) 1) none [0]
  e2 : Is ops 2 (some 31) (Op.load 3 (Operand.tmp 30)) none [1]
  e3 : Is ops 3 (some 32) (Op.move (Operand.tmp 5)) none []
  e4 : Is ops 4 (some 33) (Op.indexAddr 44 (Operand.tmp 32) (Operand.const (Value.int IntKind.i64 0))) none [3]
  e5 : Is ops 5 (some 34) (Op.load 3 (Operand.tmp 33)) none [4]
  e6 : Is ops 6 (some 35) (Op.binOp BinOp.neq 3 (Operand.tmp 31) (Operand.tmp 34) 3) none [2, 5]
  e7 : Is ops 7 (some 36) (Op.move (Operand.tmp 35)) none [6]
  e8 : Is ops 8 (some 37) (Op.fieldAddr 26 (Operand.tmp 2) 2) (some (7, false)) [7]
  e9 : Is ops 9 (some 38) (Op.load 3 (Operand.tmp 37)) (some (7, false)) [7, 8]
  e10 : Is ops 10 (some 39) (Op.binOp BinOp.lss 3 (Operand.tmp 38) (Operand.const (Value.int IntKind.i64 1)) 3) (some (7, false)) [7, 9]
  e11 : Is ops 11 (some 40) (Op.pick (Operand.tmp 36) (Operand.const (Value.bool true)) (Operand.tmp 39)) none [7, 10]
  e12 : Is ops 12 (some 41) (Op.move (Operand.tmp 40)) none [7, 11]
  e13 : Is ops 13 (some 42) (Op.fieldAddr 26 (Operand.tmp 2) 2) (some (12, false)) [12]
  e14 : Is ops 14 (some 43) (Op.load 3 (Operand.tmp 42)) (some (12, false)) [12, 13]
  e15 : Is ops 15 (some 44) (Op.move (Operand.tmp 6)) (some (12, false)) [12]
  e16 : Is ops 16 (some 45) (Op.binOp BinOp.mul 3 (Operand.const (Value.int IntKind.i64 2)) (Operand.tmp 44) 3) (some (12, false)) [12, 15]
  e17 : Is ops 17 (some 46) (Op.binOp BinOp.gtr 3 (Operand.tmp 43) (Operand.tmp 45) 3) (some (12, false)) [12, 14, 16]
  e18 : Is ops 18 (some 47) (Op.pick (Operand.tmp 41) (Operand.const (Value.bool true)) (Operand.tmp 46)) none [12, 17]
  e19 : Is ops 19 (some 48) (Op.move (Operand.tmp 47)) none [12, 18]
  e20 : Is ops 20 (some 49) (Op.fieldAddr 26 (Operand.tmp 2) 3) (some (19, false)) [19]
  e21 : Is ops 21 (some 50) (Op.load 24 (Operand.tmp 49)) (some (19, false)) [19, 20]
  e22 : Is ops 22 (some 51) (Op.call { callee := Callee.builtin Builtin.len, args := #[Operand.tmp 50], argTypes := #[24] }) (some (19, false)) [19, 21]
  e23 : Is ops 23 (some 52) (Op.fieldAddr 26 (Operand.tmp 2) 2) (some (19, false)) [19]
  e24 : Is ops 24 (some 53) (Op.load 3 (Operand.tmp 52)) (some (19, false)) [19, 23]
  e25 : Is ops 25 (some 54) (Op.move (Operand.tmp 6)) (some (19, false)) [19]
  e26 : Is ops 26 (some 55) (Op.call { callee := Callee.builtin Builtin.min, args := #[Operand.tmp 53, Operand.tmp 54], argTypes := #[3, 3] }) (some (19, false)) [19, 24, 25]
  e27 : Is ops 27 (some 56) (Op.binOp BinOp.neq 3 (Operand.tmp 51) (Operand.tmp 55) 3) (some (19, false)) [19, 22, 26]
  e28 : Is ops 28 (some 57) (Op.pick (Operand.tmp 48) (Operand.const (Value.bool true)) (Operand.tmp 56)) none [19, 27]
  e29 : Is ops 29 (some 58) (Op.move (Operand.tmp 57)) none [19, 28]
  e30 : Is ops 30 (some 59) (Op.move (Operand.tmp 1)) (some (29, false)) [29]
  e31 : Is ops 31 (some 60) (Op.move (Operand.tmp 5)) (some (29, false)) [29]
  e32 : Is ops 32 (some 61) (Op.fieldAddr 26 (Operand.tmp 2) 2) (some (29, false)) [29]
  e33 : Is ops 33 (some 62) (Op.load 3 (Operand.tmp 61)) (some (29, false)) [29, 32]
  e34 : Is ops 34 (some 63) (Op.move (Operand.tmp 6)) (some (29, false)) [29]
  e35 : Is ops 35 (some 64) (Op.binOp BinOp.rem 3 (Operand.tmp 62) (Operand.tmp 63) 3) (some (29, false)) [29, 33, 34]
  e36 : Is ops 36 (some 65) (Op.indexAddr 44 (Operand.tmp 60) (Operand.tmp 64)) (some (29, false)) [29, 31, 35]
  e37 : Is ops 37 (some 66) (Op.load 3 (Operand.tmp 65)) (some (29, false)) [29, 36]
  e38 : Is ops 38 (some 67) (Op.binOp BinOp.neq 3 (Operand.tmp 59) (Operand.tmp 66) 3) (some (29, false)) [29, 30, 37]
  e39 : Is ops 39 (some 68) (Op.pick (Operand.tmp 58) (Operand.const (Value.bool true)) (Operand.tmp 67)) none [29, 38]
set_option maxRecDepth 100000 in
set_option maxHeartbeats 4000000 in
theorem rd5 {ops : Array Oper} {id : Nat} {aZ : Act} {w0 : World} {Q : Exit → Act → World → Prop} (g lb : Nat) (lo N lcap le ccap rq : Nat) (cao : Option Addr) (mm rs rr hp tw l0 lr : Int)
    (E : O_rd5 ops) (hN : ops.size = 40) (hlow : lowB ops = true) (hds : dsts ops = [some 29, some 30, some 31, some 32, some 33, some 34, some 35, some 36, some 37, some 38, some 39, some 40, some 41, some 42, some 43, some 44, some 45, some 46, some 47, some 48, some 49, some 50, some 51, some 52, some 53, some 54, some 55, some 56, some 57, some 58, some 59, some 60, some 61, some 62, some 63, some 64, some 65, some 66, some 67, some 68]) (hnd : injB ops = true) (ha0 : aZ.tmps.size = 118)
    (bS1 : aZ.tmps.getD 1 undef = .int .i64 tw)
    (bS2 : aZ.tmps.getD 2 undef = .pointer (some ⟨g, 0, none⟩))
    (bS5 : aZ.tmps.getD 5 undef = .slice (some ⟨lb, lo, none⟩) N lcap)
    (bS6 : aZ.tmps.getD 6 undef = .int .i64 (N : Int))
    (_k_g_0 : w0.cell? ⟨g, 0, none⟩ = some (.int .i64 rs))
    (k_g_1 : w0.cell? ⟨g, 1, none⟩ = some (.int .i64 rr))
    (_k_g_2 : w0.cell? ⟨g, 2, none⟩ = some (.int .i64 mm))
    (k_g_3 : w0.cell? ⟨g, 3, none⟩ = some (.int .i64 hp))
    (k_g_4 : w0.cell? ⟨g, 4, none⟩ = some (.slice cao le ccap))
    (k_lb_lo : w0.cell? ⟨lb, lo, none⟩ = some (.int .i64 l0))
    (k_lb_lo_rq : w0.cell? ⟨lb, lo + rq, none⟩ = some (.int .i64 lr))
    (hNp : 0 < N)
    (hq : (!((((rr != l0) || (decide (hp < 1))) || (decide ((IntKind.i64.wrap ((2 : Int) * (N : Int))) < hp))) || ((le : Int) != (if (N : Int) < hp then (N : Int) else hp)))) = true → hp.tmod (N : Int) = (rq : Int))
    (hql : (rq : Int) < (N : Int))
    (hend : ∀ (f : Nat → Value) (w : World), Mod (fun _ => False) w0 w → Q .normal (puts aZ [(29, .pointer (some ⟨g, 0, none⟩)), (30, .pointer (some ⟨g, 1, none⟩)), (31, .int .i64 rr), (32, .slice (some ⟨lb, lo, none⟩) N lcap), (33, .pointer (some ⟨lb, lo, none⟩)), (34, .int .i64 l0), (35, .bool (rr != l0)), (36, .bool (rr != l0)), (37, f 37), (38, f 38), (39, f 39), (40, .bool ((rr != l0) || (decide (hp < 1)))), (41, .bool ((rr != l0) || (decide (hp < 1)))), (42, f 42), (43, f 43), (44, f 44), (45, f 45), (46, f 46), (47, .bool (((rr != l0) || (decide (hp < 1))) || (decide ((IntKind.i64.wrap ((2 : Int) * (N : Int))) < hp)))), (48, .bool (((rr != l0) || (decide (hp < 1))) || (decide ((IntKind.i64.wrap ((2 : Int) * (N : Int))) < hp)))), (49, f 49), (50, f 50), (51, f 51), (52, f 52), (53, f 53), (54, f 54), (55, f 55), (56, f 56), (57, .bool ((((rr != l0) || (decide (hp < 1))) || (decide ((IntKind.i64.wrap ((2 : Int) * (N : Int))) < hp))) || ((le : Int) != (if (N : Int) < hp then (N : Int) else hp)))), (58, .bool ((((rr != l0) || (decide (hp < 1))) || (decide ((IntKind.i64.wrap ((2 : Int) * (N : Int))) < hp))) || ((le : Int) != (if (N : Int) < hp then (N : Int) else hp)))), (59, f 59), (60, f 60), (61, f 61), (62, f 62), (63, f 63), (64, f 64), (65, f 65), (66, f 66), (67, f 67), (68, .bool (((((rr != l0) || (decide (hp < 1))) || (decide ((IntKind.i64.wrap ((2 : Int) * (N : Int))) < hp))) || ((le : Int) != (if (N : Int) < hp then (N : Int) else hp))) || (tw != lr)))]) w) :
    (Code.region id ops true).wp Try.prog Q aZ w0 := by
  obtain ⟨E0, E1, E2, E3, E4, E5, E6, E7, E8, E9, E10, E11, E12, E13, E14, E15, E16, E17, E18, E19, E20, E21, E22, E23, E24, E25, E26, E27, E28, E29, E30, E31, E32, E33, E34, E35, E36, E37, E38, E39⟩ := E
  have hstay : ∀ (i : Nat) (v : Value) (w w1 : World), Mod (fun _ => False) w w1 → (p_rd5 g lb lo N lcap le ccap rq cao mm rs rr hp tw l0 lr) i v w → (p_rd5 g lb lo N lcap le ccap rq cao mm rs rr hp tw l0 lr) i v w1 := fun _ _ _ _ _ h => h
  have s0 : ∀ o, ops[0]? = some o → StepI Try.prog ops (p_rd5 g lb lo N lcap le ccap rq cao mm rs rr hp tw l0 lr) (fun (_ : Array Bool) (_ : Act) (w : World) => Mod (fun _ => False) w0 w) aZ Q 0 o := by
    refine E0.stepI fun o hd ho hg hw => ?_
    intro y w listed hsz hls hun hwt hdown D' hRR hinv K hK
    have f2 : y.eval (Operand.tmp 2) = .pointer (some ⟨g, 0, none⟩)   := (hRR 2 (not_of (by rw [hds]; decide))).trans bS2
    exact .inl ⟨wanted_none hg, wp_value (ox_field (v := .pointer (some ⟨g, 0, none⟩)) ho f2 (by simp [go_sem])) (hK _ _ (fun _ _ _ _ _ _ h => h) rfl hinv)⟩
  have s1 : ∀ o, ops[1]? = some o → StepI Try.prog ops (p_rd5 g lb lo N lcap le ccap rq cao mm rs rr hp tw l0 lr) (fun (_ : Array Bool) (_ : Act) (w : World) => Mod (fun _ => False) w0 w) aZ Q 1 o := by
    refine E1.stepI fun o hd ho hg hw => ?_
    intro y w listed hsz hls hun hwt hdown D' hRR hinv K hK
    have f29 : y.eval (Operand.tmp 29) = .pointer (some ⟨g, 0, none⟩) := E0.postI (Post := (p_rd5 g lb lo N lcap le ccap rq cao mm rs rr hp tw l0 lr)) (a := y) (w := w) D' (hwt 0 (hw 0 (by simp)))
    exact .inl ⟨wanted_none hg, wp_value (ox_field (v := .pointer (some ⟨g, 1, none⟩)) ho f29 (by simp [go_sem])) (hK _ _ (fun _ _ _ _ _ _ h => h) rfl hinv)⟩
  have s2 : ∀ o, ops[2]? = some o → StepI Try.prog ops (p_rd5 g lb lo N lcap le ccap rq cao mm rs rr hp tw l0 lr) (fun (_ : Array Bool) (_ : Act) (w : World) => Mod (fun _ => False) w0 w) aZ Q 2 o := by
    refine E2.stepI fun o hd ho hg hw => ?_
    intro y w listed hsz hls hun hwt hdown D' hRR hinv K hK
    have f30 : y.eval (Operand.tmp 30) = .pointer (some ⟨g, 1, none⟩) := E1.postI (Post := (p_rd5 g lb lo N lcap le ccap rq cao mm rs rr hp tw l0 lr)) (a := y) (w := w) D' (hwt 1 (hw 1 (by simp)))
    have h0 := hinv.cell k_g_1 (fun h => h)
    exact .inl ⟨wanted_none hg, wp_value (ox_load (v := .int .i64 rr) ho f30 (by simp [go_sem, h0])) (hK _ _ (fun _ _ _ _ _ _ h => h) rfl hinv)⟩
  have s3 : ∀ o, ops[3]? = some o → StepI Try.prog ops (p_rd5 g lb lo N lcap le ccap rq cao mm rs rr hp tw l0 lr) (fun (_ : Array Bool) (_ : Act) (w : World) => Mod (fun _ => False) w0 w) aZ Q 3 o := by
    refine E3.stepI fun o hd ho hg hw => ?_
    intro y w listed hsz hls hun hwt hdown D' hRR hinv K hK
    have f5 : y.eval (Operand.tmp 5) = .slice (some ⟨lb, lo, none⟩) N lcap   := (hRR 5 (not_of (by rw [hds]; decide))).trans bS5
    exact .inl ⟨wanted_none hg, wp_value (ox_move ho f5) (hK _ _ (fun _ _ _ _ _ _ h => h) rfl hinv)⟩
  have s4 : ∀ o, ops[4]? = some o → StepI Try.prog ops (p_rd5 g lb lo N lcap le ccap rq cao mm rs rr hp tw l0 lr) (fun (_ : Array Bool) (_ : Act) (w : World) => Mod (fun _ => False) w0 w) aZ Q 4 o := by
    refine E4.stepI fun o hd ho hg hw => ?_
    intro y w listed hsz hls hun hwt hdown D' hRR hinv K hK
    have f32 : y.eval (Operand.tmp 32) = .slice (some ⟨lb, lo, none⟩) N lcap := E3.postI (Post := (p_rd5 g lb lo N lcap le ccap rq cao mm rs rr hp tw l0 lr)) (a := y) (w := w) D' (hwt 3 (hw 3 (by simp)))
    exact .inl ⟨wanted_none hg, wp_value (ox_index (v := .pointer (some ⟨lb, lo, none⟩)) ho f32 rfl (by simp [go_sem, hNp])) (hK _ _ (fun _ _ _ _ _ _ h => h) rfl hinv)⟩
  have s5 : ∀ o, ops[5]? = some o → StepI Try.prog ops (p_rd5 g lb lo N lcap le ccap rq cao mm rs rr hp tw l0 lr) (fun (_ : Array Bool) (_ : Act) (w : World) => Mod (fun _ => False) w0 w) aZ Q 5 o := by
    refine E5.stepI fun o hd ho hg hw => ?_
    intro y w listed hsz hls hun hwt hdown D' hRR hinv K hK
    have f33 : y.eval (Operand.tmp 33) = .pointer (some ⟨lb, lo, none⟩) := E4.postI (Post := (p_rd5 g lb lo N lcap le ccap rq cao mm rs rr hp tw l0 lr)) (a := y) (w := w) D' (hwt 4 (hw 4 (by simp)))
    have h0 := hinv.cell k_lb_lo (fun h => h)
    exact .inl ⟨wanted_none hg, wp_value (ox_load (v := .int .i64 l0) ho f33 (by simp [go_sem, h0])) (hK _ _ (fun _ _ _ _ _ _ h => h) rfl hinv)⟩
  have s6 : ∀ o, ops[6]? = some o → StepI Try.prog ops (p_rd5 g lb lo N lcap le ccap rq cao mm rs rr hp tw l0 lr) (fun (_ : Array Bool) (_ : Act) (w : World) => Mod (fun _ => False) w0 w) aZ Q 6 o := by
    refine E6.stepI fun o hd ho hg hw => ?_
    intro y w listed hsz hls hun hwt hdown D' hRR hinv K hK
    have f31 : y.eval (Operand.tmp 31) = .int .i64 rr := E2.postI (Post := (p_rd5 g lb lo N lcap le ccap rq cao mm rs rr hp tw l0 lr)) (a := y) (w := w) D' (hwt 2 (hw 2 (by simp)))
    have f34 : y.eval (Operand.tmp 34) = .int .i64 l0 := E5.postI (Post := (p_rd5 g lb lo N lcap le ccap rq cao mm rs rr hp tw l0 lr)) (a := y) (w := w) D' (hwt 5 (hw 5 (by simp)))
    exact .inl ⟨wanted_none hg, wp_value (rx_neq ho f31 f34) (hK _ _ (fun _ _ _ _ _ _ h => h) rfl hinv)⟩
  have s7 : ∀ o, ops[7]? = some o → StepI Try.prog ops (p_rd5 g lb lo N lcap le ccap rq cao mm rs rr hp tw l0 lr) (fun (_ : Array Bool) (_ : Act) (w : World) => Mod (fun _ => False) w0 w) aZ Q 7 o := by
    refine E7.stepI fun o hd ho hg hw => ?_
    intro y w listed hsz hls hun hwt hdown D' hRR hinv K hK
    have f35 : y.eval (Operand.tmp 35) = .bool (rr != l0) := E6.postI (Post := (p_rd5 g lb lo N lcap le ccap rq cao mm rs rr hp tw l0 lr)) (a := y) (w := w) D' (hwt 6 (hw 6 (by simp)))
    exact .inl ⟨wanted_none hg, wp_value (ox_move ho f35) (hK _ _ (fun _ _ _ _ _ _ h => h) rfl hinv)⟩
  have s8 : ∀ o, ops[8]? = some o → StepI Try.prog ops (p_rd5 g lb lo N lcap le ccap rq cao mm rs rr hp tw l0 lr) (fun (_ : Array Bool) (_ : Act) (w : World) => Mod (fun _ => False) w0 w) aZ Q 8 o := by
    refine E8.stepI fun o hd ho hg hw => ?_
    intro y w listed hsz hls hun hwt hdown D' hRR hinv K hK
    have gv : y.tmps.getD 36 undef = .bool (rr != l0) := E7.postI (Post := (p_rd5 g lb lo N lcap le ccap rq cao mm rs rr hp tw l0 lr)) (a := y) (w := w) D' (hwt 7 (hw 7 (by simp)))
    have wt : Region.wanted o (yielded ops y.tmps) = (!(rr != l0)) := by
      rw [wanted_b E7 hg (by rw [hsz, ha0]; decide) gv]
      cases (rr != l0) <;> rfl
    cases hc : (!(rr != l0))
    · exact .inr ⟨wt.trans hc, hK _ _ (fun _ _ _ _ _ _ h => h) (by show undef = if (!(rr != l0)) = true then .pointer (some ⟨g, 3, none⟩) else undef; rw [hc]; rfl) hinv⟩
    · have f2 : y.eval (Operand.tmp 2) = .pointer (some ⟨g, 0, none⟩)   := (hRR 2 (not_of (by rw [hds]; decide))).trans bS2
      exact .inl ⟨wt.trans hc, wp_value (ox_field (v := .pointer (some ⟨g, 3, none⟩)) ho f2 (by simp [go_sem])) (hK _ _ (fun _ _ _ _ _ _ h => h) (by show _ = if (!(rr != l0)) = true then .pointer (some ⟨g, 3, none⟩) else undef; rw [hc]; rfl) hinv)⟩
  have s9 : ∀ o, ops[9]? = some o → StepI Try.prog ops (p_rd5 g lb lo N lcap le ccap rq cao mm rs rr hp tw l0 lr) (fun (_ : Array Bool) (_ : Act) (w : World) => Mod (fun _ => False) w0 w) aZ Q 9 o := by
    refine E9.stepI fun o hd ho hg hw => ?_
    intro y w listed hsz hls hun hwt hdown D' hRR hinv K hK
    have gv : y.tmps.getD 36 undef = .bool (rr != l0) := E7.postI (Post := (p_rd5 g lb lo N lcap le ccap rq cao mm rs rr hp tw l0 lr)) (a := y) (w := w) D' (hwt 7 (hw 7 (by simp)))
    have wt : Region.wanted o (yielded ops y.tmps) = (!(rr != l0)) := by
      rw [wanted_b E7 hg (by rw [hsz, ha0]; decide) gv]
      cases (rr != l0) <;> rfl
    cases hc : (!(rr != l0))
    · exact .inr ⟨wt.trans hc, hK _ _ (fun _ _ _ _ _ _ h => h) (by show undef = if (!(rr != l0)) = true then .int .i64 hp else undef; rw [hc]; rfl) hinv⟩
    · have f37 : y.eval (Operand.tmp 37) = .pointer (some ⟨g, 3, none⟩) := (show y.eval (Operand.tmp 37) = (if (!(rr != l0)) = true then .pointer (some ⟨g, 3, none⟩) else undef) from E8.postI (Post := (p_rd5 g lb lo N lcap le ccap rq cao mm rs rr hp tw l0 lr)) (a := y) (w := w) D' (hwt 8 (hw 8 (by simp)))).trans (if_pos hc)
      have h0 := hinv.cell k_g_3 (fun h => h)
      exact .inl ⟨wt.trans hc, wp_value (ox_load (v := .int .i64 hp) ho f37 (by simp [go_sem, h0])) (hK _ _ (fun _ _ _ _ _ _ h => h) (by show _ = if (!(rr != l0)) = true then .int .i64 hp else undef; rw [hc]; rfl) hinv)⟩
  have s10 : ∀ o, ops[10]? = some o → StepI Try.prog ops (p_rd5 g lb lo N lcap le ccap rq cao mm rs rr hp tw l0 lr) (fun (_ : Array Bool) (_ : Act) (w : World) => Mod (fun _ => False) w0 w) aZ Q 10 o := by
    refine E10.stepI fun o hd ho hg hw => ?_
    intro y w listed hsz hls hun hwt hdown D' hRR hinv K hK
    have gv : y.tmps.getD 36 undef = .bool (rr != l0) := E7.postI (Post := (p_rd5 g lb lo N lcap le ccap rq cao mm rs rr hp tw l0 lr)) (a := y) (w := w) D' (hwt 7 (hw 7 (by simp)))
    have wt : Region.wanted o (yielded ops y.tmps) = (!(rr != l0)) := by
      rw [wanted_b E7 hg (by rw [hsz, ha0]; decide) gv]
      cases (rr != l0) <;> rfl
    cases hc : (!(rr != l0))
    · exact .inr ⟨wt.trans hc, hK _ _ (fun _ _ _ _ _ _ h => h) (by show undef = if (!(rr != l0)) = true then .bool (decide (hp < 1)) else undef; rw [hc]; rfl) hinv⟩
    · have f38 : y.eval (Operand.tmp 38) = .int .i64 hp := (show y.eval (Operand.tmp 38) = (if (!(rr != l0)) = true then .int .i64 hp else undef) from E9.postI (Post := (p_rd5 g lb lo N lcap le ccap rq cao mm rs rr hp tw l0 lr)) (a := y) (w := w) D' (hwt 9 (hw 9 (by simp)))).trans (if_pos hc)
      exact .inl ⟨wt.trans hc, wp_value (rx_lss ho f38 rfl) (hK _ _ (fun _ _ _ _ _ _ h => h) (by show _ = if (!(rr != l0)) = true then .bool (decide (hp < 1)) else undef; rw [hc]; rfl) hinv)⟩
  have s11 : ∀ o, ops[11]? = some o → StepI Try.prog ops (p_rd5 g lb lo N lcap le ccap rq cao mm rs rr hp tw l0 lr) (fun (_ : Array Bool) (_ : Act) (w : World) => Mod (fun _ => False) w0 w) aZ Q 11 o := by
    refine E11.stepI fun o hd ho hg hw => ?_
    intro y w listed hsz hls hun hwt hdown D' hRR hinv K hK
    have f36 : y.eval (Operand.tmp 36) = .bool (rr != l0) := E7.postI (Post := (p_rd5 g lb lo N lcap le ccap rq cao mm rs rr hp tw l0 lr)) (a := y) (w := w) D' (hwt 7 (hw 7 (by simp)))
    have f39 : y.eval (Operand.tmp 39) = if (!(rr != l0)) = true then .bool (decide (hp < 1)) else undef := E10.postI (Post := (p_rd5 g lb lo N lcap le ccap rq cao mm rs rr hp tw l0 lr)) (a := y) (w := w) D' (hwt 10 (hw 10 (by simp)))
    exact .inl ⟨wanted_none hg, wp_value (ox_pick (v := .bool ((rr != l0) || (decide (hp < 1)))) ho f36 (by rw [f39]; cases (rr != l0) <;> rfl)) (hK _ _ (fun _ _ _ _ _ _ h => h) rfl hinv)⟩
  have s12 : ∀ o, ops[12]? = some o → StepI Try.prog ops (p_rd5 g lb lo N lcap le ccap rq cao mm rs rr hp tw l0 lr) (fun (_ : Array Bool) (_ : Act) (w : World) => Mod (fun _ => False) w0 w) aZ Q 12 o := by
    refine E12.stepI fun o hd ho hg hw => ?_
    intro y w listed hsz hls hun hwt hdown D' hRR hinv K hK
    have f40 : y.eval (Operand.tmp 40) = .bool ((rr != l0) || (decide (hp < 1))) := E11.postI (Post := (p_rd5 g lb lo N lcap le ccap rq cao mm rs rr hp tw l0 lr)) (a := y) (w := w) D' (hwt 11 (hw 11 (by simp)))
    exact .inl ⟨wanted_none hg, wp_value (ox_move ho f40) (hK _ _ (fun _ _ _ _ _ _ h => h) rfl hinv)⟩
  have s13 : ∀ o, ops[13]? = some o → StepI Try.prog ops (p_rd5 g lb lo N lcap le ccap rq cao mm rs rr hp tw l0 lr) (fun (_ : Array Bool) (_ : Act) (w : World) => Mod (fun _ => False) w0 w) aZ Q 13 o := by
    refine E13.stepI fun o hd ho hg hw => ?_
    intro y w listed hsz hls hun hwt hdown D' hRR hinv K hK
    have gv : y.tmps.getD 41 undef = .bool ((rr != l0) || (decide (hp < 1))) := E12.postI (Post := (p_rd5 g lb lo N lcap le ccap rq cao mm rs rr hp tw l0 lr)) (a := y) (w := w) D' (hwt 12 (hw 12 (by simp)))
    have wt : Region.wanted o (yielded ops y.tmps) = (!((rr != l0) || (decide (hp < 1)))) := by
      rw [wanted_b E12 hg (by rw [hsz, ha0]; decide) gv]
      cases ((rr != l0) || (decide (hp < 1))) <;> rfl
    cases hc : (!((rr != l0) || (decide (hp < 1))))
    · exact .inr ⟨wt.trans hc, hK _ _ (fun _ _ _ _ _ _ h => h) (by show undef = if (!((rr != l0) || (decide (hp < 1)))) = true then .pointer (some ⟨g, 3, none⟩) else undef; rw [hc]; rfl) hinv⟩
    · have f2 : y.eval (Operand.tmp 2) = .pointer (some ⟨g, 0, none⟩)   := (hRR 2 (not_of (by rw [hds]; decide))).trans bS2
      exact .inl ⟨wt.trans hc, wp_value (ox_field (v := .pointer (some ⟨g, 3, none⟩)) ho f2 (by simp [go_sem])) (hK _ _ (fun _ _ _ _ _ _ h => h) (by show _ = if (!((rr != l0) || (decide (hp < 1)))) = true then .pointer (some ⟨g, 3, none⟩) else undef; rw [hc]; rfl) hinv)⟩
  have s14 : ∀ o, ops[14]? = some o → StepI Try.prog ops (p_rd5 g lb lo N lcap le ccap rq cao mm rs rr hp tw l0 lr) (fun (_ : Array Bool) (_ : Act) (w : World) => Mod (fun _ => False) w0 w) aZ Q 14 o := by
    refine E14.stepI fun o hd ho hg hw => ?_
    intro y w listed hsz hls hun hwt hdown D' hRR hinv K hK
    have gv : y.tmps.getD 41 undef = .bool ((rr != l0) || (decide (hp < 1))) := E12.postI (Post := (p_rd5 g lb lo N lcap le ccap rq cao mm rs rr hp tw l0 lr)) (a := y) (w := w) D' (hwt 12 (hw 12 (by simp)))
    have wt : Region.wanted o (yielded ops y.tmps) = (!((rr != l0) || (decide (hp < 1)))) := by
      rw [wanted_b E12 hg (by rw [hsz, ha0]; decide) gv]
      cases ((rr != l0) || (decide (hp < 1))) <;> rfl
    cases hc : (!((rr != l0) || (decide (hp < 1))))
    · exact .inr ⟨wt.trans hc, hK _ _ (fun _ _ _ _ _ _ h => h) (by show undef = if (!((rr != l0) || (decide (hp < 1)))) = true then .int .i64 hp else undef; rw [hc]; rfl) hinv⟩
    · have f42 : y.eval (Operand.tmp 42) = .pointer (some ⟨g, 3, none⟩) := (show y.eval (Operand.tmp 42) = (if (!((rr != l0) || (decide (hp < 1)))) = true then .pointer (some ⟨g, 3, none⟩) else undef) from E13.postI (Post := (p_rd5 g lb lo N lcap le ccap rq cao mm rs rr hp tw l0 lr)) (a := y) (w := w) D' (hwt 13 (hw 13 (by simp)))).trans (if_pos hc)
      have h0 := hinv.cell k_g_3 (fun h => h)
      exact .inl ⟨wt.trans hc, wp_value (ox_load (v := .int .i64 hp) ho f42 (by simp [go_sem, h0])) (hK _ _ (fun _ _ _ _ _ _ h => h) (by show _ = if (!((rr != l0) || (decide (hp < 1)))) = true then .int .i64 hp else undef; rw [hc]; rfl) hinv)⟩
  have s15 : ∀ o, ops[15]? = some o → StepI Try.prog ops (p_rd5 g lb lo N lcap le ccap rq cao mm rs rr hp tw l0 lr) (fun (_ : Array Bool) (_ : Act) (w : World) => Mod (fun _ => False) w0 w) aZ Q 15 o := by
    refine E15.stepI fun o hd ho hg hw => ?_
    intro y w listed hsz hls hun hwt hdown D' hRR hinv K hK
    have gv : y.tmps.getD 41 undef = .bool ((rr != l0) || (decide (hp < 1))) := E12.postI (Post := (p_rd5 g lb lo N lcap le ccap rq cao mm rs rr hp tw l0 lr)) (a := y) (w := w) D' (hwt 12 (hw 12 (by simp)))
    have wt : Region.wanted o (yielded ops y.tmps) = (!((rr != l0) || (decide (hp < 1)))) := by
      rw [wanted_b E12 hg (by rw [hsz, ha0]; decide) gv]
      cases ((rr != l0) || (decide (hp < 1))) <;> rfl
    cases hc : (!((rr != l0) || (decide (hp < 1))))
    · exact .inr ⟨wt.trans hc, hK _ _ (fun _ _ _ _ _ _ h => h) (by show undef = if (!((rr != l0) || (decide (hp < 1)))) = true then .int .i64 (N : Int) else undef; rw [hc]; rfl) hinv⟩
    · have f6 : y.eval (Operand.tmp 6) = .int .i64 (N : Int)   := (hRR 6 (not_of (by rw [hds]; decide))).trans bS6
      exact .inl ⟨wt.trans hc, wp_value (ox_move ho f6) (hK _ _ (fun _ _ _ _ _ _ h => h) (by show _ = if (!((rr != l0) || (decide (hp < 1)))) = true then .int .i64 (N : Int) else undef; rw [hc]; rfl) hinv)⟩
  have s16 : ∀ o, ops[16]? = some o → StepI Try.prog ops (p_rd5 g lb lo N lcap le ccap rq cao mm rs rr hp tw l0 lr) (fun (_ : Array Bool) (_ : Act) (w : World) => Mod (fun _ => False) w0 w) aZ Q 16 o := by
    refine E16.stepI fun o hd ho hg hw => ?_
    intro y w listed hsz hls hun hwt hdown D' hRR hinv K hK
    have gv : y.tmps.getD 41 undef = .bool ((rr != l0) || (decide (hp < 1))) := E12.postI (Post := (p_rd5 g lb lo N lcap le ccap rq cao mm rs rr hp tw l0 lr)) (a := y) (w := w) D' (hwt 12 (hw 12 (by simp)))
    have wt : Region.wanted o (yielded ops y.tmps) = (!((rr != l0) || (decide (hp < 1)))) := by
      rw [wanted_b E12 hg (by rw [hsz, ha0]; decide) gv]
      cases ((rr != l0) || (decide (hp < 1))) <;> rfl
    cases hc : (!((rr != l0) || (decide (hp < 1))))
    · exact .inr ⟨wt.trans hc, hK _ _ (fun _ _ _ _ _ _ h => h) (by show undef = if (!((rr != l0) || (decide (hp < 1)))) = true then .int .i64 (IntKind.i64.wrap ((2 : Int) * (N : Int))) else undef; rw [hc]; rfl) hinv⟩
    · have f44 : y.eval (Operand.tmp 44) = .int .i64 (N : Int) := (show y.eval (Operand.tmp 44) = (if (!((rr != l0) || (decide (hp < 1)))) = true then .int .i64 (N : Int) else undef) from E15.postI (Post := (p_rd5 g lb lo N lcap le ccap rq cao mm rs rr hp tw l0 lr)) (a := y) (w := w) D' (hwt 15 (hw 15 (by simp)))).trans (if_pos hc)
      exact .inl ⟨wt.trans hc, wp_value (rx_mul ho rfl f44) (hK _ _ (fun _ _ _ _ _ _ h => h) (by show _ = if (!((rr != l0) || (decide (hp < 1)))) = true then .int .i64 (IntKind.i64.wrap ((2 : Int) * (N : Int))) else undef; rw [hc]; rfl) hinv)⟩
  have s17 : ∀ o, ops[17]? = some o → StepI Try.prog ops (p_rd5 g lb lo N lcap le ccap rq cao mm rs rr hp tw l0 lr) (fun (_ : Array Bool) (_ : Act) (w : World) => Mod (fun _ => False) w0 w) aZ Q 17 o := by
    refine E17.stepI fun o hd ho hg hw => ?_
    intro y w listed hsz hls hun hwt hdown D' hRR hinv K hK
    have gv : y.tmps.getD 41 undef = .bool ((rr != l0) || (decide (hp < 1))) := E12.postI (Post := (p_rd5 g lb lo N lcap le ccap rq cao mm rs rr hp tw l0 lr)) (a := y) (w := w) D' (hwt 12 (hw 12 (by simp)))
    have wt : Region.wanted o (yielded ops y.tmps) = (!((rr != l0) || (decide (hp < 1)))) := by
      rw [wanted_b E12 hg (by rw [hsz, ha0]; decide) gv]
      cases ((rr != l0) || (decide (hp < 1))) <;> rfl
    cases hc : (!((rr != l0) || (decide (hp < 1))))
    · exact .inr ⟨wt.trans hc, hK _ _ (fun _ _ _ _ _ _ h => h) (by show undef = if (!((rr != l0) || (decide (hp < 1)))) = true then .bool (decide ((IntKind.i64.wrap ((2 : Int) * (N : Int))) < hp)) else undef; rw [hc]; rfl) hinv⟩
    · have f43 : y.eval (Operand.tmp 43) = .int .i64 hp := (show y.eval (Operand.tmp 43) = (if (!((rr != l0) || (decide (hp < 1)))) = true then .int .i64 hp else undef) from E14.postI (Post := (p_rd5 g lb lo N lcap le ccap rq cao mm rs rr hp tw l0 lr)) (a := y) (w := w) D' (hwt 14 (hw 14 (by simp)))).trans (if_pos hc)
      have f45 : y.eval (Operand.tmp 45) = .int .i64 (IntKind.i64.wrap ((2 : Int) * (N : Int))) := (show y.eval (Operand.tmp 45) = (if (!((rr != l0) || (decide (hp < 1)))) = true then .int .i64 (IntKind.i64.wrap ((2 : Int) * (N : Int))) else undef) from E16.postI (Post := (p_rd5 g lb lo N lcap le ccap rq cao mm rs rr hp tw l0 lr)) (a := y) (w := w) D' (hwt 16 (hw 16 (by simp)))).trans (if_pos hc)
      exact .inl ⟨wt.trans hc, wp_value (rx_gtr ho f43 f45) (hK _ _ (fun _ _ _ _ _ _ h => h) (by show _ = if (!((rr != l0) || (decide (hp < 1)))) = true then .bool (decide ((IntKind.i64.wrap ((2 : Int) * (N : Int))) < hp)) else undef; rw [hc]; rfl) hinv)⟩
  have s18 : ∀ o, ops[18]? = some o → StepI Try.prog ops (p_rd5 g lb lo N lcap le ccap rq cao mm rs rr hp tw l0 lr) (fun (_ : Array Bool) (_ : Act) (w : World) => Mod (fun _ => False) w0 w) aZ Q 18 o := by
    refine E18.stepI fun o hd ho hg hw => ?_
    intro y w listed hsz hls hun hwt hdown D' hRR hinv K hK
    have f41 : y.eval (Operand.tmp 41) = .bool ((rr != l0) || (decide (hp < 1))) := E12.postI (Post := (p_rd5 g lb lo N lcap le ccap rq cao mm rs rr hp tw l0 lr)) (a := y) (w := w) D' (hwt 12 (hw 12 (by simp)))
    have f46 : y.eval (Operand.tmp 46) = if (!((rr != l0) || (decide (hp < 1)))) = true then .bool (decide ((IntKind.i64.wrap ((2 : Int) * (N : Int))) < hp)) else undef := E17.postI (Post := (p_rd5 g lb lo N lcap le ccap rq cao mm rs rr hp tw l0 lr)) (a := y) (w := w) D' (hwt 17 (hw 17 (by simp)))
    exact .inl ⟨wanted_none hg, wp_value (ox_pick (v := .bool (((rr != l0) || (decide (hp < 1))) || (decide ((IntKind.i64.wrap ((2 : Int) * (N : Int))) < hp)))) ho f41 (by rw [f46]; cases ((rr != l0) || (decide (hp < 1))) <;> rfl)) (hK _ _ (fun _ _ _ _ _ _ h => h) rfl hinv)⟩
  have s19 : ∀ o, ops[19]? = some o → StepI Try.prog ops (p_rd5 g lb lo N lcap le ccap rq cao mm rs rr hp tw l0 lr) (fun (_ : Array Bool) (_ : Act) (w : World) => Mod (fun _ => False) w0 w) aZ Q 19 o := by
    refine E19.stepI fun o hd ho hg hw => ?_
    intro y w listed hsz hls hun hwt hdown D' hRR hinv K hK
    have f47 : y.eval (Operand.tmp 47) = .bool (((rr != l0) || (decide (hp < 1))) || (decide ((IntKind.i64.wrap ((2 : Int) * (N : Int))) < hp))) := E18.postI (Post := (p_rd5 g lb lo N lcap le ccap rq cao mm rs rr hp tw l0 lr)) (a := y) (w := w) D' (hwt 18 (hw 18 (by simp)))
    exact .inl ⟨wanted_none hg, wp_value (ox_move ho f47) (hK _ _ (fun _ _ _ _ _ _ h => h) rfl hinv)⟩
  have s20 : ∀ o, ops[20]? = some o → StepI Try.prog ops (p_rd5 g lb lo N lcap le ccap rq cao mm rs rr hp tw l0 lr) (fun (_ : Array Bool) (_ : Act) (w : World) => Mod (fun _ => False) w0 w) aZ Q 20 o := by
    refine E20.stepI fun o hd ho hg hw => ?_
    intro y w listed hsz hls hun hwt hdown D' hRR hinv K hK
    have gv : y.tmps.getD 48 undef = .bool (((rr != l0) || (decide (hp < 1))) || (decide ((IntKind.i64.wrap ((2 : Int) * (N : Int))) < hp))) := E19.postI (Post := (p_rd5 g lb lo N lcap le ccap rq cao mm rs rr hp tw l0 lr)) (a := y) (w := w) D' (hwt 19 (hw 19 (by simp)))
    have wt : Region.wanted o (yielded ops y.tmps) = (!(((rr != l0) || (decide (hp < 1))) || (decide ((IntKind.i64.wrap ((2 : Int) * (N : Int))) < hp)))) := by
      rw [wanted_b E19 hg (by rw [hsz, ha0]; decide) gv]
      cases (((rr != l0) || (decide (hp < 1))) || (decide ((IntKind.i64.wrap ((2 : Int) * (N : Int))) < hp))) <;> rfl
    cases hc : (!(((rr != l0) || (decide (hp < 1))) || (decide ((IntKind.i64.wrap ((2 : Int) * (N : Int))) < hp))))
    · exact .inr ⟨wt.trans hc, hK _ _ (fun _ _ _ _ _ _ h => h) (by show undef = if (!(((rr != l0) || (decide (hp < 1))) || (decide ((IntKind.i64.wrap ((2 : Int) * (N : Int))) < hp)))) = true then .pointer (some ⟨g, 4, none⟩) else undef; rw [hc]; rfl) hinv⟩
    · have f2 : y.eval (Operand.tmp 2) = .pointer (some ⟨g, 0, none⟩)   := (hRR 2 (not_of (by rw [hds]; decide))).trans bS2
      exact .inl ⟨wt.trans hc, wp_value (ox_field (v := .pointer (some ⟨g, 4, none⟩)) ho f2 (by simp [go_sem])) (hK _ _ (fun _ _ _ _ _ _ h => h) (by show _ = if (!(((rr != l0) || (decide (hp < 1))) || (decide ((IntKind.i64.wrap ((2 : Int) * (N : Int))) < hp)))) = true then .pointer (some ⟨g, 4, none⟩) else undef; rw [hc]; rfl) hinv)⟩
  have s21 : ∀ o, ops[21]? = some o → StepI Try.prog ops (p_rd5 g lb lo N lcap le ccap rq cao mm rs rr hp tw l0 lr) (fun (_ : Array Bool) (_ : Act) (w : World) => Mod (fun _ => False) w0 w) aZ Q 21 o := by
    refine E21.stepI fun o hd ho hg hw => ?_
    intro y w listed hsz hls hun hwt hdown D' hRR hinv K hK
    have gv : y.tmps.getD 48 undef = .bool (((rr != l0) || (decide (hp < 1))) || (decide ((IntKind.i64.wrap ((2 : Int) * (N : Int))) < hp))) := E19.postI (Post := (p_rd5 g lb lo N lcap le ccap rq cao mm rs rr hp tw l0 lr)) (a := y) (w := w) D' (hwt 19 (hw 19 (by simp)))
    have wt : Region.wanted o (yielded ops y.tmps) = (!(((rr != l0) || (decide (hp < 1))) || (decide ((IntKind.i64.wrap ((2 : Int) * (N : Int))) < hp)))) := by
      rw [wanted_b E19 hg (by rw [hsz, ha0]; decide) gv]
      cases (((rr != l0) || (decide (hp < 1))) || (decide ((IntKind.i64.wrap ((2 : Int) * (N : Int))) < hp))) <;> rfl
    cases hc : (!(((rr != l0) || (decide (hp < 1))) || (decide ((IntKind.i64.wrap ((2 : Int) * (N : Int))) < hp))))
    · exact .inr ⟨wt.trans hc, hK _ _ (fun _ _ _ _ _ _ h => h) (by show undef = if (!(((rr != l0) || (decide (hp < 1))) || (decide ((IntKind.i64.wrap ((2 : Int) * (N : Int))) < hp)))) = true then .slice cao le ccap else undef; rw [hc]; rfl) hinv⟩
    · have f49 : y.eval (Operand.tmp 49) = .pointer (some ⟨g, 4, none⟩) := (show y.eval (Operand.tmp 49) = (if (!(((rr != l0) || (decide (hp < 1))) || (decide ((IntKind.i64.wrap ((2 : Int) * (N : Int))) < hp)))) = true then .pointer (some ⟨g, 4, none⟩) else undef) from E20.postI (Post := (p_rd5 g lb lo N lcap le ccap rq cao mm rs rr hp tw l0 lr)) (a := y) (w := w) D' (hwt 20 (hw 20 (by simp)))).trans (if_pos hc)
      have h0 := hinv.cell k_g_4 (fun h => h)
      exact .inl ⟨wt.trans hc, wp_value (ox_load (v := .slice cao le ccap) ho f49 (by simp [go_sem, h0])) (hK _ _ (fun _ _ _ _ _ _ h => h) (by show _ = if (!(((rr != l0) || (decide (hp < 1))) || (decide ((IntKind.i64.wrap ((2 : Int) * (N : Int))) < hp)))) = true then .slice cao le ccap else undef; rw [hc]; rfl) hinv)⟩
  have s22 : ∀ o, ops[22]? = some o → StepI Try.prog ops (p_rd5 g lb lo N lcap le ccap rq cao mm rs rr hp tw l0 lr) (fun (_ : Array Bool) (_ : Act) (w : World) => Mod (fun _ => False) w0 w) aZ Q 22 o := by
    refine E22.stepI fun o hd ho hg hw => ?_
    intro y w listed hsz hls hun hwt hdown D' hRR hinv K hK
    have gv : y.tmps.getD 48 undef = .bool (((rr != l0) || (decide (hp < 1))) || (decide ((IntKind.i64.wrap ((2 : Int) * (N : Int))) < hp))) := E19.postI (Post := (p_rd5 g lb lo N lcap le ccap rq cao mm rs rr hp tw l0 lr)) (a := y) (w := w) D' (hwt 19 (hw 19 (by simp)))
    have wt : Region.wanted o (yielded ops y.tmps) = (!(((rr != l0) || (decide (hp < 1))) || (decide ((IntKind.i64.wrap ((2 : Int) * (N : Int))) < hp)))) := by
      rw [wanted_b E19 hg (by rw [hsz, ha0]; decide) gv]
      cases (((rr != l0) || (decide (hp < 1))) || (decide ((IntKind.i64.wrap ((2 : Int) * (N : Int))) < hp))) <;> rfl
    cases hc : (!(((rr != l0) || (decide (hp < 1))) || (decide ((IntKind.i64.wrap ((2 : Int) * (N : Int))) < hp))))
    · exact .inr ⟨wt.trans hc, hK _ _ (fun _ _ _ _ _ _ h => h) (by show undef = if (!(((rr != l0) || (decide (hp < 1))) || (decide ((IntKind.i64.wrap ((2 : Int) * (N : Int))) < hp)))) = true then .int .i64 (le : Int) else undef; rw [hc]; rfl) hinv⟩
    · have f50 : y.eval (Operand.tmp 50) = .slice cao le ccap := (show y.eval (Operand.tmp 50) = (if (!(((rr != l0) || (decide (hp < 1))) || (decide ((IntKind.i64.wrap ((2 : Int) * (N : Int))) < hp)))) = true then .slice cao le ccap else undef) from E21.postI (Post := (p_rd5 g lb lo N lcap le ccap rq cao mm rs rr hp tw l0 lr)) (a := y) (w := w) D' (hwt 21 (hw 21 (by simp)))).trans (if_pos hc)
      exact .inl ⟨wt.trans hc, wp_value (rd5_len24 ho f50) (hK _ _ (fun _ _ _ _ _ _ h => h) (by show _ = if (!(((rr != l0) || (decide (hp < 1))) || (decide ((IntKind.i64.wrap ((2 : Int) * (N : Int))) < hp)))) = true then .int .i64 (le : Int) else undef; rw [hc]; rfl) hinv)⟩
  have s23 : ∀ o, ops[23]? = some o → StepI Try.prog ops (p_rd5 g lb lo N lcap le ccap rq cao mm rs rr hp tw l0 lr) (fun (_ : Array Bool) (_ : Act) (w : World) => Mod (fun _ => False) w0 w) aZ Q 23 o := by
    refine E23.stepI fun o hd ho hg hw => ?_
    intro y w listed hsz hls hun hwt hdown D' hRR hinv K hK
    have gv : y.tmps.getD 48 undef = .bool (((rr != l0) || (decide (hp < 1))) || (decide ((IntKind.i64.wrap ((2 : Int) * (N : Int))) < hp))) := E19.postI (Post := (p_rd5 g lb lo N lcap le ccap rq cao mm rs rr hp tw l0 lr)) (a := y) (w := w) D' (hwt 19 (hw 19 (by simp)))
    have wt : Region.wanted o (yielded ops y.tmps) = (!(((rr != l0) || (decide (hp < 1))) || (decide ((IntKind.i64.wrap ((2 : Int) * (N : Int))) < hp)))) := by
      rw [wanted_b E19 hg (by rw [hsz, ha0]; decide) gv]
      cases (((rr != l0) || (decide (hp < 1))) || (decide ((IntKind.i64.wrap ((2 : Int) * (N : Int))) < hp))) <;> rfl
    cases hc : (!(((rr != l0) || (decide (hp < 1))) || (decide ((IntKind.i64.wrap ((2 : Int) * (N : Int))) < hp))))
    · exact .inr ⟨wt.trans hc, hK _ _ (fun _ _ _ _ _ _ h => h) (by show undef = if (!(((rr != l0) || (decide (hp < 1))) || (decide ((IntKind.i64.wrap ((2 : Int) * (N : Int))) < hp)))) = true then .pointer (some ⟨g, 3, none⟩) else undef; rw [hc]; rfl) hinv⟩
    · have f2 : y.eval (Operand.tmp 2) = .pointer (some ⟨g, 0, none⟩)   := (hRR 2 (not_of (by rw [hds]; decide))).trans bS2
      exact .inl ⟨wt.trans hc, wp_value (ox_field (v := .pointer (some ⟨g, 3, none⟩)) ho f2 (by simp [go_sem])) (hK _ _ (fun _ _ _ _ _ _ h => h) (by show _ = if (!(((rr != l0) || (decide (hp < 1))) || (decide ((IntKind.i64.wrap ((2 : Int) * (N : Int))) < hp)))) = true then .pointer (some ⟨g, 3, none⟩) else undef; rw [hc]; rfl) hinv)⟩
  have s24 : ∀ o, ops[24]? = some o → StepI Try.prog ops (p_rd5 g lb lo N lcap le ccap rq cao mm rs rr hp tw l0 lr) (fun (_ : Array Bool) (_ : Act) (w : World) => Mod (fun _ => False) w0 w) aZ Q 24 o := by
    refine E24.stepI fun o hd ho hg hw => ?_
    intro y w listed hsz hls hun hwt hdown D' hRR hinv K hK
    have gv : y.tmps.getD 48 undef = .bool (((rr != l0) || (decide (hp < 1))) || (decide ((IntKind.i64.wrap ((2 : Int) * (N : Int))) < hp))) := E19.postI (Post := (p_rd5 g lb lo N lcap le ccap rq cao mm rs rr hp tw l0 lr)) (a := y) (w := w) D' (hwt 19 (hw 19 (by simp)))
    have wt : Region.wanted o (yielded ops y.tmps) = (!(((rr != l0) || (decide (hp < 1))) || (decide ((IntKind.i64.wrap ((2 : Int) * (N : Int))) < hp)))) := by
      rw [wanted_b E19 hg (by rw [hsz, ha0]; decide) gv]
      cases (((rr != l0) || (decide (hp < 1))) || (decide ((IntKind.i64.wrap ((2 : Int) * (N : Int))) < hp))) <;> rfl
    cases hc : (!(((rr != l0) || (decide (hp < 1))) || (decide ((IntKind.i64.wrap ((2 : Int) * (N : Int))) < hp))))
    · exact .inr ⟨wt.trans hc, hK _ _ (fun _ _ _ _ _ _ h => h) (by show undef = if (!(((rr != l0) || (decide (hp < 1))) || (decide ((IntKind.i64.wrap ((2 : Int) * (N : Int))) < hp)))) = true then .int .i64 hp else undef; rw [hc]; rfl) hinv⟩
    · have f52 : y.eval (Operand.tmp 52) = .pointer (some ⟨g, 3, none⟩) := (show y.eval (Operand.tmp 52) = (if (!(((rr != l0) || (decide (hp < 1))) || (decide ((IntKind.i64.wrap ((2 : Int) * (N : Int))) < hp)))) = true then .pointer (some ⟨g, 3, none⟩) else undef) from E23.postI (Post := (p_rd5 g lb lo N lcap le ccap rq cao mm rs rr hp tw l0 lr)) (a := y) (w := w) D' (hwt 23 (hw 23 (by simp)))).trans (if_pos hc)
      have h0 := hinv.cell k_g_3 (fun h => h)
      exact .inl ⟨wt.trans hc, wp_value (ox_load (v := .int .i64 hp) ho f52 (by simp [go_sem, h0])) (hK _ _ (fun _ _ _ _ _ _ h => h) (by show _ = if (!(((rr != l0) || (decide (hp < 1))) || (decide ((IntKind.i64.wrap ((2 : Int) * (N : Int))) < hp)))) = true then .int .i64 hp else undef; rw [hc]; rfl) hinv)⟩
  have s25 : ∀ o, ops[25]? = some o → StepI Try.prog ops (p_rd5 g lb lo N lcap le ccap rq cao mm rs rr hp tw l0 lr) (fun (_ : Array Bool) (_ : Act) (w : World) => Mod (fun _ => False) w0 w) aZ Q 25 o := by
    refine E25.stepI fun o hd ho hg hw => ?_
    intro y w listed hsz hls hun hwt hdown D' hRR hinv K hK
    have gv : y.tmps.getD 48 undef = .bool (((rr != l0) || (decide (hp < 1))) || (decide ((IntKind.i64.wrap ((2 : Int) * (N : Int))) < hp))) := E19.postI (Post := (p_rd5 g lb lo N lcap le ccap rq cao mm rs rr hp tw l0 lr)) (a := y) (w := w) D' (hwt 19 (hw 19 (by simp)))
    have wt : Region.wanted o (yielded ops y.tmps) = (!(((rr != l0) || (decide (hp < 1))) || (decide ((IntKind.i64.wrap ((2 : Int) * (N : Int))) < hp)))) := by
      rw [wanted_b E19 hg (by rw [hsz, ha0]; decide) gv]
      cases (((rr != l0) || (decide (hp < 1))) || (decide ((IntKind.i64.wrap ((2 : Int) * (N : Int))) < hp))) <;> rfl
    cases hc : (!(((rr != l0) || (decide (hp < 1))) || (decide ((IntKind.i64.wrap ((2 : Int) * (N : Int))) < hp))))
    · exact .inr ⟨wt.trans hc, hK _ _ (fun _ _ _ _ _ _ h => h) (by show undef = if (!(((rr != l0) || (decide (hp < 1))) || (decide ((IntKind.i64.wrap ((2 : Int) * (N : Int))) < hp)))) = true then .int .i64 (N : Int) else undef; rw [hc]; rfl) hinv⟩
    · have f6 : y.eval (Operand.tmp 6) = .int .i64 (N : Int)   := (hRR 6 (not_of (by rw [hds]; decide))).trans bS6
      exact .inl ⟨wt.trans hc, wp_value (ox_move ho f6) (hK _ _ (fun _ _ _ _ _ _ h => h) (by show _ = if (!(((rr != l0) || (decide (hp < 1))) || (decide ((IntKind.i64.wrap ((2 : Int) * (N : Int))) < hp)))) = true then .int .i64 (N : Int) else undef; rw [hc]; rfl) hinv)⟩
  have s26 : ∀ o, ops[26]? = some o → StepI Try.prog ops (p_rd5 g lb lo N lcap le ccap rq cao mm rs rr hp tw l0 lr) (fun (_ : Array Bool) (_ : Act) (w : World) => Mod (fun _ => False) w0 w) aZ Q 26 o := by
    refine E26.stepI fun o hd ho hg hw => ?_
    intro y w listed hsz hls hun hwt hdown D' hRR hinv K hK
    have gv : y.tmps.getD 48 undef = .bool (((rr != l0) || (decide (hp < 1))) || (decide ((IntKind.i64.wrap ((2 : Int) * (N : Int))) < hp))) := E19.postI (Post := (p_rd5 g lb lo N lcap le ccap rq cao mm rs rr hp tw l0 lr)) (a := y) (w := w) D' (hwt 19 (hw 19 (by simp)))
    have wt : Region.wanted o (yielded ops y.tmps) = (!(((rr != l0) || (decide (hp < 1))) || (decide ((IntKind.i64.wrap ((2 : Int) * (N : Int))) < hp)))) := by
      rw [wanted_b E19 hg (by rw [hsz, ha0]; decide) gv]
      cases (((rr != l0) || (decide (hp < 1))) || (decide ((IntKind.i64.wrap ((2 : Int) * (N : Int))) < hp))) <;> rfl
    cases hc : (!(((rr != l0) || (decide (hp < 1))) || (decide ((IntKind.i64.wrap ((2 : Int) * (N : Int))) < hp))))
    · exact .inr ⟨wt.trans hc, hK _ _ (fun _ _ _ _ _ _ h => h) (by show undef = if (!(((rr != l0) || (decide (hp < 1))) || (decide ((IntKind.i64.wrap ((2 : Int) * (N : Int))) < hp)))) = true then .int .i64 (if (N : Int) < hp then (N : Int) else hp) else undef; rw [hc]; rfl) hinv⟩
    · have f53 : y.eval (Operand.tmp 53) = .int .i64 hp := (show y.eval (Operand.tmp 53) = (if (!(((rr != l0) || (decide (hp < 1))) || (decide ((IntKind.i64.wrap ((2 : Int) * (N : Int))) < hp)))) = true then .int .i64 hp else undef) from E24.postI (Post := (p_rd5 g lb lo N lcap le ccap rq cao mm rs rr hp tw l0 lr)) (a := y) (w := w) D' (hwt 24 (hw 24 (by simp)))).trans (if_pos hc)
      have f54 : y.eval (Operand.tmp 54) = .int .i64 (N : Int) := (show y.eval (Operand.tmp 54) = (if (!(((rr != l0) || (decide (hp < 1))) || (decide ((IntKind.i64.wrap ((2 : Int) * (N : Int))) < hp)))) = true then .int .i64 (N : Int) else undef) from E25.postI (Post := (p_rd5 g lb lo N lcap le ccap rq cao mm rs rr hp tw l0 lr)) (a := y) (w := w) D' (hwt 25 (hw 25 (by simp)))).trans (if_pos hc)
      exact .inl ⟨wt.trans hc, wp_value (rx_min ho f53 f54) (hK _ _ (fun _ _ _ _ _ _ h => h) (by show _ = if (!(((rr != l0) || (decide (hp < 1))) || (decide ((IntKind.i64.wrap ((2 : Int) * (N : Int))) < hp)))) = true then .int .i64 (if (N : Int) < hp then (N : Int) else hp) else undef; rw [hc]; rfl) hinv)⟩
  have s27 : ∀ o, ops[27]? = some o → StepI Try.prog ops (p_rd5 g lb lo N lcap le ccap rq cao mm rs rr hp tw l0 lr) (fun (_ : Array Bool) (_ : Act) (w : World) => Mod (fun _ => False) w0 w) aZ Q 27 o := by
    refine E27.stepI fun o hd ho hg hw => ?_
    intro y w listed hsz hls hun hwt hdown D' hRR hinv K hK
    have gv : y.tmps.getD 48 undef = .bool (((rr != l0) || (decide (hp < 1))) || (decide ((IntKind.i64.wrap ((2 : Int) * (N : Int))) < hp))) := E19.postI (Post := (p_rd5 g lb lo N lcap le ccap rq cao mm rs rr hp tw l0 lr)) (a := y) (w := w) D' (hwt 19 (hw 19 (by simp)))
    have wt : Region.wanted o (yielded ops y.tmps) = (!(((rr != l0) || (decide (hp < 1))) || (decide ((IntKind.i64.wrap ((2 : Int) * (N : Int))) < hp)))) := by
      rw [wanted_b E19 hg (by rw [hsz, ha0]; decide) gv]
      cases (((rr != l0) || (decide (hp < 1))) || (decide ((IntKind.i64.wrap ((2 : Int) * (N : Int))) < hp))) <;> rfl
    cases hc : (!(((rr != l0) || (decide (hp < 1))) || (decide ((IntKind.i64.wrap ((2 : Int) * (N : Int))) < hp))))
    · exact .inr ⟨wt.trans hc, hK _ _ (fun _ _ _ _ _ _ h => h) (by show undef = if (!(((rr != l0) || (decide (hp < 1))) || (decide ((IntKind.i64.wrap ((2 : Int) * (N : Int))) < hp)))) = true then .bool ((le : Int) != (if (N : Int) < hp then (N : Int) else hp)) else undef; rw [hc]; rfl) hinv⟩
    · have f51 : y.eval (Operand.tmp 51) = .int .i64 (le : Int) := (show y.eval (Operand.tmp 51) = (if (!(((rr != l0) || (decide (hp < 1))) || (decide ((IntKind.i64.wrap ((2 : Int) * (N : Int))) < hp)))) = true then .int .i64 (le : Int) else undef) from E22.postI (Post := (p_rd5 g lb lo N lcap le ccap rq cao mm rs rr hp tw l0 lr)) (a := y) (w := w) D' (hwt 22 (hw 22 (by simp)))).trans (if_pos hc)
      have f55 : y.eval (Operand.tmp 55) = .int .i64 (if (N : Int) < hp then (N : Int) else hp) := (show y.eval (Operand.tmp 55) = (if (!(((rr != l0) || (decide (hp < 1))) || (decide ((IntKind.i64.wrap ((2 : Int) * (N : Int))) < hp)))) = true then .int .i64 (if (N : Int) < hp then (N : Int) else hp) else undef) from E26.postI (Post := (p_rd5 g lb lo N lcap le ccap rq cao mm rs rr hp tw l0 lr)) (a := y) (w := w) D' (hwt 26 (hw 26 (by simp)))).trans (if_pos hc)
      exact .inl ⟨wt.trans hc, wp_value (rx_neq ho f51 f55) (hK _ _ (fun _ _ _ _ _ _ h => h) (by show _ = if (!(((rr != l0) || (decide (hp < 1))) || (decide ((IntKind.i64.wrap ((2 : Int) * (N : Int))) < hp)))) = true then .bool ((le : Int) != (if (N : Int) < hp then (N : Int) else hp)) else undef; rw [hc]; rfl) hinv)⟩
  have s28 : ∀ o, ops[28]? = some o → StepI Try.prog ops (p_rd5 g lb lo N lcap le ccap rq cao mm rs rr hp tw l0 lr) (fun (_ : Array Bool) (_ : Act) (w : World) => Mod (fun _ => False) w0 w) aZ Q 28 o := by
    refine E28.stepI fun o hd ho hg hw => ?_
    intro y w listed hsz hls hun hwt hdown D' hRR hinv K hK
    have f48 : y.eval (Operand.tmp 48) = .bool (((rr != l0) || (decide (hp < 1))) || (decide ((IntKind.i64.wrap ((2 : Int) * (N : Int))) < hp))) := E19.postI (Post := (p_rd5 g lb lo N lcap le ccap rq cao mm rs rr hp tw l0 lr)) (a := y) (w := w) D' (hwt 19 (hw 19 (by simp)))
    have f56 : y.eval (Operand.tmp 56) = if (!(((rr != l0) || (decide (hp < 1))) || (decide ((IntKind.i64.wrap ((2 : Int) * (N : Int))) < hp)))) = true then .bool ((le : Int) != (if (N : Int) < hp then (N : Int) else hp)) else undef := E27.postI (Post := (p_rd5 g lb lo N lcap le ccap rq cao mm rs rr hp tw l0 lr)) (a := y) (w := w) D' (hwt 27 (hw 27 (by simp)))
    exact .inl ⟨wanted_none hg, wp_value (ox_pick (v := .bool ((((rr != l0) || (decide (hp < 1))) || (decide ((IntKind.i64.wrap ((2 : Int) * (N : Int))) < hp))) || ((le : Int) != (if (N : Int) < hp then (N : Int) else hp)))) ho f48 (by rw [f56]; cases (((rr != l0) || (decide (hp < 1))) || (decide ((IntKind.i64.wrap ((2 : Int) * (N : Int))) < hp))) <;> rfl)) (hK _ _ (fun _ _ _ _ _ _ h => h) rfl hinv)⟩
  have s29 : ∀ o, ops[29]? = some o → StepI Try.prog ops (p_rd5 g lb lo N lcap le ccap rq cao mm rs rr hp tw l0 lr) (fun (_ : Array Bool) (_ : Act) (w : World) => Mod (fun _ => False) w0 w) aZ Q 29 o := by
    refine E29.stepI fun o hd ho hg hw => ?_
    intro y w listed hsz hls hun hwt hdown D' hRR hinv K hK
    have f57 : y.eval (Operand.tmp 57) = .bool ((((rr != l0) || (decide (hp < 1))) || (decide ((IntKind.i64.wrap ((2 : Int) * (N : Int))) < hp))) || ((le : Int) != (if (N : Int) < hp then (N : Int) else hp))) := E28.postI (Post := (p_rd5 g lb lo N lcap le ccap rq cao mm rs rr hp tw l0 lr)) (a := y) (w := w) D' (hwt 28 (hw 28 (by simp)))
    exact .inl ⟨wanted_none hg, wp_value (ox_move ho f57) (hK _ _ (fun _ _ _ _ _ _ h => h) rfl hinv)⟩
  have s30 : ∀ o, ops[30]? = some o → StepI Try.prog ops (p_rd5 g lb lo N lcap le ccap rq cao mm rs rr hp tw l0 lr) (fun (_ : Array Bool) (_ : Act) (w : World) => Mod (fun _ => False) w0 w) aZ Q 30 o := by
    refine E30.stepI fun o hd ho hg hw => ?_
    intro y w listed hsz hls hun hwt hdown D' hRR hinv K hK
    have gv : y.tmps.getD 58 undef = .bool ((((rr != l0) || (decide (hp < 1))) || (decide ((IntKind.i64.wrap ((2 : Int) * (N : Int))) < hp))) || ((le : Int) != (if (N : Int) < hp then (N : Int) else hp))) := E29.postI (Post := (p_rd5 g lb lo N lcap le ccap rq cao mm rs rr hp tw l0 lr)) (a := y) (w := w) D' (hwt 29 (hw 29 (by simp)))
    have wt : Region.wanted o (yielded ops y.tmps) = (!((((rr != l0) || (decide (hp < 1))) || (decide ((IntKind.i64.wrap ((2 : Int) * (N : Int))) < hp))) || ((le : Int) != (if (N : Int) < hp then (N : Int) else hp)))) := by
      rw [wanted_b E29 hg (by rw [hsz, ha0]; decide) gv]
      cases ((((rr != l0) || (decide (hp < 1))) || (decide ((IntKind.i64.wrap ((2 : Int) * (N : Int))) < hp))) || ((le : Int) != (if (N : Int) < hp then (N : Int) else hp))) <;> rfl
    cases hc : (!((((rr != l0) || (decide (hp < 1))) || (decide ((IntKind.i64.wrap ((2 : Int) * (N : Int))) < hp))) || ((le : Int) != (if (N : Int) < hp then (N : Int) else hp))))
    · exact .inr ⟨wt.trans hc, hK _ _ (fun _ _ _ _ _ _ h => h) (by show undef = if (!((((rr != l0) || (decide (hp < 1))) || (decide ((IntKind.i64.wrap ((2 : Int) * (N : Int))) < hp))) || ((le : Int) != (if (N : Int) < hp then (N : Int) else hp)))) = true then .int .i64 tw else undef; rw [hc]; rfl) hinv⟩
    · have f1 : y.eval (Operand.tmp 1) = .int .i64 tw   := (hRR 1 (not_of (by rw [hds]; decide))).trans bS1
      exact .inl ⟨wt.trans hc, wp_value (ox_move ho f1) (hK _ _ (fun _ _ _ _ _ _ h => h) (by show _ = if (!((((rr != l0) || (decide (hp < 1))) || (decide ((IntKind.i64.wrap ((2 : Int) * (N : Int))) < hp))) || ((le : Int) != (if (N : Int) < hp then (N : Int) else hp)))) = true then .int .i64 tw else undef; rw [hc]; rfl) hinv)⟩
  have s31 : ∀ o, ops[31]? = some o → StepI Try.prog ops (p_rd5 g lb lo N lcap le ccap rq cao mm rs rr hp tw l0 lr) (fun (_ : Array Bool) (_ : Act) (w : World) => Mod (fun _ => False) w0 w) aZ Q 31 o := by
    refine E31.stepI fun o hd ho hg hw => ?_
    intro y w listed hsz hls hun hwt hdown D' hRR hinv K hK
    have gv : y.tmps.getD 58 undef = .bool ((((rr != l0) || (decide (hp < 1))) || (decide ((IntKind.i64.wrap ((2 : Int) * (N : Int))) < hp))) || ((le : Int) != (if (N : Int) < hp then (N : Int) else hp))) := E29.postI (Post := (p_rd5 g lb lo N lcap le ccap rq cao mm rs rr hp tw l0 lr)) (a := y) (w := w) D' (hwt 29 (hw 29 (by simp)))
    have wt : Region.wanted o (yielded ops y.tmps) = (!((((rr != l0) || (decide (hp < 1))) || (decide ((IntKind.i64.wrap ((2 : Int) * (N : Int))) < hp))) || ((le : Int) != (if (N : Int) < hp then (N : Int) else hp)))) := by
      rw [wanted_b E29 hg (by rw [hsz, ha0]; decide) gv]
      cases ((((rr != l0) || (decide (hp < 1))) || (decide ((IntKind.i64.wrap ((2 : Int) * (N : Int))) < hp))) || ((le : Int) != (if (N : Int) < hp then (N : Int) else hp))) <;> rfl
    cases hc : (!((((rr != l0) || (decide (hp < 1))) || (decide ((IntKind.i64.wrap ((2 : Int) * (N : Int))) < hp))) || ((le : Int) != (if (N : Int) < hp then (N : Int) else hp))))
    · exact .inr ⟨wt.trans hc, hK _ _ (fun _ _ _ _ _ _ h => h) (by show undef = if (!((((rr != l0) || (decide (hp < 1))) || (decide ((IntKind.i64.wrap ((2 : Int) * (N : Int))) < hp))) || ((le : Int) != (if (N : Int) < hp then (N : Int) else hp)))) = true then .slice (some ⟨lb, lo, none⟩) N lcap else undef; rw [hc]; rfl) hinv⟩
    · have f5 : y.eval (Operand.tmp 5) = .slice (some ⟨lb, lo, none⟩) N lcap   := (hRR 5 (not_of (by rw [hds]; decide))).trans bS5
      exact .inl ⟨wt.trans hc, wp_value (ox_move ho f5) (hK _ _ (fun _ _ _ _ _ _ h => h) (by show _ = if (!((((rr != l0) || (decide (hp < 1))) || (decide ((IntKind.i64.wrap ((2 : Int) * (N : Int))) < hp))) || ((le : Int) != (if (N : Int) < hp then (N : Int) else hp)))) = true then .slice (some ⟨lb, lo, none⟩) N lcap else undef; rw [hc]; rfl) hinv)⟩
  have s32 : ∀ o, ops[32]? = some o → StepI Try.prog ops (p_rd5 g lb lo N lcap le ccap rq cao mm rs rr hp tw l0 lr) (fun (_ : Array Bool) (_ : Act) (w : World) => Mod (fun _ => False) w0 w) aZ Q 32 o := by
    refine E32.stepI fun o hd ho hg hw => ?_
    intro y w listed hsz hls hun hwt hdown D' hRR hinv K hK
    have gv : y.tmps.getD 58 undef = .bool ((((rr != l0) || (decide (hp < 1))) || (decide ((IntKind.i64.wrap ((2 : Int) * (N : Int))) < hp))) || ((le : Int) != (if (N : Int) < hp then (N : Int) else hp))) := E29.postI (Post := (p_rd5 g lb lo N lcap le ccap rq cao mm rs rr hp tw l0 lr)) (a := y) (w := w) D' (hwt 29 (hw 29 (by simp)))
    have wt : Region.wanted o (yielded ops y.tmps) = (!((((rr != l0) || (decide (hp < 1))) || (decide ((IntKind.i64.wrap ((2 : Int) * (N : Int))) < hp))) || ((le : Int) != (if (N : Int) < hp then (N : Int) else hp)))) := by
      rw [wanted_b E29 hg (by rw [hsz, ha0]; decide) gv]
      cases ((((rr != l0) || (decide (hp < 1))) || (decide ((IntKind.i64.wrap ((2 : Int) * (N : Int))) < hp))) || ((le : Int) != (if (N : Int) < hp then (N : Int) else hp))) <;> rfl
    cases hc : (!((((rr != l0) || (decide (hp < 1))) || (decide ((IntKind.i64.wrap ((2 : Int) * (N : Int))) < hp))) || ((le : Int) != (if (N : Int) < hp then (N : Int) else hp))))
    · exact .inr ⟨wt.trans hc, hK _ _ (fun _ _ _ _ _ _ h => h) (by show undef = if (!((((rr != l0) || (decide (hp < 1))) || (decide ((IntKind.i64.wrap ((2 : Int) * (N : Int))) < hp))) || ((le : Int) != (if (N : Int) < hp then (N : Int) else hp)))) = true then .pointer (some ⟨g, 3, none⟩) else undef; rw [hc]; rfl) hinv⟩
    · have f2 : y.eval (Operand.tmp 2) = .pointer (some ⟨g, 0, none⟩)   := (hRR 2 (not_of (by rw [hds]; decide))).trans bS2
      exact .inl ⟨wt.trans hc, wp_value (ox_field (v := .pointer (some ⟨g, 3, none⟩)) ho f2 (by simp [go_sem])) (hK _ _ (fun _ _ _ _ _ _ h => h) (by show _ = if (!((((rr != l0) || (decide (hp < 1))) || (decide ((IntKind.i64.wrap ((2 : Int) * (N : Int))) < hp))) || ((le : Int) != (if (N : Int) < hp then (N : Int) else hp)))) = true then .pointer (some ⟨g, 3, none⟩) else undef; rw [hc]; rfl) hinv)⟩
  have s33 : ∀ o, ops[33]? = some o → StepI Try.prog ops (p_rd5 g lb lo N lcap le ccap rq cao mm rs rr hp tw l0 lr) (fun (_ : Array Bool) (_ : Act) (w : World) => Mod (fun _ => False) w0 w) aZ Q 33 o := by
    refine E33.stepI fun o hd ho hg hw => ?_
    intro y w listed hsz hls hun hwt hdown D' hRR hinv K hK
    have gv : y.tmps.getD 58 undef = .bool ((((rr != l0) || (decide (hp < 1))) || (decide ((IntKind.i64.wrap ((2 : Int) * (N : Int))) < hp))) || ((le : Int) != (if (N : Int) < hp then (N : Int) else hp))) := E29.postI (Post := (p_rd5 g lb lo N lcap le ccap rq cao mm rs rr hp tw l0 lr)) (a := y) (w := w) D' (hwt 29 (hw 29 (by simp)))
    have wt : Region.wanted o (yielded ops y.tmps) = (!((((rr != l0) || (decide (hp < 1))) || (decide ((IntKind.i64.wrap ((2 : Int) * (N : Int))) < hp))) || ((le : Int) != (if (N : Int) < hp then (N : Int) else hp)))) := by
      rw [wanted_b E29 hg (by rw [hsz, ha0]; decide) gv]
      cases ((((rr != l0) || (decide (hp < 1))) || (decide ((IntKind.i64.wrap ((2 : Int) * (N : Int))) < hp))) || ((le : Int) != (if (N : Int) < hp then (N : Int) else hp))) <;> rfl
    cases hc : (!((((rr != l0) || (decide (hp < 1))) || (decide ((IntKind.i64.wrap ((2 : Int) * (N : Int))) < hp))) || ((le : Int) != (if (N : Int) < hp then (N : Int) else hp))))
    · exact .inr ⟨wt.trans hc, hK _ _ (fun _ _ _ _ _ _ h => h) (by show undef = if (!((((rr != l0) || (decide (hp < 1))) || (decide ((IntKind.i64.wrap ((2 : Int) * (N : Int))) < hp))) || ((le : Int) != (if (N : Int) < hp then (N : Int) else hp)))) = true then .int .i64 hp else undef; rw [hc]; rfl) hinv⟩
    · have f61 : y.eval (Operand.tmp 61) = .pointer (some ⟨g, 3, none⟩) := (show y.eval (Operand.tmp 61) = (if (!((((rr != l0) || (decide (hp < 1))) || (decide ((IntKind.i64.wrap ((2 : Int) * (N : Int))) < hp))) || ((le : Int) != (if (N : Int) < hp then (N : Int) else hp)))) = true then .pointer (some ⟨g, 3, none⟩) else undef) from E32.postI (Post := (p_rd5 g lb lo N lcap le ccap rq cao mm rs rr hp tw l0 lr)) (a := y) (w := w) D' (hwt 32 (hw 32 (by simp)))).trans (if_pos hc)
      have h0 := hinv.cell k_g_3 (fun h => h)
      exact .inl ⟨wt.trans hc, wp_value (ox_load (v := .int .i64 hp) ho f61 (by simp [go_sem, h0])) (hK _ _ (fun _ _ _ _ _ _ h => h) (by show _ = if (!((((rr != l0) || (decide (hp < 1))) || (decide ((IntKind.i64.wrap ((2 : Int) * (N : Int))) < hp))) || ((le : Int) != (if (N : Int) < hp then (N : Int) else hp)))) = true then .int .i64 hp else undef; rw [hc]; rfl) hinv)⟩
  have s34 : ∀ o, ops[34]? = some o → StepI Try.prog ops (p_rd5 g lb lo N lcap le ccap rq cao mm rs rr hp tw l0 lr) (fun (_ : Array Bool) (_ : Act) (w : World) => Mod (fun _ => False) w0 w) aZ Q 34 o := by
    refine E34.stepI fun o hd ho hg hw => ?_
    intro y w listed hsz hls hun hwt hdown D' hRR hinv K hK
    have gv : y.tmps.getD 58 undef = .bool ((((rr != l0) || (decide (hp < 1))) || (decide ((IntKind.i64.wrap ((2 : Int) * (N : Int))) < hp))) || ((le : Int) != (if (N : Int) < hp then (N : Int) else hp))) := E29.postI (Post := (p_rd5 g lb lo N lcap le ccap rq cao mm rs rr hp tw l0 lr)) (a := y) (w := w) D' (hwt 29 (hw 29 (by simp)))
    have wt : Region.wanted o (yielded ops y.tmps) = (!((((rr != l0) || (decide (hp < 1))) || (decide ((IntKind.i64.wrap ((2 : Int) * (N : Int))) < hp))) || ((le : Int) != (if (N : Int) < hp then (N : Int) else hp)))) := by
      rw [wanted_b E29 hg (by rw [hsz, ha0]; decide) gv]
      cases ((((rr != l0) || (decide (hp < 1))) || (decide ((IntKind.i64.wrap ((2 : Int) * (N : Int))) < hp))) || ((le : Int) != (if (N : Int) < hp then (N : Int) else hp))) <;> rfl
    cases hc : (!((((rr != l0) || (decide (hp < 1))) || (decide ((IntKind.i64.wrap ((2 : Int) * (N : Int))) < hp))) || ((le : Int) != (if (N : Int) < hp then (N : Int) else hp))))
    · exact .inr ⟨wt.trans hc, hK _ _ (fun _ _ _ _ _ _ h => h) (by show undef = if (!((((rr != l0) || (decide (hp < 1))) || (decide ((IntKind.i64.wrap ((2 : Int) * (N : Int))) < hp))) || ((le : Int) != (if (N : Int) < hp then (N : Int) else hp)))) = true then .int .i64 (N : Int) else undef; rw [hc]; rfl) hinv⟩
    · have f6 : y.eval (Operand.tmp 6) = .int .i64 (N : Int)   := (hRR 6 (not_of (by rw [hds]; decide))).trans bS6
      exact .inl ⟨wt.trans hc, wp_value (ox_move ho f6) (hK _ _ (fun _ _ _ _ _ _ h => h) (by show _ = if (!((((rr != l0) || (decide (hp < 1))) || (decide ((IntKind.i64.wrap ((2 : Int) * (N : Int))) < hp))) || ((le : Int) != (if (N : Int) < hp then (N : Int) else hp)))) = true then .int .i64 (N : Int) else undef; rw [hc]; rfl) hinv)⟩
  have s35 : ∀ o, ops[35]? = some o → StepI Try.prog ops (p_rd5 g lb lo N lcap le ccap rq cao mm rs rr hp tw l0 lr) (fun (_ : Array Bool) (_ : Act) (w : World) => Mod (fun _ => False) w0 w) aZ Q 35 o := by
    refine E35.stepI fun o hd ho hg hw => ?_
    intro y w listed hsz hls hun hwt hdown D' hRR hinv K hK
    have gv : y.tmps.getD 58 undef = .bool ((((rr != l0) || (decide (hp < 1))) || (decide ((IntKind.i64.wrap ((2 : Int) * (N : Int))) < hp))) || ((le : Int) != (if (N : Int) < hp then (N : Int) else hp))) := E29.postI (Post := (p_rd5 g lb lo N lcap le ccap rq cao mm rs rr hp tw l0 lr)) (a := y) (w := w) D' (hwt 29 (hw 29 (by simp)))
    have wt : Region.wanted o (yielded ops y.tmps) = (!((((rr != l0) || (decide (hp < 1))) || (decide ((IntKind.i64.wrap ((2 : Int) * (N : Int))) < hp))) || ((le : Int) != (if (N : Int) < hp then (N : Int) else hp)))) := by
      rw [wanted_b E29 hg (by rw [hsz, ha0]; decide) gv]
      cases ((((rr != l0) || (decide (hp < 1))) || (decide ((IntKind.i64.wrap ((2 : Int) * (N : Int))) < hp))) || ((le : Int) != (if (N : Int) < hp then (N : Int) else hp))) <;> rfl
    cases hc : (!((((rr != l0) || (decide (hp < 1))) || (decide ((IntKind.i64.wrap ((2 : Int) * (N : Int))) < hp))) || ((le : Int) != (if (N : Int) < hp then (N : Int) else hp))))
    · exact .inr ⟨wt.trans hc, hK _ _ (fun _ _ _ _ _ _ h => h) (by show undef = if (!((((rr != l0) || (decide (hp < 1))) || (decide ((IntKind.i64.wrap ((2 : Int) * (N : Int))) < hp))) || ((le : Int) != (if (N : Int) < hp then (N : Int) else hp)))) = true then .int .i64 (rq : Int) else undef; rw [hc]; rfl) hinv⟩
    · have f62 : y.eval (Operand.tmp 62) = .int .i64 hp := (show y.eval (Operand.tmp 62) = (if (!((((rr != l0) || (decide (hp < 1))) || (decide ((IntKind.i64.wrap ((2 : Int) * (N : Int))) < hp))) || ((le : Int) != (if (N : Int) < hp then (N : Int) else hp)))) = true then .int .i64 hp else undef) from E33.postI (Post := (p_rd5 g lb lo N lcap le ccap rq cao mm rs rr hp tw l0 lr)) (a := y) (w := w) D' (hwt 33 (hw 33 (by simp)))).trans (if_pos hc)
      have f63 : y.eval (Operand.tmp 63) = .int .i64 (N : Int) := (show y.eval (Operand.tmp 63) = (if (!((((rr != l0) || (decide (hp < 1))) || (decide ((IntKind.i64.wrap ((2 : Int) * (N : Int))) < hp))) || ((le : Int) != (if (N : Int) < hp then (N : Int) else hp)))) = true then .int .i64 (N : Int) else undef) from E34.postI (Post := (p_rd5 g lb lo N lcap le ccap rq cao mm rs rr hp tw l0 lr)) (a := y) (w := w) D' (hwt 34 (hw 34 (by simp)))).trans (if_pos hc)
      exact .inl ⟨wt.trans hc, wp_value (v := .int .i64 (rq : Int)) (by have h := rx_rem (w := w) ho f62 f63 (by omega); rw [hq hc] at h; exact h) (hK _ _ (fun _ _ _ _ _ _ h => h) (by show _ = if (!((((rr != l0) || (decide (hp < 1))) || (decide ((IntKind.i64.wrap ((2 : Int) * (N : Int))) < hp))) || ((le : Int) != (if (N : Int) < hp then (N : Int) else hp)))) = true then .int .i64 (rq : Int) else undef; rw [hc]; rfl) hinv)⟩
  have s36 : ∀ o, ops[36]? = some o → StepI Try.prog ops (p_rd5 g lb lo N lcap le ccap rq cao mm rs rr hp tw l0 lr) (fun (_ : Array Bool) (_ : Act) (w : World) => Mod (fun _ => False) w0 w) aZ Q 36 o := by
    refine E36.stepI fun o hd ho hg hw => ?_
    intro y w listed hsz hls hun hwt hdown D' hRR hinv K hK
    have gv : y.tmps.getD 58 undef = .bool ((((rr != l0) || (decide (hp < 1))) || (decide ((IntKind.i64.wrap ((2 : Int) * (N : Int))) < hp))) || ((le : Int) != (if (N : Int) < hp then (N : Int) else hp))) := E29.postI (Post := (p_rd5 g lb lo N lcap le ccap rq cao mm rs rr hp tw l0 lr)) (a := y) (w := w) D' (hwt 29 (hw 29 (by simp)))
    have wt : Region.wanted o (yielded ops y.tmps) = (!((((rr != l0) || (decide (hp < 1))) || (decide ((IntKind.i64.wrap ((2 : Int) * (N : Int))) < hp))) || ((le : Int) != (if (N : Int) < hp then (N : Int) else hp)))) := by
      rw [wanted_b E29 hg (by rw [hsz, ha0]; decide) gv]
      cases ((((rr != l0) || (decide (hp < 1))) || (decide ((IntKind.i64.wrap ((2 : Int) * (N : Int))) < hp))) || ((le : Int) != (if (N : Int) < hp then (N : Int) else hp))) <;> rfl
    cases hc : (!((((rr != l0) || (decide (hp < 1))) || (decide ((IntKind.i64.wrap ((2 : Int) * (N : Int))) < hp))) || ((le : Int) != (if (N : Int) < hp then (N : Int) else hp))))
    · exact .inr ⟨wt.trans hc, hK _ _ (fun _ _ _ _ _ _ h => h) (by show undef = if (!((((rr != l0) || (decide (hp < 1))) || (decide ((IntKind.i64.wrap ((2 : Int) * (N : Int))) < hp))) || ((le : Int) != (if (N : Int) < hp then (N : Int) else hp)))) = true then .pointer (some ⟨lb, lo + rq, none⟩) else undef; rw [hc]; rfl) hinv⟩
    · have f60 : y.eval (Operand.tmp 60) = .slice (some ⟨lb, lo, none⟩) N lcap := (show y.eval (Operand.tmp 60) = (if (!((((rr != l0) || (decide (hp < 1))) || (decide ((IntKind.i64.wrap ((2 : Int) * (N : Int))) < hp))) || ((le : Int) != (if (N : Int) < hp then (N : Int) else hp)))) = true then .slice (some ⟨lb, lo, none⟩) N lcap else undef) from E31.postI (Post := (p_rd5 g lb lo N lcap le ccap rq cao mm rs rr hp tw l0 lr)) (a := y) (w := w) D' (hwt 31 (hw 31 (by simp)))).trans (if_pos hc)
      have f64 : y.eval (Operand.tmp 64) = .int .i64 (rq : Int) := (show y.eval (Operand.tmp 64) = (if (!((((rr != l0) || (decide (hp < 1))) || (decide ((IntKind.i64.wrap ((2 : Int) * (N : Int))) < hp))) || ((le : Int) != (if (N : Int) < hp then (N : Int) else hp)))) = true then .int .i64 (rq : Int) else undef) from E35.postI (Post := (p_rd5 g lb lo N lcap le ccap rq cao mm rs rr hp tw l0 lr)) (a := y) (w := w) D' (hwt 35 (hw 35 (by simp)))).trans (if_pos hc)
      exact .inl ⟨wt.trans hc, wp_value (ox_index (v := .pointer (some ⟨lb, lo + rq, none⟩)) ho f60 f64 (by simp [go_sem, hql])) (hK _ _ (fun _ _ _ _ _ _ h => h) (by show _ = if (!((((rr != l0) || (decide (hp < 1))) || (decide ((IntKind.i64.wrap ((2 : Int) * (N : Int))) < hp))) || ((le : Int) != (if (N : Int) < hp then (N : Int) else hp)))) = true then .pointer (some ⟨lb, lo + rq, none⟩) else undef; rw [hc]; rfl) hinv)⟩
  have s37 : ∀ o, ops[37]? = some o → StepI Try.prog ops (p_rd5 g lb lo N lcap le ccap rq cao mm rs rr hp tw l0 lr) (fun (_ : Array Bool) (_ : Act) (w : World) => Mod (fun _ => False) w0 w) aZ Q 37 o := by
    refine E37.stepI fun o hd ho hg hw => ?_
    intro y w listed hsz hls hun hwt hdown D' hRR hinv K hK
    have gv : y.tmps.getD 58 undef = .bool ((((rr != l0) || (decide (hp < 1))) || (decide ((IntKind.i64.wrap ((2 : Int) * (N : Int))) < hp))) || ((le : Int) != (if (N : Int) < hp then (N : Int) else hp))) := E29.postI (Post := (p_rd5 g lb lo N lcap le ccap rq cao mm rs rr hp tw l0 lr)) (a := y) (w := w) D' (hwt 29 (hw 29 (by simp)))
    have wt : Region.wanted o (yielded ops y.tmps) = (!((((rr != l0) || (decide (hp < 1))) || (decide ((IntKind.i64.wrap ((2 : Int) * (N : Int))) < hp))) || ((le : Int) != (if (N : Int) < hp then (N : Int) else hp)))) := by
      rw [wanted_b E29 hg (by rw [hsz, ha0]; decide) gv]
      cases ((((rr != l0) || (decide (hp < 1))) || (decide ((IntKind.i64.wrap ((2 : Int) * (N : Int))) < hp))) || ((le : Int) != (if (N : Int) < hp then (N : Int) else hp))) <;> rfl
    cases hc : (!((((rr != l0) || (decide (hp < 1))) || (decide ((IntKind.i64.wrap ((2 : Int) * (N : Int))) < hp))) || ((le : Int) != (if (N : Int) < hp then (N : Int) else hp))))
    · exact .inr ⟨wt.trans hc, hK _ _ (fun _ _ _ _ _ _ h => h) (by show undef = if (!((((rr != l0) || (decide (hp < 1))) || (decide ((IntKind.i64.wrap ((2 : Int) * (N : Int))) < hp))) || ((le : Int) != (if (N : Int) < hp then (N : Int) else hp)))) = true then .int .i64 lr else undef; rw [hc]; rfl) hinv⟩
    · have f65 : y.eval (Operand.tmp 65) = .pointer (some ⟨lb, lo + rq, none⟩) := (show y.eval (Operand.tmp 65) = (if (!((((rr != l0) || (decide (hp < 1))) || (decide ((IntKind.i64.wrap ((2 : Int) * (N : Int))) < hp))) || ((le : Int) != (if (N : Int) < hp then (N : Int) else hp)))) = true then .pointer (some ⟨lb, lo + rq, none⟩) else undef) from E36.postI (Post := (p_rd5 g lb lo N lcap le ccap rq cao mm rs rr hp tw l0 lr)) (a := y) (w := w) D' (hwt 36 (hw 36 (by simp)))).trans (if_pos hc)
      have h0 := hinv.cell k_lb_lo_rq (fun h => h)
      exact .inl ⟨wt.trans hc, wp_value (ox_load (v := .int .i64 lr) ho f65 (by simp [go_sem, h0])) (hK _ _ (fun _ _ _ _ _ _ h => h) (by show _ = if (!((((rr != l0) || (decide (hp < 1))) || (decide ((IntKind.i64.wrap ((2 : Int) * (N : Int))) < hp))) || ((le : Int) != (if (N : Int) < hp then (N : Int) else hp)))) = true then .int .i64 lr else undef; rw [hc]; rfl) hinv)⟩
  have s38 : ∀ o, ops[38]? = some o → StepI Try.prog ops (p_rd5 g lb lo N lcap le ccap rq cao mm rs rr hp tw l0 lr) (fun (_ : Array Bool) (_ : Act) (w : World) => Mod (fun _ => False) w0 w) aZ Q 38 o := by
    refine E38.stepI fun o hd ho hg hw => ?_
    intro y w listed hsz hls hun hwt hdown D' hRR hinv K hK
    have gv : y.tmps.getD 58 undef = .bool ((((rr != l0) || (decide (hp < 1))) || (decide ((IntKind.i64.wrap ((2 : Int) * (N : Int))) < hp))) || ((le : Int) != (if (N : Int) < hp then (N : Int) else hp))) := E29.postI (Post := (p_rd5 g lb lo N lcap le ccap rq cao mm rs rr hp tw l0 lr)) (a := y) (w := w) D' (hwt 29 (hw 29 (by simp)))
    have wt : Region.wanted o (yielded ops y.tmps) = (!((((rr != l0) || (decide (hp < 1))) || (decide ((IntKind.i64.wrap ((2 : Int) * (N : Int))) < hp))) || ((le : Int) != (if (N : Int) < hp then (N : Int) else hp)))) := by
      rw [wanted_b E29 hg (by rw [hsz, ha0]; decide) gv]
      cases ((((rr != l0) || (decide (hp < 1))) || (decide ((IntKind.i64.wrap ((2 : Int) * (N : Int))) < hp))) || ((le : Int) != (if (N : Int) < hp then (N : Int) else hp))) <;> rfl
    cases hc : (!((((rr != l0) || (decide (hp < 1))) || (decide ((IntKind.i64.wrap ((2 : Int) * (N : Int))) < hp))) || ((le : Int) != (if (N : Int) < hp then (N : Int) else hp))))
    · exact .inr ⟨wt.trans hc, hK _ _ (fun _ _ _ _ _ _ h => h) (by show undef = if (!((((rr != l0) || (decide (hp < 1))) || (decide ((IntKind.i64.wrap ((2 : Int) * (N : Int))) < hp))) || ((le : Int) != (if (N : Int) < hp then (N : Int) else hp)))) = true then .bool (tw != lr) else undef; rw [hc]; rfl) hinv⟩
    · have f59 : y.eval (Operand.tmp 59) = .int .i64 tw := (show y.eval (Operand.tmp 59) = (if (!((((rr != l0) || (decide (hp < 1))) || (decide ((IntKind.i64.wrap ((2 : Int) * (N : Int))) < hp))) || ((le : Int) != (if (N : Int) < hp then (N : Int) else hp)))) = true then .int .i64 tw else undef) from E30.postI (Post := (p_rd5 g lb lo N lcap le ccap rq cao mm rs rr hp tw l0 lr)) (a := y) (w := w) D' (hwt 30 (hw 30 (by simp)))).trans (if_pos hc)
      have f66 : y.eval (Operand.tmp 66) = .int .i64 lr := (show y.eval (Operand.tmp 66) = (if (!((((rr != l0) || (decide (hp < 1))) || (decide ((IntKind.i64.wrap ((2 : Int) * (N : Int))) < hp))) || ((le : Int) != (if (N : Int) < hp then (N : Int) else hp)))) = true then .int .i64 lr else undef) from E37.postI (Post := (p_rd5 g lb lo N lcap le ccap rq cao mm rs rr hp tw l0 lr)) (a := y) (w := w) D' (hwt 37 (hw 37 (by simp)))).trans (if_pos hc)
      exact .inl ⟨wt.trans hc, wp_value (rx_neq ho f59 f66) (hK _ _ (fun _ _ _ _ _ _ h => h) (by show _ = if (!((((rr != l0) || (decide (hp < 1))) || (decide ((IntKind.i64.wrap ((2 : Int) * (N : Int))) < hp))) || ((le : Int) != (if (N : Int) < hp then (N : Int) else hp)))) = true then .bool (tw != lr) else undef; rw [hc]; rfl) hinv)⟩
  have s39 : ∀ o, ops[39]? = some o → StepI Try.prog ops (p_rd5 g lb lo N lcap le ccap rq cao mm rs rr hp tw l0 lr) (fun (_ : Array Bool) (_ : Act) (w : World) => Mod (fun _ => False) w0 w) aZ Q 39 o := by
    refine E39.stepI fun o hd ho hg hw => ?_
    intro y w listed hsz hls hun hwt hdown D' hRR hinv K hK
    have f58 : y.eval (Operand.tmp 58) = .bool ((((rr != l0) || (decide (hp < 1))) || (decide ((IntKind.i64.wrap ((2 : Int) * (N : Int))) < hp))) || ((le : Int) != (if (N : Int) < hp then (N : Int) else hp))) := E29.postI (Post := (p_rd5 g lb lo N lcap le ccap rq cao mm rs rr hp tw l0 lr)) (a := y) (w := w) D' (hwt 29 (hw 29 (by simp)))
    have f67 : y.eval (Operand.tmp 67) = if (!((((rr != l0) || (decide (hp < 1))) || (decide ((IntKind.i64.wrap ((2 : Int) * (N : Int))) < hp))) || ((le : Int) != (if (N : Int) < hp then (N : Int) else hp)))) = true then .bool (tw != lr) else undef := E38.postI (Post := (p_rd5 g lb lo N lcap le ccap rq cao mm rs rr hp tw l0 lr)) (a := y) (w := w) D' (hwt 38 (hw 38 (by simp)))
    exact .inl ⟨wanted_none hg, wp_value (ox_pick (v := .bool (((((rr != l0) || (decide (hp < 1))) || (decide ((IntKind.i64.wrap ((2 : Int) * (N : Int))) < hp))) || ((le : Int) != (if (N : Int) < hp then (N : Int) else hp))) || (tw != lr))) ho f58 (by rw [f67]; cases ((((rr != l0) || (decide (hp < 1))) || (decide ((IntKind.i64.wrap ((2 : Int) * (N : Int))) < hp))) || ((le : Int) != (if (N : Int) < hp then (N : Int) else hp))) <;> rfl)) (hK _ _ (fun _ _ _ _ _ _ h => h) rfl hinv)⟩
  refine region_freeI (Post := (p_rd5 g lb lo N lcap le ccap rq cao mm rs rr hp tw l0 lr)) (Inv := (fun (_ : Array Bool) (_ : Act) (w : World) => Mod (fun _ => False) w0 w)) mixed (low_of hlow) (fun i o ho => by rw [ha0]; exact dst_of (by rw [hds]; decide) i o ho) (inj_of hnd) (Mod.refl _ _).drew ?_ ?_
  · intro i o ho
    have hi : i < 40 := by
      rw [← hN]
      rcases Nat.lt_or_ge i ops.size with h | h
      · exact h
      · rw [Array.getElem?_eq_none h] at ho; cases ho
    clear hend
    by_cases e0 : i = 0
    · subst e0; exact s0 o ho
    by_cases e1 : i = 1
    · subst e1; exact s1 o ho
    by_cases e2 : i = 2
    · subst e2; exact s2 o ho
    by_cases e3 : i = 3
    · subst e3; exact s3 o ho
    by_cases e4 : i = 4
    · subst e4; exact s4 o ho
    by_cases e5 : i = 5
    · subst e5; exact s5 o ho
    by_cases e6 : i = 6
    · subst e6; exact s6 o ho
    by_cases e7 : i = 7
    · subst e7; exact s7 o ho
    by_cases e8 : i = 8
    · subst e8; exact s8 o ho
    by_cases e9 : i = 9
    · subst e9; exact s9 o ho
    by_cases e10 : i = 10
    · subst e10; exact s10 o ho
    by_cases e11 : i = 11
    · subst e11; exact s11 o ho
    by_cases e12 : i = 12
    · subst e12; exact s12 o ho
    by_cases e13 : i = 13
    · subst e13; exact s13 o ho
    by_cases e14 : i = 14
    · subst e14; exact s14 o ho
    by_cases e15 : i = 15
    · subst e15; exact s15 o ho
    by_cases e16 : i = 16
    · subst e16; exact s16 o ho
    by_cases e17 : i = 17
    · subst e17; exact s17 o ho
    by_cases e18 : i = 18
    · subst e18; exact s18 o ho
    by_cases e19 : i = 19
    · subst e19; exact s19 o ho
    by_cases e20 : i = 20
    · subst e20; exact s20 o ho
    by_cases e21 : i = 21
    · subst e21; exact s21 o ho
    by_cases e22 : i = 22
    · subst e22; exact s22 o ho
    by_cases e23 : i = 23
    · subst e23; exact s23 o ho
    by_cases e24 : i = 24
    · subst e24; exact s24 o ho
    by_cases e25 : i = 25
    · subst e25; exact s25 o ho
    by_cases e26 : i = 26
    · subst e26; exact s26 o ho
    by_cases e27 : i = 27
    · subst e27; exact s27 o ho
    by_cases e28 : i = 28
    · subst e28; exact s28 o ho
    by_cases e29 : i = 29
    · subst e29; exact s29 o ho
    by_cases e30 : i = 30
    · subst e30; exact s30 o ho
    by_cases e31 : i = 31
    · subst e31; exact s31 o ho
    by_cases e32 : i = 32
    · subst e32; exact s32 o ho
    by_cases e33 : i = 33
    · subst e33; exact s33 o ho
    by_cases e34 : i = 34
    · subst e34; exact s34 o ho
    by_cases e35 : i = 35
    · subst e35; exact s35 o ho
    by_cases e36 : i = 36
    · subst e36; exact s36 o ho
    by_cases e37 : i = 37
    · subst e37; exact s37 o ho
    by_cases e38 : i = 38
    · subst e38; exact s38 o ho
    by_cases e39 : i = 39
    · subst e39; exact s39 o ho
    omega
  · intro y w listed hsz hdf hls hall hinv hPO hRE
    have e : y = puts aZ [(29, .pointer (some ⟨g, 0, none⟩)), (30, .pointer (some ⟨g, 1, none⟩)), (31, .int .i64 rr), (32, .slice (some ⟨lb, lo, none⟩) N lcap), (33, .pointer (some ⟨lb, lo, none⟩)), (34, .int .i64 l0), (35, .bool (rr != l0)), (36, .bool (rr != l0)), (37, y.tmps.getD 37 undef), (38, y.tmps.getD 38 undef), (39, y.tmps.getD 39 undef), (40, .bool ((rr != l0) || (decide (hp < 1)))), (41, .bool ((rr != l0) || (decide (hp < 1)))), (42, y.tmps.getD 42 undef), (43, y.tmps.getD 43 undef), (44, y.tmps.getD 44 undef), (45, y.tmps.getD 45 undef), (46, y.tmps.getD 46 undef), (47, .bool (((rr != l0) || (decide (hp < 1))) || (decide ((IntKind.i64.wrap ((2 : Int) * (N : Int))) < hp)))), (48, .bool (((rr != l0) || (decide (hp < 1))) || (decide ((IntKind.i64.wrap ((2 : Int) * (N : Int))) < hp)))), (49, y.tmps.getD 49 undef), (50, y.tmps.getD 50 undef), (51, y.tmps.getD 51 undef), (52, y.tmps.getD 52 undef), (53, y.tmps.getD 53 undef), (54, y.tmps.getD 54 undef), (55, y.tmps.getD 55 undef), (56, y.tmps.getD 56 undef), (57, .bool ((((rr != l0) || (decide (hp < 1))) || (decide ((IntKind.i64.wrap ((2 : Int) * (N : Int))) < hp))) || ((le : Int) != (if (N : Int) < hp then (N : Int) else hp)))), (58, .bool ((((rr != l0) || (decide (hp < 1))) || (decide ((IntKind.i64.wrap ((2 : Int) * (N : Int))) < hp))) || ((le : Int) != (if (N : Int) < hp then (N : Int) else hp)))), (59, y.tmps.getD 59 undef), (60, y.tmps.getD 60 undef), (61, y.tmps.getD 61 undef), (62, y.tmps.getD 62 undef), (63, y.tmps.getD 63 undef), (64, y.tmps.getD 64 undef), (65, y.tmps.getD 65 undef), (66, y.tmps.getD 66 undef), (67, y.tmps.getD 67 undef), (68, .bool (((((rr != l0) || (decide (hp < 1))) || (decide ((IntKind.i64.wrap ((2 : Int) * (N : Int))) < hp))) || ((le : Int) != (if (N : Int) < hp then (N : Int) else hp))) || (tw != lr)))] := by
      refine eq_puts hsz hdf (nodup_of (D := [some 29, some 30, some 31, some 32, some 33, some 34, some 35, some 36, some 37, some 38, some 39, some 40, some 41, some 42, some 43, some 44, some 45, some 46, some 47, some 48, some 49, some 50, some 51, some 52, some 53, some 54, some 55, some 56, some 57, some 58, some 59, some 60, some 61, some 62, some 63, some 64, some 65, some 66, some 67, some 68]) rfl (by decide)) (by rw [ha0]; simp) ?_ ?_
      · intro q hq
        simp only [List.mem_cons, List.not_mem_nil, or_false] at hq
        rcases hq with rfl | rfl | rfl | rfl | rfl | rfl | rfl | rfl | rfl | rfl | rfl | rfl | rfl | rfl | rfl | rfl | rfl | rfl | rfl | rfl | rfl | rfl | rfl | rfl | rfl | rfl | rfl | rfl | rfl | rfl | rfl | rfl | rfl | rfl | rfl | rfl | rfl | rfl | rfl | rfl
        · obtain ⟨o, h1, h2, _⟩ := E0.ex
          exact hPO 0 o _ h1 h2
        · obtain ⟨o, h1, h2, _⟩ := E1.ex
          exact hPO 1 o _ h1 h2
        · obtain ⟨o, h1, h2, _⟩ := E2.ex
          exact hPO 2 o _ h1 h2
        · obtain ⟨o, h1, h2, _⟩ := E3.ex
          exact hPO 3 o _ h1 h2
        · obtain ⟨o, h1, h2, _⟩ := E4.ex
          exact hPO 4 o _ h1 h2
        · obtain ⟨o, h1, h2, _⟩ := E5.ex
          exact hPO 5 o _ h1 h2
        · obtain ⟨o, h1, h2, _⟩ := E6.ex
          exact hPO 6 o _ h1 h2
        · obtain ⟨o, h1, h2, _⟩ := E7.ex
          exact hPO 7 o _ h1 h2
        · rfl
        · rfl
        · rfl
        · obtain ⟨o, h1, h2, _⟩ := E11.ex
          exact hPO 11 o _ h1 h2
        · obtain ⟨o, h1, h2, _⟩ := E12.ex
          exact hPO 12 o _ h1 h2
        · rfl
        · rfl
        · rfl
        · rfl
        · rfl
        · obtain ⟨o, h1, h2, _⟩ := E18.ex
          exact hPO 18 o _ h1 h2
        · obtain ⟨o, h1, h2, _⟩ := E19.ex
          exact hPO 19 o _ h1 h2
        · rfl
        · rfl
        · rfl
        · rfl
        · rfl
        · rfl
        · rfl
        · rfl
        · obtain ⟨o, h1, h2, _⟩ := E28.ex
          exact hPO 28 o _ h1 h2
        · obtain ⟨o, h1, h2, _⟩ := E29.ex
          exact hPO 29 o _ h1 h2
        · rfl
        · rfl
        · rfl
        · rfl
        · rfl
        · rfl
        · rfl
        · rfl
        · rfl
        · obtain ⟨o, h1, h2, _⟩ := E39.ex
          exact hPO 39 o _ h1 h2
      · intro t ht
        exact hRE t (not_of (by rw [hds]; exact not_cont rfl ht))
    rw [e]
    exact hend (fun d => y.tmps.getD d undef) w hinv
/-- What is said of a slot. -/
def p_rd11 (g lb : Nat) (lo N lcap k : Nat) (en os od ar hh ck mk : Int) (c1 c2 c3 : Bool) (i : Nat) (v : Value) (_w : World) : Prop :=
  match i with
  | 0 => v = .pointer (some ⟨g, 0, none⟩)
  | 1 => v = .int .i64 en
  | 2 => v = .slice (some ⟨lb, lo, none⟩) N lcap
  | 3 => v = .int .i64 (k : Int)
  | 4 => v = .pointer (some ⟨lb, lo + k, none⟩)
  | 5 => v = .int .i64 mk
  | 6 => v = .bool (en != mk)
  | 7 => v = .bool (en != mk)
  | 8 => v = if (!(en != mk)) = true then .pointer (some ⟨g, 1, none⟩) else undef
  | 9 => v = if (!(en != mk)) = true then .agg #[.int .i64 os, .int .i64 od] else undef
  | 10 => v = if (!(en != mk)) = true then .bool c1 else undef
  | 11 => v = if (!(en != mk)) = true then .bool (!c1) else undef
  | 12 => v = .bool ((en != mk) || (!c1))
  | 13 => v = .bool ((en != mk) || (!c1))
  | 14 => v = if (!((en != mk) || (!c1))) = true then .pointer (some ⟨g, 3, none⟩) else undef
  | 15 => v = if (!((en != mk) || (!c1))) = true then .int .i64 ar else undef
  | 16 => v = if (!((en != mk) || (!c1))) = true then .bool (decide (ar < 0)) else undef
  | 17 => v = .bool (((en != mk) || (!c1)) || (decide (ar < 0)))
  | 18 => v = .bool (((en != mk) || (!c1)) || (decide (ar < 0)))
  | 19 => v = if (!(((en != mk) || (!c1)) || (decide (ar < 0)))) = true then .pointer (some ⟨g, 3, none⟩) else undef
  | 20 => v = if (!(((en != mk) || (!c1)) || (decide (ar < 0)))) = true then .int .i64 ar else undef
  | 21 => v = if (!(((en != mk) || (!c1)) || (decide (ar < 0)))) = true then .pointer (some ⟨g, 4, none⟩) else undef
  | 22 => v = if (!(((en != mk) || (!c1)) || (decide (ar < 0)))) = true then .int .i64 hh else undef
  | 23 => v = if (!(((en != mk) || (!c1)) || (decide (ar < 0)))) = true then .bool (decide (hh < ar)) else undef
  | 24 => v = .bool ((((en != mk) || (!c1)) || (decide (ar < 0))) || (decide (hh < ar)))
  | 25 => v = .bool ((((en != mk) || (!c1)) || (decide (ar < 0))) || (decide (hh < ar)))
  | 26 => v = if (!((((en != mk) || (!c1)) || (decide (ar < 0))) || (decide (hh < ar)))) = true then .pointer (some ⟨g, 4, none⟩) else undef
  | 27 => v = if (!((((en != mk) || (!c1)) || (decide (ar < 0))) || (decide (hh < ar)))) = true then .int .i64 hh else undef
  | 28 => v = if (!((((en != mk) || (!c1)) || (decide (ar < 0))) || (decide (hh < ar)))) = true then .bool c2 else undef
  | 29 => v = if (!((((en != mk) || (!c1)) || (decide (ar < 0))) || (decide (hh < ar)))) = true then .bool (!c2) else undef
  | 30 => v = .bool (((((en != mk) || (!c1)) || (decide (ar < 0))) || (decide (hh < ar))) || (!c2))
  | 31 => v = .bool (((((en != mk) || (!c1)) || (decide (ar < 0))) || (decide (hh < ar))) || (!c2))
  | 32 => v = if (!(((((en != mk) || (!c1)) || (decide (ar < 0))) || (decide (hh < ar))) || (!c2))) = true then .pointer (some ⟨g, 5, none⟩) else undef
  | 33 => v = if (!(((((en != mk) || (!c1)) || (decide (ar < 0))) || (decide (hh < ar))) || (!c2))) = true then .int .i64 ck else undef
  | 34 => v = if (!(((((en != mk) || (!c1)) || (decide (ar < 0))) || (decide (hh < ar))) || (!c2))) = true then .bool c3 else undef
  | 35 => v = if (!(((((en != mk) || (!c1)) || (decide (ar < 0))) || (decide (hh < ar))) || (!c2))) = true then .bool (!c3) else undef
  | 36 => v = .bool ((((((en != mk) || (!c1)) || (decide (ar < 0))) || (decide (hh < ar))) || (!c2)) || (!c3))
  | _ => True
/-- Its operations. -/
structure O_rd11 (ops : Array Oper) : Prop where
  e0 : Is ops 0 (some 81) (Op.fieldAddr 28 (Operand.tmp 8) 0) none []
  e1 : Is ops 1 (some 82) (Op.load 3 (Operand.tmp 81)) none [0]
  e2 : Is ops 2 (some 83) (Op.move (Operand.tmp 5)) none []
  e3 : Is ops 3 (some 84) (Op.move (Operand.tmp 7)) none []
  e4 : Is ops 4 (some 85) (Op.indexAddr 44 (Operand.tmp 83) (Operand.tmp 84)) none [2, 3]
  e5 : Is ops 5 (some 86) (Op.load 3 (Operand.tmp 85)) none [4]
  e6 : Is ops 6 (some 87) (Op.binOp BinOp.neq 3 (Operand.tmp 82) (Operand.tmp 86) 3) none [1, 5]
  e7 : Is ops 7 (some 88) (Op.move (Operand.tmp 87)) none [6]
  e8 : Is ops 8 (some 89) (Op.fieldAddr 28 (Operand.tmp 8) 1) (some (7, false)) [7]
  e9 : Is ops 9 (some 90) (Op.load 23 (Operand.tmp 89)) (some (7, false)) [7, 8]
  e10 : Is ops 10 (some 91) (Op.call { callee := Callee.value (Operand.func 55), args := #[Operand.tmp 90], argTypes := #[23] }) (some (7, false)) [7, 9]
  e11 : Is ops 11 (some 92) (Op.unOp UnOp.not 4 (Operand.tmp 91)) (some (7, false)) [7, 10]
  e12 : Is ops 12 (some 93) (Op.pick (Operand.tmp 88) (Operand.const (Value.bool true)) (Operand.tmp 92)) none [7, 11]
  e13 : Is ops 13 (some 94) (Op.move (Operand.tmp 93)) none [10, 12]
  e14 : Is ops 14 (some 95) (Op.fieldAddr 28 (Operand.tmp 8) 2) (some (13, false)) [13]
  e15 : Is ops 15 (some 96) (Op.load 3 (Operand.tmp 95)) (some (13, false)) [13, 14]
  e16 : Is ops 16 (some 97) (Op.binOp BinOp.lss 3 (Operand.tmp 96) (Operand.const (Value.int IntKind.i64 0)) 3) (some (13, false)) [13, 15]
  e17 : Is ops 17 (some 98) (Op.pick (Operand.tmp 94) (Operand.const (Value.bool true)) (Operand.tmp 97)) none [13, 16]
  e18 : Is ops 18 (some 99) (Op.move (Operand.tmp 98)) none [13, 17]
  e19 : Is ops 19 (some 100) (Op.fieldAddr 28 (Operand.tmp 8) 2) (some (18, false)) [18]
  e20 : Is ops 20 (some 101) (Op.load 3 (Operand.tmp 100)) (some (18, false)) [18, 19]
  e21 : Is ops 21 (some 102) (Op.fieldAddr 28 (Operand.tmp 8) 3) (some (18, false)) [18]
  e22 : Is ops 22 (some 103) (Op.load 3 (Operand.tmp 102)) (some (18, false)) [18, 21]
  e23 : Is ops 23 (some 104) (Op.binOp BinOp.gtr 3 (Operand.tmp 101) (Operand.tmp 103) 3) (some (18, false)) [18, 20, 22]
  e24 : Is ops 24 (some 105) (Op.pick (Operand.tmp 99) (Operand.const (Value.bool true)) (Operand.tmp 104)) none [18, 23]
  e25 : Is ops 25 (some 106) (Op.move (Operand.tmp 105)) none [18, 24]
  e26 : Is ops 26 (some 107) (Op.fieldAddr 28 (Operand.tmp 8) 3) (some (25, false)) [25]
  e27 : Is ops 27 (some 108) (Op.load 3 (Operand.tmp 107)) (some (25, false)) [25, 26]
  e28 : Is ops 28 (some 109) (Op.call { callee := Callee.value (Operand.func 56), args := #[Operand.tmp 108], argTypes := #[3] }) (some (25, false)) [25, 27]
  e29 : Is ops 29 (some 110) (Op.unOp UnOp.not 4 (Operand.tmp 109)) (some (25, false)) [25, 28]
  e30 : Is ops 30 (some 111) (Op.pick (Operand.tmp 106) (Operand.const (Value.bool true)) (Operand.tmp 110)) none [25, 29]
  e31 : Is ops 31 (some 112) (Op.move (Operand.tmp 111)) none [28, 30]
  e32 : Is ops 32 (some 113) (Op.fieldAddr 28 (Operand.tmp 8) 4) (some (31, false)) [31]
  e33 : Is ops 33 (some 114) (Op.load 3 (Operand.tmp 113)) (some (31, false)) [31, 32]
  e34 : Is ops 34 (some 115) (Op.call { callee := Callee.value (Operand.func 56), args := #[Operand.tmp 114], argTypes := #[3] }) (some (31, false)) [31, 33]
  e35 : Is ops 35 (some 116) (Op.unOp UnOp.not 4 (Operand.tmp 115)) (some (31, false)) [31, 34]
  e36 : Is ops 36 (some 117) (Op.pick (Operand.tmp 112) (Operand.const (Value.bool true)) (Operand.tmp 116)) none [31, 35]
set_option maxRecDepth 100000 in
set_option maxHeartbeats 4000000 in
theorem rd11 {ops : Array Oper} {id : Nat} {aZ : Act} {w0 : World} {Q : Exit → Act → World → Prop} (g lb : Nat) (lo N lcap k : Nat) (en os od ar hh ck mk : Int) (c1 c2 c3 : Bool)
    (E : O_rd11 ops) (hN : ops.size = 37) (hlow : lowB ops = true) (hds : dsts ops = [some 81, some 82, some 83, some 84, some 85, some 86, some 87, some 88, some 89, some 90, some 91, some 92, some 93, some 94, some 95, some 96, some 97, some 98, some 99, some 100, some 101, some 102, some 103, some 104, some 105, some 106, some 107, some 108, some 109, some 110, some 111, some 112, some 113, some 114, some 115, some 116, some 117]) (hnd : injB ops = true) (ha0 : aZ.tmps.size = 118)
    (bS5 : aZ.tmps.getD 5 undef = .slice (some ⟨lb, lo, none⟩) N lcap)
    (bS7 : aZ.tmps.getD 7 undef = .int .i64 (k : Int))
    (bS8 : aZ.tmps.getD 8 undef = .pointer (some ⟨g, 0, none⟩))
    (k_g_0 : w0.cell? ⟨g, 0, none⟩ = some (.int .i64 en))
    (k_g_1 : w0.cell? ⟨g, 1, none⟩ = some (.int .i64 os))
    (k_g_2 : w0.cell? ⟨g, 2, none⟩ = some (.int .i64 od))
    (k_g_3 : w0.cell? ⟨g, 3, none⟩ = some (.int .i64 ar))
    (k_g_4 : w0.cell? ⟨g, 4, none⟩ = some (.int .i64 hh))
    (k_g_5 : w0.cell? ⟨g, 5, none⟩ = some (.int .i64 ck))
    (k_lb_lo_k : w0.cell? ⟨lb, lo + k, none⟩ = some (.int .i64 mk))
    (hk : (k : Int) < (N : Int))
    (H10 : ∀ (W : World), Mod (fun _ => False) w0 W → Calls Try.prog 55 #[.agg #[.int .i64 os, .int .i64 od]] W fun e w' => e = .returned (.bool c1) ∧ Mod (fun _ => False) W w')
    (H28 : ∀ (W : World), Mod (fun _ => False) w0 W → Calls Try.prog 56 #[.int .i64 hh] W fun e w' => e = .returned (.bool c2) ∧ Mod (fun _ => False) W w')
    (H34 : ∀ (W : World), Mod (fun _ => False) w0 W → Calls Try.prog 56 #[.int .i64 ck] W fun e w' => e = .returned (.bool c3) ∧ Mod (fun _ => False) W w')
    (hend : ∀ (f : Nat → Value) (w : World), Mod (fun _ => False) w0 w → Q .normal (puts aZ [(81, .pointer (some ⟨g, 0, none⟩)), (82, .int .i64 en), (83, .slice (some ⟨lb, lo, none⟩) N lcap), (84, .int .i64 (k : Int)), (85, .pointer (some ⟨lb, lo + k, none⟩)), (86, .int .i64 mk), (87, .bool (en != mk)), (88, .bool (en != mk)), (89, f 89), (90, f 90), (91, f 91), (92, f 92), (93, .bool ((en != mk) || (!c1))), (94, .bool ((en != mk) || (!c1))), (95, f 95), (96, f 96), (97, f 97), (98, .bool (((en != mk) || (!c1)) || (decide (ar < 0)))), (99, .bool (((en != mk) || (!c1)) || (decide (ar < 0)))), (100, f 100), (101, f 101), (102, f 102), (103, f 103), (104, f 104), (105, .bool ((((en != mk) || (!c1)) || (decide (ar < 0))) || (decide (hh < ar)))), (106, .bool ((((en != mk) || (!c1)) || (decide (ar < 0))) || (decide (hh < ar)))), (107, f 107), (108, f 108), (109, f 109), (110, f 110), (111, .bool (((((en != mk) || (!c1)) || (decide (ar < 0))) || (decide (hh < ar))) || (!c2))), (112, .bool (((((en != mk) || (!c1)) || (decide (ar < 0))) || (decide (hh < ar))) || (!c2))), (113, f 113), (114, f 114), (115, f 115), (116, f 116), (117, .bool ((((((en != mk) || (!c1)) || (decide (ar < 0))) || (decide (hh < ar))) || (!c2)) || (!c3)))]) w) :
    (Code.region id ops true).wp Try.prog Q aZ w0 := by
  obtain ⟨E0, E1, E2, E3, E4, E5, E6, E7, E8, E9, E10, E11, E12, E13, E14, E15, E16, E17, E18, E19, E20, E21, E22, E23, E24, E25, E26, E27, E28, E29, E30, E31, E32, E33, E34, E35, E36⟩ := E
  have hstay : ∀ (i : Nat) (v : Value) (w w1 : World), Mod (fun _ => False) w w1 → (p_rd11 g lb lo N lcap k en os od ar hh ck mk c1 c2 c3) i v w → (p_rd11 g lb lo N lcap k en os od ar hh ck mk c1 c2 c3) i v w1 := fun _ _ _ _ _ h => h
  have s0 : ∀ o, ops[0]? = some o → StepI Try.prog ops (p_rd11 g lb lo N lcap k en os od ar hh ck mk c1 c2 c3) (fun (_ : Array Bool) (_ : Act) (w : World) => Mod (fun _ => False) w0 w) aZ Q 0 o := by
    refine E0.stepI fun o hd ho hg hw => ?_
    intro y w listed hsz hls hun hwt hdown D' hRR hinv K hK
    have f8 : y.eval (Operand.tmp 8) = .pointer (some ⟨g, 0, none⟩)   := (hRR 8 (not_of (by rw [hds]; decide))).trans bS8
    exact .inl ⟨wanted_none hg, wp_value (ox_field (v := .pointer (some ⟨g, 0, none⟩)) ho f8 (by simp [go_sem])) (hK _ _ (fun _ _ _ _ _ _ h => h) rfl hinv)⟩
  have s1 : ∀ o, ops[1]? = some o → StepI Try.prog ops (p_rd11 g lb lo N lcap k en os od ar hh ck mk c1 c2 c3) (fun (_ : Array Bool) (_ : Act) (w : World) => Mod (fun _ => False) w0 w) aZ Q 1 o := by
    refine E1.stepI fun o hd ho hg hw => ?_
    intro y w listed hsz hls hun hwt hdown D' hRR hinv K hK
    have f81 : y.eval (Operand.tmp 81) = .pointer (some ⟨g, 0, none⟩) := E0.postI (Post := (p_rd11 g lb lo N lcap k en os od ar hh ck mk c1 c2 c3)) (a := y) (w := w) D' (hwt 0 (hw 0 (by simp)))
    have h0 := hinv.cell k_g_0 (fun h => h)
    exact .inl ⟨wanted_none hg, wp_value (ox_load (v := .int .i64 en) ho f81 (by simp [go_sem, h0])) (hK _ _ (fun _ _ _ _ _ _ h => h) rfl hinv)⟩
  have s2 : ∀ o, ops[2]? = some o → StepI Try.prog ops (p_rd11 g lb lo N lcap k en os od ar hh ck mk c1 c2 c3) (fun (_ : Array Bool) (_ : Act) (w : World) => Mod (fun _ => False) w0 w) aZ Q 2 o := by
    refine E2.stepI fun o hd ho hg hw => ?_
    intro y w listed hsz hls hun hwt hdown D' hRR hinv K hK
    have f5 : y.eval (Operand.tmp 5) = .slice (some ⟨lb, lo, none⟩) N lcap   := (hRR 5 (not_of (by rw [hds]; decide))).trans bS5
    exact .inl ⟨wanted_none hg, wp_value (ox_move ho f5) (hK _ _ (fun _ _ _ _ _ _ h => h) rfl hinv)⟩
  have s3 : ∀ o, ops[3]? = some o → StepI Try.prog ops (p_rd11 g lb lo N lcap k en os od ar hh ck mk c1 c2 c3) (fun (_ : Array Bool) (_ : Act) (w : World) => Mod (fun _ => False) w0 w) aZ Q 3 o := by
    refine E3.stepI fun o hd ho hg hw => ?_
    intro y w listed hsz hls hun hwt hdown D' hRR hinv K hK
    have f7 : y.eval (Operand.tmp 7) = .int .i64 (k : Int)   := (hRR 7 (not_of (by rw [hds]; decide))).trans bS7
    exact .inl ⟨wanted_none hg, wp_value (ox_move ho f7) (hK _ _ (fun _ _ _ _ _ _ h => h) rfl hinv)⟩
  have s4 : ∀ o, ops[4]? = some o → StepI Try.prog ops (p_rd11 g lb lo N lcap k en os od ar hh ck mk c1 c2 c3) (fun (_ : Array Bool) (_ : Act) (w : World) => Mod (fun _ => False) w0 w) aZ Q 4 o := by
    refine E4.stepI fun o hd ho hg hw => ?_
    intro y w listed hsz hls hun hwt hdown D' hRR hinv K hK
    have f83 : y.eval (Operand.tmp 83) = .slice (some ⟨lb, lo, none⟩) N lcap := E2.postI (Post := (p_rd11 g lb lo N lcap k en os od ar hh ck mk c1 c2 c3)) (a := y) (w := w) D' (hwt 2 (hw 2 (by simp)))
    have f84 : y.eval (Operand.tmp 84) = .int .i64 (k : Int) := E3.postI (Post := (p_rd11 g lb lo N lcap k en os od ar hh ck mk c1 c2 c3)) (a := y) (w := w) D' (hwt 3 (hw 3 (by simp)))
    exact .inl ⟨wanted_none hg, wp_value (ox_index (v := .pointer (some ⟨lb, lo + k, none⟩)) ho f83 f84 (by simp [go_sem, hk])) (hK _ _ (fun _ _ _ _ _ _ h => h) rfl hinv)⟩
  have s5 : ∀ o, ops[5]? = some o → StepI Try.prog ops (p_rd11 g lb lo N lcap k en os od ar hh ck mk c1 c2 c3) (fun (_ : Array Bool) (_ : Act) (w : World) => Mod (fun _ => False) w0 w) aZ Q 5 o := by
    refine E5.stepI fun o hd ho hg hw => ?_
    intro y w listed hsz hls hun hwt hdown D' hRR hinv K hK
    have f85 : y.eval (Operand.tmp 85) = .pointer (some ⟨lb, lo + k, none⟩) := E4.postI (Post := (p_rd11 g lb lo N lcap k en os od ar hh ck mk c1 c2 c3)) (a := y) (w := w) D' (hwt 4 (hw 4 (by simp)))
    have h0 := hinv.cell k_lb_lo_k (fun h => h)
    exact .inl ⟨wanted_none hg, wp_value (ox_load (v := .int .i64 mk) ho f85 (by simp [go_sem, h0])) (hK _ _ (fun _ _ _ _ _ _ h => h) rfl hinv)⟩
  have s6 : ∀ o, ops[6]? = some o → StepI Try.prog ops (p_rd11 g lb lo N lcap k en os od ar hh ck mk c1 c2 c3) (fun (_ : Array Bool) (_ : Act) (w : World) => Mod (fun _ => False) w0 w) aZ Q 6 o := by
    refine E6.stepI fun o hd ho hg hw => ?_
    intro y w listed hsz hls hun hwt hdown D' hRR hinv K hK
    have f82 : y.eval (Operand.tmp 82) = .int .i64 en := E1.postI (Post := (p_rd11 g lb lo N lcap k en os od ar hh ck mk c1 c2 c3)) (a := y) (w := w) D' (hwt 1 (hw 1 (by simp)))
    have f86 : y.eval (Operand.tmp 86) = .int .i64 mk := E5.postI (Post := (p_rd11 g lb lo N lcap k en os od ar hh ck mk c1 c2 c3)) (a := y) (w := w) D' (hwt 5 (hw 5 (by simp)))
    exact .inl ⟨wanted_none hg, wp_value (rx_neq ho f82 f86) (hK _ _ (fun _ _ _ _ _ _ h => h) rfl hinv)⟩
  have s7 : ∀ o, ops[7]? = some o → StepI Try.prog ops (p_rd11 g lb lo N lcap k en os od ar hh ck mk c1 c2 c3) (fun (_ : Array Bool) (_ : Act) (w : World) => Mod (fun _ => False) w0 w) aZ Q 7 o := by
    refine E7.stepI fun o hd ho hg hw => ?_
    intro y w listed hsz hls hun hwt hdown D' hRR hinv K hK
    have f87 : y.eval (Operand.tmp 87) = .bool (en != mk) := E6.postI (Post := (p_rd11 g lb lo N lcap k en os od ar hh ck mk c1 c2 c3)) (a := y) (w := w) D' (hwt 6 (hw 6 (by simp)))
    exact .inl ⟨wanted_none hg, wp_value (ox_move ho f87) (hK _ _ (fun _ _ _ _ _ _ h => h) rfl hinv)⟩
  have s8 : ∀ o, ops[8]? = some o → StepI Try.prog ops (p_rd11 g lb lo N lcap k en os od ar hh ck mk c1 c2 c3) (fun (_ : Array Bool) (_ : Act) (w : World) => Mod (fun _ => False) w0 w) aZ Q 8 o := by
    refine E8.stepI fun o hd ho hg hw => ?_
    intro y w listed hsz hls hun hwt hdown D' hRR hinv K hK
    have gv : y.tmps.getD 88 undef = .bool (en != mk) := E7.postI (Post := (p_rd11 g lb lo N lcap k en os od ar hh ck mk c1 c2 c3)) (a := y) (w := w) D' (hwt 7 (hw 7 (by simp)))
    have wt : Region.wanted o (yielded ops y.tmps) = (!(en != mk)) := by
      rw [wanted_b E7 hg (by rw [hsz, ha0]; decide) gv]
      cases (en != mk) <;> rfl
    cases hc : (!(en != mk))
    · exact .inr ⟨wt.trans hc, hK _ _ (fun _ _ _ _ _ _ h => h) (by show undef = if (!(en != mk)) = true then .pointer (some ⟨g, 1, none⟩) else undef; rw [hc]; rfl) hinv⟩
    · have f8 : y.eval (Operand.tmp 8) = .pointer (some ⟨g, 0, none⟩)   := (hRR 8 (not_of (by rw [hds]; decide))).trans bS8
      exact .inl ⟨wt.trans hc, wp_value (ox_field (v := .pointer (some ⟨g, 1, none⟩)) ho f8 (by simp [go_sem])) (hK _ _ (fun _ _ _ _ _ _ h => h) (by show _ = if (!(en != mk)) = true then .pointer (some ⟨g, 1, none⟩) else undef; rw [hc]; rfl) hinv)⟩
  have s9 : ∀ o, ops[9]? = some o → StepI Try.prog ops (p_rd11 g lb lo N lcap k en os od ar hh ck mk c1 c2 c3) (fun (_ : Array Bool) (_ : Act) (w : World) => Mod (fun _ => False) w0 w) aZ Q 9 o := by
    refine E9.stepI fun o hd ho hg hw => ?_
    intro y w listed hsz hls hun hwt hdown D' hRR hinv K hK
    have gv : y.tmps.getD 88 undef = .bool (en != mk) := E7.postI (Post := (p_rd11 g lb lo N lcap k en os od ar hh ck mk c1 c2 c3)) (a := y) (w := w) D' (hwt 7 (hw 7 (by simp)))
    have wt : Region.wanted o (yielded ops y.tmps) = (!(en != mk)) := by
      rw [wanted_b E7 hg (by rw [hsz, ha0]; decide) gv]
      cases (en != mk) <;> rfl
    cases hc : (!(en != mk))
    · exact .inr ⟨wt.trans hc, hK _ _ (fun _ _ _ _ _ _ h => h) (by show undef = if (!(en != mk)) = true then .agg #[.int .i64 os, .int .i64 od] else undef; rw [hc]; rfl) hinv⟩
    · have f89 : y.eval (Operand.tmp 89) = .pointer (some ⟨g, 1, none⟩) := (show y.eval (Operand.tmp 89) = (if (!(en != mk)) = true then .pointer (some ⟨g, 1, none⟩) else undef) from E8.postI (Post := (p_rd11 g lb lo N lcap k en os od ar hh ck mk c1 c2 c3)) (a := y) (w := w) D' (hwt 8 (hw 8 (by simp)))).trans (if_pos hc)
      have h0 := hinv.cell k_g_1 (fun h => h)
      have h1 := hinv.cell k_g_2 (fun h => h)
      exact .inl ⟨wt.trans hc, wp_value (ox_load (v := .agg #[.int .i64 os, .int .i64 od]) ho f89 (by simp [go_sem, h0, h1])) (hK _ _ (fun _ _ _ _ _ _ h => h) (by show _ = if (!(en != mk)) = true then .agg #[.int .i64 os, .int .i64 od] else undef; rw [hc]; rfl) hinv)⟩
  have s10 : ∀ o, ops[10]? = some o → StepI Try.prog ops (p_rd11 g lb lo N lcap k en os od ar hh ck mk c1 c2 c3) (fun (_ : Array Bool) (_ : Act) (w : World) => Mod (fun _ => False) w0 w) aZ Q 10 o := by
    refine E10.stepI fun o hd ho hg hw => ?_
    intro y w listed hsz hls hun hwt hdown D' hRR hinv K hK
    have gv : y.tmps.getD 88 undef = .bool (en != mk) := E7.postI (Post := (p_rd11 g lb lo N lcap k en os od ar hh ck mk c1 c2 c3)) (a := y) (w := w) D' (hwt 7 (hw 7 (by simp)))
    have wt : Region.wanted o (yielded ops y.tmps) = (!(en != mk)) := by
      rw [wanted_b E7 hg (by rw [hsz, ha0]; decide) gv]
      cases (en != mk) <;> rfl
    cases hc : (!(en != mk))
    · exact .inr ⟨wt.trans hc, hK _ _ (fun _ _ _ _ _ _ h => h) (by show undef = if (!(en != mk)) = true then .bool c1 else undef; rw [hc]; rfl) hinv⟩
    · have f90 : y.eval (Operand.tmp 90) = .agg #[.int .i64 os, .int .i64 od] := (show y.eval (Operand.tmp 90) = (if (!(en != mk)) = true then .agg #[.int .i64 os, .int .i64 od] else undef) from E9.postI (Post := (p_rd11 g lb lo N lcap k en os od ar hh ck mk c1 c2 c3)) (a := y) (w := w) D' (hwt 9 (hw 9 (by simp)))).trans (if_pos hc)
      refine .inl ⟨wt.trans hc, wp_enter (f := 55) (args := #[.agg #[.int .i64 os, .int .i64 od]]) ?_ (H10 w  hinv ) ?_⟩
      · have h := exec_call1 y.eval (fun args w => by simp [go_sem]) rfl ho (w := w)
        rw [f90] at h
        exact h
      · rintro e w' ⟨rfl, hm⟩
        exact ⟨_, rfl, hK _ _ (fun j oj d _ _ _ h => hstay _ _ _ _ hm h) (by show _ = if (!(en != mk)) = true then .bool c1 else undef; rw [hc]; rfl) (hinv.and hm)⟩
  have s11 : ∀ o, ops[11]? = some o → StepI Try.prog ops (p_rd11 g lb lo N lcap k en os od ar hh ck mk c1 c2 c3) (fun (_ : Array Bool) (_ : Act) (w : World) => Mod (fun _ => False) w0 w) aZ Q 11 o := by
    refine E11.stepI fun o hd ho hg hw => ?_
    intro y w listed hsz hls hun hwt hdown D' hRR hinv K hK
    have gv : y.tmps.getD 88 undef = .bool (en != mk) := E7.postI (Post := (p_rd11 g lb lo N lcap k en os od ar hh ck mk c1 c2 c3)) (a := y) (w := w) D' (hwt 7 (hw 7 (by simp)))
    have wt : Region.wanted o (yielded ops y.tmps) = (!(en != mk)) := by
      rw [wanted_b E7 hg (by rw [hsz, ha0]; decide) gv]
      cases (en != mk) <;> rfl
    cases hc : (!(en != mk))
    · exact .inr ⟨wt.trans hc, hK _ _ (fun _ _ _ _ _ _ h => h) (by show undef = if (!(en != mk)) = true then .bool (!c1) else undef; rw [hc]; rfl) hinv⟩
    · have f91 : y.eval (Operand.tmp 91) = .bool c1 := (show y.eval (Operand.tmp 91) = (if (!(en != mk)) = true then .bool c1 else undef) from E10.postI (Post := (p_rd11 g lb lo N lcap k en os od ar hh ck mk c1 c2 c3)) (a := y) (w := w) D' (hwt 10 (hw 10 (by simp)))).trans (if_pos hc)
      exact .inl ⟨wt.trans hc, wp_value (ox_not ho f91) (hK _ _ (fun _ _ _ _ _ _ h => h) (by show _ = if (!(en != mk)) = true then .bool (!c1) else undef; rw [hc]; rfl) hinv)⟩
  have s12 : ∀ o, ops[12]? = some o → StepI Try.prog ops (p_rd11 g lb lo N lcap k en os od ar hh ck mk c1 c2 c3) (fun (_ : Array Bool) (_ : Act) (w : World) => Mod (fun _ => False) w0 w) aZ Q 12 o := by
    refine E12.stepI fun o hd ho hg hw => ?_
    intro y w listed hsz hls hun hwt hdown D' hRR hinv K hK
    have f88 : y.eval (Operand.tmp 88) = .bool (en != mk) := E7.postI (Post := (p_rd11 g lb lo N lcap k en os od ar hh ck mk c1 c2 c3)) (a := y) (w := w) D' (hwt 7 (hw 7 (by simp)))
    have f92 : y.eval (Operand.tmp 92) = if (!(en != mk)) = true then .bool (!c1) else undef := E11.postI (Post := (p_rd11 g lb lo N lcap k en os od ar hh ck mk c1 c2 c3)) (a := y) (w := w) D' (hwt 11 (hw 11 (by simp)))
    exact .inl ⟨wanted_none hg, wp_value (ox_pick (v := .bool ((en != mk) || (!c1))) ho f88 (by rw [f92]; cases (en != mk) <;> rfl)) (hK _ _ (fun _ _ _ _ _ _ h => h) rfl hinv)⟩
  have s13 : ∀ o, ops[13]? = some o → StepI Try.prog ops (p_rd11 g lb lo N lcap k en os od ar hh ck mk c1 c2 c3) (fun (_ : Array Bool) (_ : Act) (w : World) => Mod (fun _ => False) w0 w) aZ Q 13 o := by
    refine E13.stepI fun o hd ho hg hw => ?_
    intro y w listed hsz hls hun hwt hdown D' hRR hinv K hK
    have f93 : y.eval (Operand.tmp 93) = .bool ((en != mk) || (!c1)) := E12.postI (Post := (p_rd11 g lb lo N lcap k en os od ar hh ck mk c1 c2 c3)) (a := y) (w := w) D' (hwt 12 (hw 12 (by simp)))
    exact .inl ⟨wanted_none hg, wp_value (ox_move ho f93) (hK _ _ (fun _ _ _ _ _ _ h => h) rfl hinv)⟩
  have s14 : ∀ o, ops[14]? = some o → StepI Try.prog ops (p_rd11 g lb lo N lcap k en os od ar hh ck mk c1 c2 c3) (fun (_ : Array Bool) (_ : Act) (w : World) => Mod (fun _ => False) w0 w) aZ Q 14 o := by
    refine E14.stepI fun o hd ho hg hw => ?_
    intro y w listed hsz hls hun hwt hdown D' hRR hinv K hK
    have gv : y.tmps.getD 94 undef = .bool ((en != mk) || (!c1)) := E13.postI (Post := (p_rd11 g lb lo N lcap k en os od ar hh ck mk c1 c2 c3)) (a := y) (w := w) D' (hwt 13 (hw 13 (by simp)))
    have wt : Region.wanted o (yielded ops y.tmps) = (!((en != mk) || (!c1))) := by
      rw [wanted_b E13 hg (by rw [hsz, ha0]; decide) gv]
      cases ((en != mk) || (!c1)) <;> rfl
    cases hc : (!((en != mk) || (!c1)))
    · exact .inr ⟨wt.trans hc, hK _ _ (fun _ _ _ _ _ _ h => h) (by show undef = if (!((en != mk) || (!c1))) = true then .pointer (some ⟨g, 3, none⟩) else undef; rw [hc]; rfl) hinv⟩
    · have f8 : y.eval (Operand.tmp 8) = .pointer (some ⟨g, 0, none⟩)   := (hRR 8 (not_of (by rw [hds]; decide))).trans bS8
      exact .inl ⟨wt.trans hc, wp_value (ox_field (v := .pointer (some ⟨g, 3, none⟩)) ho f8 (by simp [go_sem])) (hK _ _ (fun _ _ _ _ _ _ h => h) (by show _ = if (!((en != mk) || (!c1))) = true then .pointer (some ⟨g, 3, none⟩) else undef; rw [hc]; rfl) hinv)⟩
  have s15 : ∀ o, ops[15]? = some o → StepI Try.prog ops (p_rd11 g lb lo N lcap k en os od ar hh ck mk c1 c2 c3) (fun (_ : Array Bool) (_ : Act) (w : World) => Mod (fun _ => False) w0 w) aZ Q 15 o := by
    refine E15.stepI fun o hd ho hg hw => ?_
    intro y w listed hsz hls hun hwt hdown D' hRR hinv K hK
    have gv : y.tmps.getD 94 undef = .bool ((en != mk) || (!c1)) := E13.postI (Post := (p_rd11 g lb lo N lcap k en os od ar hh ck mk c1 c2 c3)) (a := y) (w := w) D' (hwt 13 (hw 13 (by simp)))
    have wt : Region.wanted o (yielded ops y.tmps) = (!((en != mk) || (!c1))) := by
      rw [wanted_b E13 hg (by rw [hsz, ha0]; decide) gv]
      cases ((en != mk) || (!c1)) <;> rfl
    cases hc : (!((en != mk) || (!c1)))
    · exact .inr ⟨wt.trans hc, hK _ _ (fun _ _ _ _ _ _ h => h) (by show undef = if (!((en != mk) || (!c1))) = true then .int .i64 ar else undef; rw [hc]; rfl) hinv⟩
    · have f95 : y.eval (Operand.tmp 95) = .pointer (some ⟨g, 3, none⟩) := (show y.eval (Operand.tmp 95) = (if (!((en != mk) || (!c1))) = true then .pointer (some ⟨g, 3, none⟩) else undef) from E14.postI (Post := (p_rd11 g lb lo N lcap k en os od ar hh ck mk c1 c2 c3)) (a := y) (w := w) D' (hwt 14 (hw 14 (by simp)))).trans (if_pos hc)
      have h0 := hinv.cell k_g_3 (fun h => h)
      exact .inl ⟨wt.trans hc, wp_value (ox_load (v := .int .i64 ar) ho f95 (by simp [go_sem, h0])) (hK _ _ (fun _ _ _ _ _ _ h => h) (by show _ = if (!((en != mk) || (!c1))) = true then .int .i64 ar else undef; rw [hc]; rfl) hinv)⟩
  have s16 : ∀ o, ops[16]? = some o → StepI Try.prog ops (p_rd11 g lb lo N lcap k en os od ar hh ck mk c1 c2 c3) (fun (_ : Array Bool) (_ : Act) (w : World) => Mod (fun _ => False) w0 w) aZ Q 16 o := by
    refine E16.stepI fun o hd ho hg hw => ?_
    intro y w listed hsz hls hun hwt hdown D' hRR hinv K hK
    have gv : y.tmps.getD 94 undef = .bool ((en != mk) || (!c1)) := E13.postI (Post := (p_rd11 g lb lo N lcap k en os od ar hh ck mk c1 c2 c3)) (a := y) (w := w) D' (hwt 13 (hw 13 (by simp)))
    have wt : Region.wanted o (yielded ops y.tmps) = (!((en != mk) || (!c1))) := by
      rw [wanted_b E13 hg (by rw [hsz, ha0]; decide) gv]
      cases ((en != mk) || (!c1)) <;> rfl
    cases hc : (!((en != mk) || (!c1)))
    · exact .inr ⟨wt.trans hc, hK _ _ (fun _ _ _ _ _ _ h => h) (by show undef = if (!((en != mk) || (!c1))) = true then .bool (decide (ar < 0)) else undef; rw [hc]; rfl) hinv⟩
    · have f96 : y.eval (Operand.tmp 96) = .int .i64 ar := (show y.eval (Operand.tmp 96) = (if (!((en != mk) || (!c1))) = true then .int .i64 ar else undef) from E15.postI (Post := (p_rd11 g lb lo N lcap k en os od ar hh ck mk c1 c2 c3)) (a := y) (w := w) D' (hwt 15 (hw 15 (by simp)))).trans (if_pos hc)
      exact .inl ⟨wt.trans hc, wp_value (rx_lss ho f96 rfl) (hK _ _ (fun _ _ _ _ _ _ h => h) (by show _ = if (!((en != mk) || (!c1))) = true then .bool (decide (ar < 0)) else undef; rw [hc]; rfl) hinv)⟩
  have s17 : ∀ o, ops[17]? = some o → StepI Try.prog ops (p_rd11 g lb lo N lcap k en os od ar hh ck mk c1 c2 c3) (fun (_ : Array Bool) (_ : Act) (w : World) => Mod (fun _ => False) w0 w) aZ Q 17 o := by
    refine E17.stepI fun o hd ho hg hw => ?_
    intro y w listed hsz hls hun hwt hdown D' hRR hinv K hK
    have f94 : y.eval (Operand.tmp 94) = .bool ((en != mk) || (!c1)) := E13.postI (Post := (p_rd11 g lb lo N lcap k en os od ar hh ck mk c1 c2 c3)) (a := y) (w := w) D' (hwt 13 (hw 13 (by simp)))
    have f97 : y.eval (Operand.tmp 97) = if (!((en != mk) || (!c1))) = true then .bool (decide (ar < 0)) else undef := E16.postI (Post := (p_rd11 g lb lo N lcap k en os od ar hh ck mk c1 c2 c3)) (a := y) (w := w) D' (hwt 16 (hw 16 (by simp)))
    exact .inl ⟨wanted_none hg, wp_value (ox_pick (v := .bool (((en != mk) || (!c1)) || (decide (ar < 0)))) ho f94 (by rw [f97]; cases ((en != mk) || (!c1)) <;> rfl)) (hK _ _ (fun _ _ _ _ _ _ h => h) rfl hinv)⟩
  have s18 : ∀ o, ops[18]? = some o → StepI Try.prog ops (p_rd11 g lb lo N lcap k en os od ar hh ck mk c1 c2 c3) (fun (_ : Array Bool) (_ : Act) (w : World) => Mod (fun _ => False) w0 w) aZ Q 18 o := by
    refine E18.stepI fun o hd ho hg hw => ?_
    intro y w listed hsz hls hun hwt hdown D' hRR hinv K hK
    have f98 : y.eval (Operand.tmp 98) = .bool (((en != mk) || (!c1)) || (decide (ar < 0))) := E17.postI (Post := (p_rd11 g lb lo N lcap k en os od ar hh ck mk c1 c2 c3)) (a := y) (w := w) D' (hwt 17 (hw 17 (by simp)))
    exact .inl ⟨wanted_none hg, wp_value (ox_move ho f98) (hK _ _ (fun _ _ _ _ _ _ h => h) rfl hinv)⟩
  have s19 : ∀ o, ops[19]? = some o → StepI Try.prog ops (p_rd11 g lb lo N lcap k en os od ar hh ck mk c1 c2 c3) (fun (_ : Array Bool) (_ : Act) (w : World) => Mod (fun _ => False) w0 w) aZ Q 19 o := by
    refine E19.stepI fun o hd ho hg hw => ?_
    intro y w listed hsz hls hun hwt hdown D' hRR hinv K hK
    have gv : y.tmps.getD 99 undef = .bool (((en != mk) || (!c1)) || (decide (ar < 0))) := E18.postI (Post := (p_rd11 g lb lo N lcap k en os od ar hh ck mk c1 c2 c3)) (a := y) (w := w) D' (hwt 18 (hw 18 (by simp)))
    have wt : Region.wanted o (yielded ops y.tmps) = (!(((en != mk) || (!c1)) || (decide (ar < 0)))) := by
      rw [wanted_b E18 hg (by rw [hsz, ha0]; decide) gv]
      cases (((en != mk) || (!c1)) || (decide (ar < 0))) <;> rfl
    cases hc : (!(((en != mk) || (!c1)) || (decide (ar < 0))))
    · exact .inr ⟨wt.trans hc, hK _ _ (fun _ _ _ _ _ _ h => h) (by show undef = if (!(((en != mk) || (!c1)) || (decide (ar < 0)))) = true then .pointer (some ⟨g, 3, none⟩) else undef; rw [hc]; rfl) hinv⟩
    · have f8 : y.eval (Operand.tmp 8) = .pointer (some ⟨g, 0, none⟩)   := (hRR 8 (not_of (by rw [hds]; decide))).trans bS8
      exact .inl ⟨wt.trans hc, wp_value (ox_field (v := .pointer (some ⟨g, 3, none⟩)) ho f8 (by simp [go_sem])) (hK _ _ (fun _ _ _ _ _ _ h => h) (by show _ = if (!(((en != mk) || (!c1)) || (decide (ar < 0)))) = true then .pointer (some ⟨g, 3, none⟩) else undef; rw [hc]; rfl) hinv)⟩
  have s20 : ∀ o, ops[20]? = some o → StepI Try.prog ops (p_rd11 g lb lo N lcap k en os od ar hh ck mk c1 c2 c3) (fun (_ : Array Bool) (_ : Act) (w : World) => Mod (fun _ => False) w0 w) aZ Q 20 o := by
    refine E20.stepI fun o hd ho hg hw => ?_
    intro y w listed hsz hls hun hwt hdown D' hRR hinv K hK
    have gv : y.tmps.getD 99 undef = .bool (((en != mk) || (!c1)) || (decide (ar < 0))) := E18.postI (Post := (p_rd11 g lb lo N lcap k en os od ar hh ck mk c1 c2 c3)) (a := y) (w := w) D' (hwt 18 (hw 18 (by simp)))
    have wt : Region.wanted o (yielded ops y.tmps) = (!(((en != mk) || (!c1)) || (decide (ar < 0)))) := by
      rw [wanted_b E18 hg (by rw [hsz, ha0]; decide) gv]
      cases (((en != mk) || (!c1)) || (decide (ar < 0))) <;> rfl
    cases hc : (!(((en != mk) || (!c1)) || (decide (ar < 0))))
    · exact .inr ⟨wt.trans hc, hK _ _ (fun _ _ _ _ _ _ h => h) (by show undef = if (!(((en != mk) || (!c1)) || (decide (ar < 0)))) = true then .int .i64 ar else undef; rw [hc]; rfl) hinv⟩
    · have f100 : y.eval (Operand.tmp 100) = .pointer (some ⟨g, 3, none⟩) := (show y.eval (Operand.tmp 100) = (if (!(((en != mk) || (!c1)) || (decide (ar < 0)))) = true then .pointer (some ⟨g, 3, none⟩) else undef) from E19.postI (Post := (p_rd11 g lb lo N lcap k en os od ar hh ck mk c1 c2 c3)) (a := y) (w := w) D' (hwt 19 (hw 19 (by simp)))).trans (if_pos hc)
      have h0 := hinv.cell k_g_3 (fun h => h)
      exact .inl ⟨wt.trans hc, wp_value (ox_load (v := .int .i64 ar) ho f100 (by simp [go_sem, h0])) (hK _ _ (fun _ _ _ _ _ _ h => h) (by show _ = if (!(((en != mk) || (!c1)) || (decide (ar < 0)))) = true then .int .i64 ar else undef; rw [hc]; rfl) hinv)⟩
  have s21 : ∀ o, ops[21]? = some o → StepI Try.prog ops (p_rd11 g lb lo N lcap k en os od ar hh ck mk c1 c2 c3) (fun (_ : Array Bool) (_ : Act) (w : World) => Mod (fun _ => False) w0 w) aZ Q 21 o := by
    refine E21.stepI fun o hd ho hg hw => ?_
    intro y w listed hsz hls hun hwt hdown D' hRR hinv K hK
    have gv : y.tmps.getD 99 undef = .bool (((en != mk) || (!c1)) || (decide (ar < 0))) := E18.postI (Post := (p_rd11 g lb lo N lcap k en os od ar hh ck mk c1 c2 c3)) (a := y) (w := w) D' (hwt 18 (hw 18 (by simp)))
    have wt : Region.wanted o (yielded ops y.tmps) = (!(((en != mk) || (!c1)) || (decide (ar < 0)))) := by
      rw [wanted_b E18 hg (by rw [hsz, ha0]; decide) gv]
      cases (((en != mk) || (!c1)) || (decide (ar < 0))) <;> rfl
    cases hc : (!(((en != mk) || (!c1)) || (decide (ar < 0))))
    · exact .inr ⟨wt.trans hc, hK _ _ (fun _ _ _ _ _ _ h => h) (by show undef = if (!(((en != mk) || (!c1)) || (decide (ar < 0)))) = true then .pointer (some ⟨g, 4, none⟩) else undef; rw [hc]; rfl) hinv⟩
    · have f8 : y.eval (Operand.tmp 8) = .pointer (some ⟨g, 0, none⟩)   := (hRR 8 (not_of (by rw [hds]; decide))).trans bS8
      exact .inl ⟨wt.trans hc, wp_value (ox_field (v := .pointer (some ⟨g, 4, none⟩)) ho f8 (by simp [go_sem])) (hK _ _ (fun _ _ _ _ _ _ h => h) (by show _ = if (!(((en != mk) || (!c1)) || (decide (ar < 0)))) = true then .pointer (some ⟨g, 4, none⟩) else undef; rw [hc]; rfl) hinv)⟩
  have s22 : ∀ o, ops[22]? = some o → StepI Try.prog ops (p_rd11 g lb lo N lcap k en os od ar hh ck mk c1 c2 c3) (fun (_ : Array Bool) (_ : Act) (w : World) => Mod (fun _ => False) w0 w) aZ Q 22 o := by
    refine E22.stepI fun o hd ho hg hw => ?_
    intro y w listed hsz hls hun hwt hdown D' hRR hinv K hK
    have gv : y.tmps.getD 99 undef = .bool (((en != mk) || (!c1)) || (decide (ar < 0))) := E18.postI (Post := (p_rd11 g lb lo N lcap k en os od ar hh ck mk c1 c2 c3)) (a := y) (w := w) D' (hwt 18 (hw 18 (by simp)))
    have wt : Region.wanted o (yielded ops y.tmps) = (!(((en != mk) || (!c1)) || (decide (ar < 0)))) := by
      rw [wanted_b E18 hg (by rw [hsz, ha0]; decide) gv]
      cases (((en != mk) || (!c1)) || (decide (ar < 0))) <;> rfl
    cases hc : (!(((en != mk) || (!c1)) || (decide (ar < 0))))
    · exact .inr ⟨wt.trans hc, hK _ _ (fun _ _ _ _ _ _ h => h) (by show undef = if (!(((en != mk) || (!c1)) || (decide (ar < 0)))) = true then .int .i64 hh else undef; rw [hc]; rfl) hinv⟩
    · have f102 : y.eval (Operand.tmp 102) = .pointer (some ⟨g, 4, none⟩) := (show y.eval (Operand.tmp 102) = (if (!(((en != mk) || (!c1)) || (decide (ar < 0)))) = true then .pointer (some ⟨g, 4, none⟩) else undef) from E21.postI (Post := (p_rd11 g lb lo N lcap k en os od ar hh ck mk c1 c2 c3)) (a := y) (w := w) D' (hwt 21 (hw 21 (by simp)))).trans (if_pos hc)
      have h0 := hinv.cell k_g_4 (fun h => h)
      exact .inl ⟨wt.trans hc, wp_value (ox_load (v := .int .i64 hh) ho f102 (by simp [go_sem, h0])) (hK _ _ (fun _ _ _ _ _ _ h => h) (by show _ = if (!(((en != mk) || (!c1)) || (decide (ar < 0)))) = true then .int .i64 hh else undef; rw [hc]; rfl) hinv)⟩
  have s23 : ∀ o, ops[23]? = some o → StepI Try.prog ops (p_rd11 g lb lo N lcap k en os od ar hh ck mk c1 c2 c3) (fun (_ : Array Bool) (_ : Act) (w : World) => Mod (fun _ => False) w0 w) aZ Q 23 o := by
    refine E23.stepI fun o hd ho hg hw => ?_
    intro y w listed hsz hls hun hwt hdown D' hRR hinv K hK
    have gv : y.tmps.getD 99 undef = .bool (((en != mk) || (!c1)) || (decide (ar < 0))) := E18.postI (Post := (p_rd11 g lb lo N lcap k en os od ar hh ck mk c1 c2 c3)) (a := y) (w := w) D' (hwt 18 (hw 18 (by simp)))
    have wt : Region.wanted o (yielded ops y.tmps) = (!(((en != mk) || (!c1)) || (decide (ar < 0)))) := by
      rw [wanted_b E18 hg (by rw [hsz, ha0]; decide) gv]
      cases (((en != mk) || (!c1)) || (decide (ar < 0))) <;> rfl
    cases hc : (!(((en != mk) || (!c1)) || (decide (ar < 0))))
    · exact .inr ⟨wt.trans hc, hK _ _ (fun _ _ _ _ _ _ h => h) (by show undef = if (!(((en != mk) || (!c1)) || (decide (ar < 0)))) = true then .bool (decide (hh < ar)) else undef; rw [hc]; rfl) hinv⟩
    · have f101 : y.eval (Operand.tmp 101) = .int .i64 ar := (show y.eval (Operand.tmp 101) = (if (!(((en != mk) || (!c1)) || (decide (ar < 0)))) = true then .int .i64 ar else undef) from E20.postI (Post := (p_rd11 g lb lo N lcap k en os od ar hh ck mk c1 c2 c3)) (a := y) (w := w) D' (hwt 20 (hw 20 (by simp)))).trans (if_pos hc)
      have f103 : y.eval (Operand.tmp 103) = .int .i64 hh := (show y.eval (Operand.tmp 103) = (if (!(((en != mk) || (!c1)) || (decide (ar < 0)))) = true then .int .i64 hh else undef) from E22.postI (Post := (p_rd11 g lb lo N lcap k en os od ar hh ck mk c1 c2 c3)) (a := y) (w := w) D' (hwt 22 (hw 22 (by simp)))).trans (if_pos hc)
      exact .inl ⟨wt.trans hc, wp_value (rx_gtr ho f101 f103) (hK _ _ (fun _ _ _ _ _ _ h => h) (by show _ = if (!(((en != mk) || (!c1)) || (decide (ar < 0)))) = true then .bool (decide (hh < ar)) else undef; rw [hc]; rfl) hinv)⟩
  have s24 : ∀ o, ops[24]? = some o → StepI Try.prog ops (p_rd11 g lb lo N lcap k en os od ar hh ck mk c1 c2 c3) (fun (_ : Array Bool) (_ : Act) (w : World) => Mod (fun _ => False) w0 w) aZ Q 24 o := by
    refine E24.stepI fun o hd ho hg hw => ?_
    intro y w listed hsz hls hun hwt hdown D' hRR hinv K hK
    have f99 : y.eval (Operand.tmp 99) = .bool (((en != mk) || (!c1)) || (decide (ar < 0))) := E18.postI (Post := (p_rd11 g lb lo N lcap k en os od ar hh ck mk c1 c2 c3)) (a := y) (w := w) D' (hwt 18 (hw 18 (by simp)))
    have f104 : y.eval (Operand.tmp 104) = if (!(((en != mk) || (!c1)) || (decide (ar < 0)))) = true then .bool (decide (hh < ar)) else undef := E23.postI (Post := (p_rd11 g lb lo N lcap k en os od ar hh ck mk c1 c2 c3)) (a := y) (w := w) D' (hwt 23 (hw 23 (by simp)))
    exact .inl ⟨wanted_none hg, wp_value (ox_pick (v := .bool ((((en != mk) || (!c1)) || (decide (ar < 0))) || (decide (hh < ar)))) ho f99 (by rw [f104]; cases (((en != mk) || (!c1)) || (decide (ar < 0))) <;> rfl)) (hK _ _ (fun _ _ _ _ _ _ h => h) rfl hinv)⟩
  have s25 : ∀ o, ops[25]? = some o → StepI Try.prog ops (p_rd11 g lb lo N lcap k en os od ar hh ck mk c1 c2 c3) (fun (_ : Array Bool) (_ : Act) (w : World) => Mod (fun _ => False) w0 w) aZ Q 25 o := by
    refine E25.stepI fun o hd ho hg hw => ?_
    intro y w listed hsz hls hun hwt hdown D' hRR hinv K hK
    have f105 : y.eval (Operand.tmp 105) = .bool ((((en != mk) || (!c1)) || (decide (ar < 0))) || (decide (hh < ar))) := E24.postI (Post := (p_rd11 g lb lo N lcap k en os od ar hh ck mk c1 c2 c3)) (a := y) (w := w) D' (hwt 24 (hw 24 (by simp)))
    exact .inl ⟨wanted_none hg, wp_value (ox_move ho f105) (hK _ _ (fun _ _ _ _ _ _ h => h) rfl hinv)⟩
  have s26 : ∀ o, ops[26]? = some o → StepI Try.prog ops (p_rd11 g lb lo N lcap k en os od ar hh ck mk c1 c2 c3) (fun (_ : Array Bool) (_ : Act) (w : World) => Mod (fun _ => False) w0 w) aZ Q 26 o := by
    refine E26.stepI fun o hd ho hg hw => ?_
    intro y w listed hsz hls hun hwt hdown D' hRR hinv K hK
    have gv : y.tmps.getD 106 undef = .bool ((((en != mk) || (!c1)) || (decide (ar < 0))) || (decide (hh < ar))) := E25.postI (Post := (p_rd11 g lb lo N lcap k en os od ar hh ck mk c1 c2 c3)) (a := y) (w := w) D' (hwt 25 (hw 25 (by simp)))
    have wt : Region.wanted o (yielded ops y.tmps) = (!((((en != mk) || (!c1)) || (decide (ar < 0))) || (decide (hh < ar)))) := by
      rw [wanted_b E25 hg (by rw [hsz, ha0]; decide) gv]
      cases ((((en != mk) || (!c1)) || (decide (ar < 0))) || (decide (hh < ar))) <;> rfl
    cases hc : (!((((en != mk) || (!c1)) || (decide (ar < 0))) || (decide (hh < ar))))
    · exact .inr ⟨wt.trans hc, hK _ _ (fun _ _ _ _ _ _ h => h) (by show undef = if (!((((en != mk) || (!c1)) || (decide (ar < 0))) || (decide (hh < ar)))) = true then .pointer (some ⟨g, 4, none⟩) else undef; rw [hc]; rfl) hinv⟩
    · have f8 : y.eval (Operand.tmp 8) = .pointer (some ⟨g, 0, none⟩)   := (hRR 8 (not_of (by rw [hds]; decide))).trans bS8
      exact .inl ⟨wt.trans hc, wp_value (ox_field (v := .pointer (some ⟨g, 4, none⟩)) ho f8 (by simp [go_sem])) (hK _ _ (fun _ _ _ _ _ _ h => h) (by show _ = if (!((((en != mk) || (!c1)) || (decide (ar < 0))) || (decide (hh < ar)))) = true then .pointer (some ⟨g, 4, none⟩) else undef; rw [hc]; rfl) hinv)⟩
  have s27 : ∀ o, ops[27]? = some o → StepI Try.prog ops (p_rd11 g lb lo N lcap k en os od ar hh ck mk c1 c2 c3) (fun (_ : Array Bool) (_ : Act) (w : World) => Mod (fun _ => False) w0 w) aZ Q 27 o := by
    refine E27.stepI fun o hd ho hg hw => ?_
    intro y w listed hsz hls hun hwt hdown D' hRR hinv K hK
    have gv : y.tmps.getD 106 undef = .bool ((((en != mk) || (!c1)) || (decide (ar < 0))) || (decide (hh < ar))) := E25.postI (Post := (p_rd11 g lb lo N lcap k en os od ar hh ck mk c1 c2 c3)) (a := y) (w := w) D' (hwt 25 (hw 25 (by simp)))
    have wt : Region.wanted o (yielded ops y.tmps) = (!((((en != mk) || (!c1)) || (decide (ar < 0))) || (decide (hh < ar)))) := by
      rw [wanted_b E25 hg (by rw [hsz, ha0]; decide) gv]
      cases ((((en != mk) || (!c1)) || (decide (ar < 0))) || (decide (hh < ar))) <;> rfl
    cases hc : (!((((en != mk) || (!c1)) || (decide (ar < 0))) || (decide (hh < ar))))
    · exact .inr ⟨wt.trans hc, hK _ _ (fun _ _ _ _ _ _ h => h) (by show undef = if (!((((en != mk) || (!c1)) || (decide (ar < 0))) || (decide (hh < ar)))) = true then .int .i64 hh else undef; rw [hc]; rfl) hinv⟩
    · have f107 : y.eval (Operand.tmp 107) = .pointer (some ⟨g, 4, none⟩) := (show y.eval (Operand.tmp 107) = (if (!((((en != mk) || (!c1)) || (decide (ar < 0))) || (decide (hh < ar)))) = true then .pointer (some ⟨g, 4, none⟩) else undef) from E26.postI (Post := (p_rd11 g lb lo N lcap k en os od ar hh ck mk c1 c2 c3)) (a := y) (w := w) D' (hwt 26 (hw 26 (by simp)))).trans (if_pos hc)
      have h0 := hinv.cell k_g_4 (fun h => h)
      exact .inl ⟨wt.trans hc, wp_value (ox_load (v := .int .i64 hh) ho f107 (by simp [go_sem, h0])) (hK _ _ (fun _ _ _ _ _ _ h => h) (by show _ = if (!((((en != mk) || (!c1)) || (decide (ar < 0))) || (decide (hh < ar)))) = true then .int .i64 hh else undef; rw [hc]; rfl) hinv)⟩
  have s28 : ∀ o, ops[28]? = some o → StepI Try.prog ops (p_rd11 g lb lo N lcap k en os od ar hh ck mk c1 c2 c3) (fun (_ : Array Bool) (_ : Act) (w : World) => Mod (fun _ => False) w0 w) aZ Q 28 o := by
    refine E28.stepI fun o hd ho hg hw => ?_
    intro y w listed hsz hls hun hwt hdown D' hRR hinv K hK
    have gv : y.tmps.getD 106 undef = .bool ((((en != mk) || (!c1)) || (decide (ar < 0))) || (decide (hh < ar))) := E25.postI (Post := (p_rd11 g lb lo N lcap k en os od ar hh ck mk c1 c2 c3)) (a := y) (w := w) D' (hwt 25 (hw 25 (by simp)))
    have wt : Region.wanted o (yielded ops y.tmps) = (!((((en != mk) || (!c1)) || (decide (ar < 0))) || (decide (hh < ar)))) := by
      rw [wanted_b E25 hg (by rw [hsz, ha0]; decide) gv]
      cases ((((en != mk) || (!c1)) || (decide (ar < 0))) || (decide (hh < ar))) <;> rfl
    cases hc : (!((((en != mk) || (!c1)) || (decide (ar < 0))) || (decide (hh < ar))))
    · exact .inr ⟨wt.trans hc, hK _ _ (fun _ _ _ _ _ _ h => h) (by show undef = if (!((((en != mk) || (!c1)) || (decide (ar < 0))) || (decide (hh < ar)))) = true then .bool c2 else undef; rw [hc]; rfl) hinv⟩
    · have f108 : y.eval (Operand.tmp 108) = .int .i64 hh := (show y.eval (Operand.tmp 108) = (if (!((((en != mk) || (!c1)) || (decide (ar < 0))) || (decide (hh < ar)))) = true then .int .i64 hh else undef) from E27.postI (Post := (p_rd11 g lb lo N lcap k en os od ar hh ck mk c1 c2 c3)) (a := y) (w := w) D' (hwt 27 (hw 27 (by simp)))).trans (if_pos hc)
      refine .inl ⟨wt.trans hc, wp_enter (f := 56) (args := #[.int .i64 hh]) ?_ (H28 w  hinv ) ?_⟩
      · have h := exec_call1 y.eval (fun args w => by simp [go_sem]) rfl ho (w := w)
        rw [f108] at h
        exact h
      · rintro e w' ⟨rfl, hm⟩
        exact ⟨_, rfl, hK _ _ (fun j oj d _ _ _ h => hstay _ _ _ _ hm h) (by show _ = if (!((((en != mk) || (!c1)) || (decide (ar < 0))) || (decide (hh < ar)))) = true then .bool c2 else undef; rw [hc]; rfl) (hinv.and hm)⟩
  have s29 : ∀ o, ops[29]? = some o → StepI Try.prog ops (p_rd11 g lb lo N lcap k en os od ar hh ck mk c1 c2 c3) (fun (_ : Array Bool) (_ : Act) (w : World) => Mod (fun _ => False) w0 w) aZ Q 29 o := by
    refine E29.stepI fun o hd ho hg hw => ?_
    intro y w listed hsz hls hun hwt hdown D' hRR hinv K hK
    have gv : y.tmps.getD 106 undef = .bool ((((en != mk) || (!c1)) || (decide (ar < 0))) || (decide (hh < ar))) := E25.postI (Post := (p_rd11 g lb lo N lcap k en os od ar hh ck mk c1 c2 c3)) (a := y) (w := w) D' (hwt 25 (hw 25 (by simp)))
    have wt : Region.wanted o (yielded ops y.tmps) = (!((((en != mk) || (!c1)) || (decide (ar < 0))) || (decide (hh < ar)))) := by
      rw [wanted_b E25 hg (by rw [hsz, ha0]; decide) gv]
      cases ((((en != mk) || (!c1)) || (decide (ar < 0))) || (decide (hh < ar))) <;> rfl
    cases hc : (!((((en != mk) || (!c1)) || (decide (ar < 0))) || (decide (hh < ar))))
    · exact .inr ⟨wt.trans hc, hK _ _ (fun _ _ _ _ _ _ h => h) (by show undef = if (!((((en != mk) || (!c1)) || (decide (ar < 0))) || (decide (hh < ar)))) = true then .bool (!c2) else undef; rw [hc]; rfl) hinv⟩
    · have f109 : y.eval (Operand.tmp 109) = .bool c2 := (show y.eval (Operand.tmp 109) = (if (!((((en != mk) || (!c1)) || (decide (ar < 0))) || (decide (hh < ar)))) = true then .bool c2 else undef) from E28.postI (Post := (p_rd11 g lb lo N lcap k en os od ar hh ck mk c1 c2 c3)) (a := y) (w := w) D' (hwt 28 (hw 28 (by simp)))).trans (if_pos hc)
      exact .inl ⟨wt.trans hc, wp_value (ox_not ho f109) (hK _ _ (fun _ _ _ _ _ _ h => h) (by show _ = if (!((((en != mk) || (!c1)) || (decide (ar < 0))) || (decide (hh < ar)))) = true then .bool (!c2) else undef; rw [hc]; rfl) hinv)⟩
  have s30 : ∀ o, ops[30]? = some o → StepI Try.prog ops (p_rd11 g lb lo N lcap k en os od ar hh ck mk c1 c2 c3) (fun (_ : Array Bool) (_ : Act) (w : World) => Mod (fun _ => False) w0 w) aZ Q 30 o := by
    refine E30.stepI fun o hd ho hg hw => ?_
    intro y w listed hsz hls hun hwt hdown D' hRR hinv K hK
    have f106 : y.eval (Operand.tmp 106) = .bool ((((en != mk) || (!c1)) || (decide (ar < 0))) || (decide (hh < ar))) := E25.postI (Post := (p_rd11 g lb lo N lcap k en os od ar hh ck mk c1 c2 c3)) (a := y) (w := w) D' (hwt 25 (hw 25 (by simp)))
    have f110 : y.eval (Operand.tmp 110) = if (!((((en != mk) || (!c1)) || (decide (ar < 0))) || (decide (hh < ar)))) = true then .bool (!c2) else undef := E29.postI (Post := (p_rd11 g lb lo N lcap k en os od ar hh ck mk c1 c2 c3)) (a := y) (w := w) D' (hwt 29 (hw 29 (by simp)))
    exact .inl ⟨wanted_none hg, wp_value (ox_pick (v := .bool (((((en != mk) || (!c1)) || (decide (ar < 0))) || (decide (hh < ar))) || (!c2))) ho f106 (by rw [f110]; cases ((((en != mk) || (!c1)) || (decide (ar < 0))) || (decide (hh < ar))) <;> rfl)) (hK _ _ (fun _ _ _ _ _ _ h => h) rfl hinv)⟩
  have s31 : ∀ o, ops[31]? = some o → StepI Try.prog ops (p_rd11 g lb lo N lcap k en os od ar hh ck mk c1 c2 c3) (fun (_ : Array Bool) (_ : Act) (w : World) => Mod (fun _ => False) w0 w) aZ Q 31 o := by
    refine E31.stepI fun o hd ho hg hw => ?_
    intro y w listed hsz hls hun hwt hdown D' hRR hinv K hK
    have f111 : y.eval (Operand.tmp 111) = .bool (((((en != mk) || (!c1)) || (decide (ar < 0))) || (decide (hh < ar))) || (!c2)) := E30.postI (Post := (p_rd11 g lb lo N lcap k en os od ar hh ck mk c1 c2 c3)) (a := y) (w := w) D' (hwt 30 (hw 30 (by simp)))
    exact .inl ⟨wanted_none hg, wp_value (ox_move ho f111) (hK _ _ (fun _ _ _ _ _ _ h => h) rfl hinv)⟩
  have s32 : ∀ o, ops[32]? = some o → StepI Try.prog ops (p_rd11 g lb lo N lcap k en os od ar hh ck mk c1 c2 c3) (fun (_ : Array Bool) (_ : Act) (w : World) => Mod (fun _ => False) w0 w) aZ Q 32 o := by
    refine E32.stepI fun o hd ho hg hw => ?_
    intro y w listed hsz hls hun hwt hdown D' hRR hinv K hK
    have gv : y.tmps.getD 112 undef = .bool (((((en != mk) || (!c1)) || (decide (ar < 0))) || (decide (hh < ar))) || (!c2)) := E31.postI (Post := (p_rd11 g lb lo N lcap k en os od ar hh ck mk c1 c2 c3)) (a := y) (w := w) D' (hwt 31 (hw 31 (by simp)))
    have wt : Region.wanted o (yielded ops y.tmps) = (!(((((en != mk) || (!c1)) || (decide (ar < 0))) || (decide (hh < ar))) || (!c2))) := by
      rw [wanted_b E31 hg (by rw [hsz, ha0]; decide) gv]
      cases (((((en != mk) || (!c1)) || (decide (ar < 0))) || (decide (hh < ar))) || (!c2)) <;> rfl
    cases hc : (!(((((en != mk) || (!c1)) || (decide (ar < 0))) || (decide (hh < ar))) || (!c2)))
    · exact .inr ⟨wt.trans hc, hK _ _ (fun _ _ _ _ _ _ h => h) (by show undef = if (!(((((en != mk) || (!c1)) || (decide (ar < 0))) || (decide (hh < ar))) || (!c2))) = true then .pointer (some ⟨g, 5, none⟩) else undef; rw [hc]; rfl) hinv⟩
    · have f8 : y.eval (Operand.tmp 8) = .pointer (some ⟨g, 0, none⟩)   := (hRR 8 (not_of (by rw [hds]; decide))).trans bS8
      exact .inl ⟨wt.trans hc, wp_value (ox_field (v := .pointer (some ⟨g, 5, none⟩)) ho f8 (by simp [go_sem])) (hK _ _ (fun _ _ _ _ _ _ h => h) (by show _ = if (!(((((en != mk) || (!c1)) || (decide (ar < 0))) || (decide (hh < ar))) || (!c2))) = true then .pointer (some ⟨g, 5, none⟩) else undef; rw [hc]; rfl) hinv)⟩
  have s33 : ∀ o, ops[33]? = some o → StepI Try.prog ops (p_rd11 g lb lo N lcap k en os od ar hh ck mk c1 c2 c3) (fun (_ : Array Bool) (_ : Act) (w : World) => Mod (fun _ => False) w0 w) aZ Q 33 o := by
    refine E33.stepI fun o hd ho hg hw => ?_
    intro y w listed hsz hls hun hwt hdown D' hRR hinv K hK
    have gv : y.tmps.getD 112 undef = .bool (((((en != mk) || (!c1)) || (decide (ar < 0))) || (decide (hh < ar))) || (!c2)) := E31.postI (Post := (p_rd11 g lb lo N lcap k en os od ar hh ck mk c1 c2 c3)) (a := y) (w := w) D' (hwt 31 (hw 31 (by simp)))
    have wt : Region.wanted o (yielded ops y.tmps) = (!(((((en != mk) || (!c1)) || (decide (ar < 0))) || (decide (hh < ar))) || (!c2))) := by
      rw [wanted_b E31 hg (by rw [hsz, ha0]; decide) gv]
      cases (((((en != mk) || (!c1)) || (decide (ar < 0))) || (decide (hh < ar))) || (!c2)) <;> rfl
    cases hc : (!(((((en != mk) || (!c1)) || (decide (ar < 0))) || (decide (hh < ar))) || (!c2)))
    · exact .inr ⟨wt.trans hc, hK _ _ (fun _ _ _ _ _ _ h => h) (by show undef = if (!(((((en != mk) || (!c1)) || (decide (ar < 0))) || (decide (hh < ar))) || (!c2))) = true then .int .i64 ck else undef; rw [hc]; rfl) hinv⟩
    · have f113 : y.eval (Operand.tmp 113) = .pointer (some ⟨g, 5, none⟩) := (show y.eval (Operand.tmp 113) = (if (!(((((en != mk) || (!c1)) || (decide (ar < 0))) || (decide (hh < ar))) || (!c2))) = true then .pointer (some ⟨g, 5, none⟩) else undef) from E32.postI (Post := (p_rd11 g lb lo N lcap k en os od ar hh ck mk c1 c2 c3)) (a := y) (w := w) D' (hwt 32 (hw 32 (by simp)))).trans (if_pos hc)
      have h0 := hinv.cell k_g_5 (fun h => h)
      exact .inl ⟨wt.trans hc, wp_value (ox_load (v := .int .i64 ck) ho f113 (by simp [go_sem, h0])) (hK _ _ (fun _ _ _ _ _ _ h => h) (by show _ = if (!(((((en != mk) || (!c1)) || (decide (ar < 0))) || (decide (hh < ar))) || (!c2))) = true then .int .i64 ck else undef; rw [hc]; rfl) hinv)⟩
  have s34 : ∀ o, ops[34]? = some o → StepI Try.prog ops (p_rd11 g lb lo N lcap k en os od ar hh ck mk c1 c2 c3) (fun (_ : Array Bool) (_ : Act) (w : World) => Mod (fun _ => False) w0 w) aZ Q 34 o := by
    refine E34.stepI fun o hd ho hg hw => ?_
    intro y w listed hsz hls hun hwt hdown D' hRR hinv K hK
    have gv : y.tmps.getD 112 undef = .bool (((((en != mk) || (!c1)) || (decide (ar < 0))) || (decide (hh < ar))) || (!c2)) := E31.postI (Post := (p_rd11 g lb lo N lcap k en os od ar hh ck mk c1 c2 c3)) (a := y) (w := w) D' (hwt 31 (hw 31 (by simp)))
    have wt : Region.wanted o (yielded ops y.tmps) = (!(((((en != mk) || (!c1)) || (decide (ar < 0))) || (decide (hh < ar))) || (!c2))) := by
      rw [wanted_b E31 hg (by rw [hsz, ha0]; decide) gv]
      cases (((((en != mk) || (!c1)) || (decide (ar < 0))) || (decide (hh < ar))) || (!c2)) <;> rfl
    cases hc : (!(((((en != mk) || (!c1)) || (decide (ar < 0))) || (decide (hh < ar))) || (!c2)))
    · exact .inr ⟨wt.trans hc, hK _ _ (fun _ _ _ _ _ _ h => h) (by show undef = if (!(((((en != mk) || (!c1)) || (decide (ar < 0))) || (decide (hh < ar))) || (!c2))) = true then .bool c3 else undef; rw [hc]; rfl) hinv⟩
    · have f114 : y.eval (Operand.tmp 114) = .int .i64 ck := (show y.eval (Operand.tmp 114) = (if (!(((((en != mk) || (!c1)) || (decide (ar < 0))) || (decide (hh < ar))) || (!c2))) = true then .int .i64 ck else undef) from E33.postI (Post := (p_rd11 g lb lo N lcap k en os od ar hh ck mk c1 c2 c3)) (a := y) (w := w) D' (hwt 33 (hw 33 (by simp)))).trans (if_pos hc)
      refine .inl ⟨wt.trans hc, wp_enter (f := 56) (args := #[.int .i64 ck]) ?_ (H34 w  hinv ) ?_⟩
      · have h := exec_call1 y.eval (fun args w => by simp [go_sem]) rfl ho (w := w)
        rw [f114] at h
        exact h
      · rintro e w' ⟨rfl, hm⟩
        exact ⟨_, rfl, hK _ _ (fun j oj d _ _ _ h => hstay _ _ _ _ hm h) (by show _ = if (!(((((en != mk) || (!c1)) || (decide (ar < 0))) || (decide (hh < ar))) || (!c2))) = true then .bool c3 else undef; rw [hc]; rfl) (hinv.and hm)⟩
  have s35 : ∀ o, ops[35]? = some o → StepI Try.prog ops (p_rd11 g lb lo N lcap k en os od ar hh ck mk c1 c2 c3) (fun (_ : Array Bool) (_ : Act) (w : World) => Mod (fun _ => False) w0 w) aZ Q 35 o := by
    refine E35.stepI fun o hd ho hg hw => ?_
    intro y w listed hsz hls hun hwt hdown D' hRR hinv K hK
    have gv : y.tmps.getD 112 undef = .bool (((((en != mk) || (!c1)) || (decide (ar < 0))) || (decide (hh < ar))) || (!c2)) := E31.postI (Post := (p_rd11 g lb lo N lcap k en os od ar hh ck mk c1 c2 c3)) (a := y) (w := w) D' (hwt 31 (hw 31 (by simp)))
    have wt : Region.wanted o (yielded ops y.tmps) = (!(((((en != mk) || (!c1)) || (decide (ar < 0))) || (decide (hh < ar))) || (!c2))) := by
      rw [wanted_b E31 hg (by rw [hsz, ha0]; decide) gv]
      cases (((((en != mk) || (!c1)) || (decide (ar < 0))) || (decide (hh < ar))) || (!c2)) <;> rfl
    cases hc : (!(((((en != mk) || (!c1)) || (decide (ar < 0))) || (decide (hh < ar))) || (!c2)))
    · exact .inr ⟨wt.trans hc, hK _ _ (fun _ _ _ _ _ _ h => h) (by show undef = if (!(((((en != mk) || (!c1)) || (decide (ar < 0))) || (decide (hh < ar))) || (!c2))) = true then .bool (!c3) else undef; rw [hc]; rfl) hinv⟩
    · have f115 : y.eval (Operand.tmp 115) = .bool c3 := (show y.eval (Operand.tmp 115) = (if (!(((((en != mk) || (!c1)) || (decide (ar < 0))) || (decide (hh < ar))) || (!c2))) = true then .bool c3 else undef) from E34.postI (Post := (p_rd11 g lb lo N lcap k en os od ar hh ck mk c1 c2 c3)) (a := y) (w := w) D' (hwt 34 (hw 34 (by simp)))).trans (if_pos hc)
      exact .inl ⟨wt.trans hc, wp_value (ox_not ho f115) (hK _ _ (fun _ _ _ _ _ _ h => h) (by show _ = if (!(((((en != mk) || (!c1)) || (decide (ar < 0))) || (decide (hh < ar))) || (!c2))) = true then .bool (!c3) else undef; rw [hc]; rfl) hinv)⟩
  have s36 : ∀ o, ops[36]? = some o → StepI Try.prog ops (p_rd11 g lb lo N lcap k en os od ar hh ck mk c1 c2 c3) (fun (_ : Array Bool) (_ : Act) (w : World) => Mod (fun _ => False) w0 w) aZ Q 36 o := by
    refine E36.stepI fun o hd ho hg hw => ?_
    intro y w listed hsz hls hun hwt hdown D' hRR hinv K hK
    have f112 : y.eval (Operand.tmp 112) = .bool (((((en != mk) || (!c1)) || (decide (ar < 0))) || (decide (hh < ar))) || (!c2)) := E31.postI (Post := (p_rd11 g lb lo N lcap k en os od ar hh ck mk c1 c2 c3)) (a := y) (w := w) D' (hwt 31 (hw 31 (by simp)))
    have f116 : y.eval (Operand.tmp 116) = if (!(((((en != mk) || (!c1)) || (decide (ar < 0))) || (decide (hh < ar))) || (!c2))) = true then .bool (!c3) else undef := E35.postI (Post := (p_rd11 g lb lo N lcap k en os od ar hh ck mk c1 c2 c3)) (a := y) (w := w) D' (hwt 35 (hw 35 (by simp)))
    exact .inl ⟨wanted_none hg, wp_value (ox_pick (v := .bool ((((((en != mk) || (!c1)) || (decide (ar < 0))) || (decide (hh < ar))) || (!c2)) || (!c3))) ho f112 (by rw [f116]; cases (((((en != mk) || (!c1)) || (decide (ar < 0))) || (decide (hh < ar))) || (!c2)) <;> rfl)) (hK _ _ (fun _ _ _ _ _ _ h => h) rfl hinv)⟩
  refine region_freeI (Post := (p_rd11 g lb lo N lcap k en os od ar hh ck mk c1 c2 c3)) (Inv := (fun (_ : Array Bool) (_ : Act) (w : World) => Mod (fun _ => False) w0 w)) mixed (low_of hlow) (fun i o ho => by rw [ha0]; exact dst_of (by rw [hds]; decide) i o ho) (inj_of hnd) (Mod.refl _ _).drew ?_ ?_
  · intro i o ho
    have hi : i < 37 := by
      rw [← hN]
      rcases Nat.lt_or_ge i ops.size with h | h
      · exact h
      · rw [Array.getElem?_eq_none h] at ho; cases ho
    clear hend
    by_cases e0 : i = 0
    · subst e0; exact s0 o ho
    by_cases e1 : i = 1
    · subst e1; exact s1 o ho
    by_cases e2 : i = 2
    · subst e2; exact s2 o ho
    by_cases e3 : i = 3
    · subst e3; exact s3 o ho
    by_cases e4 : i = 4
    · subst e4; exact s4 o ho
    by_cases e5 : i = 5
    · subst e5; exact s5 o ho
    by_cases e6 : i = 6
    · subst e6; exact s6 o ho
    by_cases e7 : i = 7
    · subst e7; exact s7 o ho
    by_cases e8 : i = 8
    · subst e8; exact s8 o ho
    by_cases e9 : i = 9
    · subst e9; exact s9 o ho
    by_cases e10 : i = 10
    · subst e10; exact s10 o ho
    by_cases e11 : i = 11
    · subst e11; exact s11 o ho
    by_cases e12 : i = 12
    · subst e12; exact s12 o ho
    by_cases e13 : i = 13
    · subst e13; exact s13 o ho
    by_cases e14 : i = 14
    · subst e14; exact s14 o ho
    by_cases e15 : i = 15
    · subst e15; exact s15 o ho
    by_cases e16 : i = 16
    · subst e16; exact s16 o ho
    by_cases e17 : i = 17
    · subst e17; exact s17 o ho
    by_cases e18 : i = 18
    · subst e18; exact s18 o ho
    by_cases e19 : i = 19
    · subst e19; exact s19 o ho
    by_cases e20 : i = 20
    · subst e20; exact s20 o ho
    by_cases e21 : i = 21
    · subst e21; exact s21 o ho
    by_cases e22 : i = 22
    · subst e22; exact s22 o ho
    by_cases e23 : i = 23
    · subst e23; exact s23 o ho
    by_cases e24 : i = 24
    · subst e24; exact s24 o ho
    by_cases e25 : i = 25
    · subst e25; exact s25 o ho
    by_cases e26 : i = 26
    · subst e26; exact s26 o ho
    by_cases e27 : i = 27
    · subst e27; exact s27 o ho
    by_cases e28 : i = 28
    · subst e28; exact s28 o ho
    by_cases e29 : i = 29
    · subst e29; exact s29 o ho
    by_cases e30 : i = 30
    · subst e30; exact s30 o ho
    by_cases e31 : i = 31
    · subst e31; exact s31 o ho
    by_cases e32 : i = 32
    · subst e32; exact s32 o ho
    by_cases e33 : i = 33
    · subst e33; exact s33 o ho
    by_cases e34 : i = 34
    · subst e34; exact s34 o ho
    by_cases e35 : i = 35
    · subst e35; exact s35 o ho
    by_cases e36 : i = 36
    · subst e36; exact s36 o ho
    omega
  · intro y w listed hsz hdf hls hall hinv hPO hRE
    have e : y = puts aZ [(81, .pointer (some ⟨g, 0, none⟩)), (82, .int .i64 en), (83, .slice (some ⟨lb, lo, none⟩) N lcap), (84, .int .i64 (k : Int)), (85, .pointer (some ⟨lb, lo + k, none⟩)), (86, .int .i64 mk), (87, .bool (en != mk)), (88, .bool (en != mk)), (89, y.tmps.getD 89 undef), (90, y.tmps.getD 90 undef), (91, y.tmps.getD 91 undef), (92, y.tmps.getD 92 undef), (93, .bool ((en != mk) || (!c1))), (94, .bool ((en != mk) || (!c1))), (95, y.tmps.getD 95 undef), (96, y.tmps.getD 96 undef), (97, y.tmps.getD 97 undef), (98, .bool (((en != mk) || (!c1)) || (decide (ar < 0)))), (99, .bool (((en != mk) || (!c1)) || (decide (ar < 0)))), (100, y.tmps.getD 100 undef), (101, y.tmps.getD 101 undef), (102, y.tmps.getD 102 undef), (103, y.tmps.getD 103 undef), (104, y.tmps.getD 104 undef), (105, .bool ((((en != mk) || (!c1)) || (decide (ar < 0))) || (decide (hh < ar)))), (106, .bool ((((en != mk) || (!c1)) || (decide (ar < 0))) || (decide (hh < ar)))), (107, y.tmps.getD 107 undef), (108, y.tmps.getD 108 undef), (109, y.tmps.getD 109 undef), (110, y.tmps.getD 110 undef), (111, .bool (((((en != mk) || (!c1)) || (decide (ar < 0))) || (decide (hh < ar))) || (!c2))), (112, .bool (((((en != mk) || (!c1)) || (decide (ar < 0))) || (decide (hh < ar))) || (!c2))), (113, y.tmps.getD 113 undef), (114, y.tmps.getD 114 undef), (115, y.tmps.getD 115 undef), (116, y.tmps.getD 116 undef), (117, .bool ((((((en != mk) || (!c1)) || (decide (ar < 0))) || (decide (hh < ar))) || (!c2)) || (!c3)))] := by
      refine eq_puts hsz hdf (nodup_of (D := [some 81, some 82, some 83, some 84, some 85, some 86, some 87, some 88, some 89, some 90, some 91, some 92, some 93, some 94, some 95, some 96, some 97, some 98, some 99, some 100, some 101, some 102, some 103, some 104, some 105, some 106, some 107, some 108, some 109, some 110, some 111, some 112, some 113, some 114, some 115, some 116, some 117]) rfl (by decide)) (by rw [ha0]; simp) ?_ ?_
      · intro q hq
        simp only [List.mem_cons, List.not_mem_nil, or_false] at hq
        rcases hq with rfl | rfl | rfl | rfl | rfl | rfl | rfl | rfl | rfl | rfl | rfl | rfl | rfl | rfl | rfl | rfl | rfl | rfl | rfl | rfl | rfl | rfl | rfl | rfl | rfl | rfl | rfl | rfl | rfl | rfl | rfl | rfl | rfl | rfl | rfl | rfl | rfl
        · obtain ⟨o, h1, h2, _⟩ := E0.ex
          exact hPO 0 o _ h1 h2
        · obtain ⟨o, h1, h2, _⟩ := E1.ex
          exact hPO 1 o _ h1 h2
        · obtain ⟨o, h1, h2, _⟩ := E2.ex
          exact hPO 2 o _ h1 h2
        · obtain ⟨o, h1, h2, _⟩ := E3.ex
          exact hPO 3 o _ h1 h2
        · obtain ⟨o, h1, h2, _⟩ := E4.ex
          exact hPO 4 o _ h1 h2
        · obtain ⟨o, h1, h2, _⟩ := E5.ex
          exact hPO 5 o _ h1 h2
        · obtain ⟨o, h1, h2, _⟩ := E6.ex
          exact hPO 6 o _ h1 h2
        · obtain ⟨o, h1, h2, _⟩ := E7.ex
          exact hPO 7 o _ h1 h2
        · rfl
        · rfl
        · rfl
        · rfl
        · obtain ⟨o, h1, h2, _⟩ := E12.ex
          exact hPO 12 o _ h1 h2
        · obtain ⟨o, h1, h2, _⟩ := E13.ex
          exact hPO 13 o _ h1 h2
        · rfl
        · rfl
        · rfl
        · obtain ⟨o, h1, h2, _⟩ := E17.ex
          exact hPO 17 o _ h1 h2
        · obtain ⟨o, h1, h2, _⟩ := E18.ex
          exact hPO 18 o _ h1 h2
        · rfl
        · rfl
        · rfl
        · rfl
        · rfl
        · obtain ⟨o, h1, h2, _⟩ := E24.ex
          exact hPO 24 o _ h1 h2
        · obtain ⟨o, h1, h2, _⟩ := E25.ex
          exact hPO 25 o _ h1 h2
        · rfl
        · rfl
        · rfl
        · rfl
        · obtain ⟨o, h1, h2, _⟩ := E30.ex
          exact hPO 30 o _ h1 h2
        · obtain ⟨o, h1, h2, _⟩ := E31.ex
          exact hPO 31 o _ h1 h2
        · rfl
        · rfl
        · rfl
        · rfl
        · obtain ⟨o, h1, h2, _⟩ := E36.ex
          exact hPO 36 o _ h1 h2
      · intro t ht
        exact hRE t (not_of (by rw [hds]; exact not_cont rfl ht))
    rw [e]
    exact hend (fun d => y.tmps.getD d undef) w hinv
theorem ls0_ab : ∀ m : Fin 512, (Cr.ab m.val 0 : Int) = (Cr.ls m.val).getD 0 0 := by decide +kernel
theorem cn_zero (c : Int) (h : Cr.chk c = 0) (h0 : c ≠ 0) : 0 < Cr.cn (Cr.lo c) := by
  have h1 : ∀ m : Fin 512, m.val &&& 510 ≠ 0 → 0 < Cr.cn m.val := by decide +kernel
  refine h1 ⟨Cr.lo c, Cr.lo_lt c⟩ ?_
  unfold Cr.chk at h
  split at h
  · show Cr.lo c &&& 510 ≠ 0
    omega
  · omega
/-- What the document's commit answers. -/
def dC (c : Cm) (tw : Int) : Bool := okC c && decide (tw = rcv c)
theorem okE_doc (en os od ar hh ck mk : Int) : okE ⟨en, os, od, ar, hh, ck⟩ mk = !((((((en != mk) || !(isr os od)) || decide (ar < 0)) || decide (hh < ar)) || !(nm hh)) || !(nm ck)) := by
  rw [Bool.eq_iff_iff]
  simp only [okE, win, Bool.and_eq_true, decide_eq_true_eq, Bool.not_eq_true', Bool.or_eq_false_iff, bne_eq_false_iff_eq, decide_eq_false_iff_not, Bool.not_eq_false']
  constructor
  · rintro ⟨⟨⟨⟨a, b⟩, c⟩, d, e⟩, f⟩
    exact ⟨⟨⟨⟨⟨a, b⟩, by omega⟩, by omega⟩, c⟩, f⟩
  · rintro ⟨⟨⟨⟨⟨a, b⟩, c⟩, d⟩, e⟩, f⟩
    exact ⟨⟨⟨⟨a, b⟩, e⟩, by omega, by omega⟩, f⟩
set_option maxRecDepth 100000 in
set_option maxHeartbeats 8000000 in
theorem dCommit (rs rr mm hp tw : Int) (cao : Option Addr) (ccap : Nat) (ce : List Ey) (w : World) (hs : SlE w (.slice cao ce.length ccap) ce) (hhp : I64 hp) :
    Calls Try.prog 61 #[.agg #[.int .i64 rs, .int .i64 rr, .int .i64 mm, .int .i64 hp, .slice cao ce.length ccap], .int .i64 tw] w fun e w' => e = .returned (.bool (dC ⟨rs, rr, mm, hp, ce⟩ tw)) ∧ Mod (fun _ => False) w w' := by
  have hM := (Mod.refl (fun _ => False) w).alloc (.cells #[.int .i64 rs, .int .i64 rr, .int .i64 mm, .int .i64 hp, .slice cao ce.length ccap] 26)
  have hB := Bk.new w #[.int .i64 rs, .int .i64 rr, .int .i64 mm, .int .i64 hp, .slice cao ce.length ccap] 26
  have hs0 := hs.mod hM (fun _ _ _ h => h)
  have HK := Cr.RCheck mm
  have HR := dRing rs rr
  have HL := Cr.RList mm
  have hcn := cn_zero mm
  have hlc := lo_cn mm
  have hl8 := cn_le mm
  have hab := ls0_ab ⟨Cr.lo mm, Cr.lo_lt mm⟩
  simp only at hab
  have hokc : dC ⟨rs, rr, mm, hp, ce⟩ tw = ((Cr.chk mm == 0) && decide (0 < Cr.cn (Cr.lo mm)) && isr rs rr && decide (rr = (Cr.ls (Cr.lo mm)).getD 0 0) && win hp 1 (2 * (Cr.cn (Cr.lo mm) : Int)) && decide ((ce.length : Int) = min hp (Cr.cn (Cr.lo mm))) && mbs ce (Cr.ls (Cr.lo mm)) && decide (tw = (Cr.ls (Cr.lo mm)).getD (hp.toNat % (Cr.ls (Cr.lo mm)).length) 0)) := by
    rw [Bool.eq_iff_iff]
    simp only [dC, okC, rcv, hab, Bool.and_eq_true, decide_eq_true_eq]
    constructor
    · rintro ⟨a, b⟩
      exact ⟨a, by simpa using b⟩
    · rintro ⟨a, b⟩
      exact ⟨a, by simpa using b⟩
  have hz0 : mm = 0 → Cr.cn (Cr.lo mm) = 0 := by rintro rfl; decide
  generalize dC ⟨rs, rr, mm, hp, ce⟩ tw = RR at hokc ⊢
  generalize Cr.chk mm = ec at *
  generalize hN : Cr.cn (Cr.lo mm) = N at *
  generalize hms : Cr.ls (Cr.lo mm) = ms at *
  generalize isr rs rr = cr at *
  have HX : Hid (RR = _) := hokc
  clear hokc hN hms hab hs
  go_enter Try.func61, Try.ntmps61
  go_wp2_with (fail)
  refine (HK _).mono ?_
  rintro e w1 ⟨rfl, hm1⟩
  replace hM := hM.and hm1
  replace hB := hB.mod hm1 (fun h => h)
  replace hs0 := hs0.keep hm1
  have a0 := hB.cellv (j := 0) rfl
  have a1 := hB.cellv (j := 1) rfl
  have a2 := hB.cellv (j := 2) rfl
  have a3 := hB.cellv (j := 3) rfl
  have a4 := hB.cellv (j := 4) rfl
  by_cases he : ec = 0
  case neg =>
    have heb : (ec != 0) = true := by simp [he]
    have e : RR = false := by rw [HX.out]; simp [he]
    subst e
    clear HX he HK HL HR
    go_wp2
    go_ret
    exact ⟨rfl, hM⟩
  case pos =>
  have heb : (ec != 0) = false := by simp [he]
  by_cases h0 : mm = 0
  case pos =>
    have hmb : (mm == 0) = true := by simp [h0]
    have e : RR = false := by
      have := hz0 h0
      rw [HX.out]; simp [this]
    subst e
    clear HX he h0 HK HL HR
    go_wp2
    go_ret
    exact ⟨rfl, hM⟩
  case neg =>
  have hmb : (mm == 0) = false := by simp [h0]
  have hNp := hcn he h0
  clear hcn hz0 h0 HK
  cases cr
  · have e : RR = false := by rw [HX.out]; simp
    subst e
    clear HX he HL
    go_wp2_with (fail)
    refine (HR _).mono ?_
    rintro e w2 ⟨rfl, hm2⟩
    go_wp2
    go_ret
    exact ⟨rfl, hM.and hm2⟩
  · go_wp2_with (fail)
    refine (HR _).mono ?_
    rintro e w2 ⟨rfl, hm2⟩
    replace hM := hM.and hm2
    replace hB := hB.mod hm2 (fun h => h)
    replace hs0 := hs0.keep hm2
    clear a0 a1 a2 a3 a4 hm2 HR
    have a0 := hB.cellv (j := 0) rfl
    have a1 := hB.cellv (j := 1) rfl
    have a2 := hB.cellv (j := 2) rfl
    have a3 := hB.cellv (j := 3) rfl
    have a4 := hB.cellv (j := 4) rfl
    go_wp2_with (fail)
    refine (HL _).mono ?_
    rintro e w3 ⟨lv, rfl, hO, hm3, _⟩
    obtain ⟨lao, lcap, rfl, h1, h2⟩ := hO.rng
    obtain ⟨lb, rfl⟩ : ∃ lb, lao = some ⟨lb, 0, none⟩ := by
      rcases hO.2 with ⟨_, h⟩ | ⟨g, cap, cur, e, _⟩
      · omega
      · simp only [Value.slice.injEq] at e
        exact ⟨g, e.1⟩
    have hcell : ∀ W, Mod (fun _ => False) w3 W → ∀ j, j < N → W.cell? ⟨lb, 0 + j, none⟩ = some (.int .i64 (ms.getD j 0)) := fun W hW j hj => by
      obtain ⟨a, c, e, _, _, _, h4⟩ := hO.sl
      simp only [Value.slice.injEq] at e
      obtain ⟨b', o', e1, hc⟩ := h4 (by intro e0; rw [e0] at hlc; simp at hlc; omega)
      rw [← e.1] at e1
      simp only [Option.some.injEq, Addr.mk.injEq, and_true] at e1
      obtain ⟨rfl, rfl⟩ := e1
      exact hW.cell (hc j (by omega)) (fun h => h)
    have HC : Hid (∀ W, Mod (fun _ => False) w3 W → ∀ j, j < N → W.cell? ⟨lb, 0 + j, none⟩ = some (.int .i64 (ms.getD j 0))) := hcell
    rw [hlc] at hO ⊢
    replace hM := hM.and hm3
    replace hB := hB.mod hm3 (fun h => h)
    replace hs0 := hs0.keep hm3
    obtain ⟨rq, hrq⟩ : ∃ rq : Nat, rq = if 1 ≤ hp then hp.toNat % N else 0 := ⟨_, rfl⟩
    have hrl : rq < N := by
      rw [hrq]
      split
      · exact Nat.mod_lt _ hNp
      · exact hNp
    have hk0 := hcell w3 (Mod.refl _ _) 0 hNp
    have hkr := hcell w3 (Mod.refl _ _) rq hrl
    rw [Nat.add_zero] at hk0
    obtain ⟨l0, hl0⟩ : ∃ l0, l0 = ms.getD 0 0 := ⟨_, rfl⟩
    obtain ⟨lr, hlr⟩ : ∃ lr, lr = ms.getD rq 0 := ⟨_, rfl⟩
    rw [← hl0] at hk0
    rw [← hlr] at hkr
    have HLL : Hid (l0 = ms.getD 0 0 ∧ lr = ms.getD rq 0 ∧ rq = if 1 ≤ hp then hp.toNat % N else 0) := ⟨hl0, hlr, hrq⟩
    have hwr : IntKind.i64.wrap ((2 : Int) * (N : Int)) = 2 * (N : Int) := by rw [IntKind.wrap_i64]; omega
    have hrql : (rq : Int) < (N : Int) := by omega
    clear a0 a1 a2 a3 a4 hm3 HL hcell h1 h2 hl0 hlr hrq
    go_upto_region 5 with fail
    refine rd5 w.heap.size lb 0 N lcap ce.length ccap rq cao mm rs rr hp tw l0 lr ⟨⟨⟨_, rfl, rfl, rfl, rfl, by decide +kernel⟩⟩, ⟨⟨_, rfl, rfl, rfl, rfl, by decide +kernel⟩⟩, ⟨⟨_, rfl, rfl, rfl, rfl, by decide +kernel⟩⟩, ⟨⟨_, rfl, rfl, rfl, rfl, by decide +kernel⟩⟩, ⟨⟨_, rfl, rfl, rfl, rfl, by decide +kernel⟩⟩, ⟨⟨_, rfl, rfl, rfl, rfl, by decide +kernel⟩⟩, ⟨⟨_, rfl, rfl, rfl, rfl, by decide +kernel⟩⟩, ⟨⟨_, rfl, rfl, rfl, rfl, by decide +kernel⟩⟩, ⟨⟨_, rfl, rfl, rfl, rfl, by decide +kernel⟩⟩, ⟨⟨_, rfl, rfl, rfl, rfl, by decide +kernel⟩⟩, ⟨⟨_, rfl, rfl, rfl, rfl, by decide +kernel⟩⟩, ⟨⟨_, rfl, rfl, rfl, rfl, by decide +kernel⟩⟩, ⟨⟨_, rfl, rfl, rfl, rfl, by decide +kernel⟩⟩, ⟨⟨_, rfl, rfl, rfl, rfl, by decide +kernel⟩⟩, ⟨⟨_, rfl, rfl, rfl, rfl, by decide +kernel⟩⟩, ⟨⟨_, rfl, rfl, rfl, rfl, by decide +kernel⟩⟩, ⟨⟨_, rfl, rfl, rfl, rfl, by decide +kernel⟩⟩, ⟨⟨_, rfl, rfl, rfl, rfl, by decide +kernel⟩⟩, ⟨⟨_, rfl, rfl, rfl, rfl, by decide +kernel⟩⟩, ⟨⟨_, rfl, rfl, rfl, rfl, by decide +kernel⟩⟩, ⟨⟨_, rfl, rfl, rfl, rfl, by decide +kernel⟩⟩, ⟨⟨_, rfl, rfl, rfl, rfl, by decide +kernel⟩⟩, ⟨⟨_, rfl, rfl, rfl, rfl, by decide +kernel⟩⟩, ⟨⟨_, rfl, rfl, rfl, rfl, by decide +kernel⟩⟩, ⟨⟨_, rfl, rfl, rfl, rfl, by decide +kernel⟩⟩, ⟨⟨_, rfl, rfl, rfl, rfl, by decide +kernel⟩⟩, ⟨⟨_, rfl, rfl, rfl, rfl, by decide +kernel⟩⟩, ⟨⟨_, rfl, rfl, rfl, rfl, by decide +kernel⟩⟩, ⟨⟨_, rfl, rfl, rfl, rfl, by decide +kernel⟩⟩, ⟨⟨_, rfl, rfl, rfl, rfl, by decide +kernel⟩⟩, ⟨⟨_, rfl, rfl, rfl, rfl, by decide +kernel⟩⟩, ⟨⟨_, rfl, rfl, rfl, rfl, by decide +kernel⟩⟩, ⟨⟨_, rfl, rfl, rfl, rfl, by decide +kernel⟩⟩, ⟨⟨_, rfl, rfl, rfl, rfl, by decide +kernel⟩⟩, ⟨⟨_, rfl, rfl, rfl, rfl, by decide +kernel⟩⟩, ⟨⟨_, rfl, rfl, rfl, rfl, by decide +kernel⟩⟩, ⟨⟨_, rfl, rfl, rfl, rfl, by decide +kernel⟩⟩, ⟨⟨_, rfl, rfl, rfl, rfl, by decide +kernel⟩⟩, ⟨⟨_, rfl, rfl, rfl, rfl, by decide +kernel⟩⟩, ⟨⟨_, rfl, rfl, rfl, rfl, by decide +kernel⟩⟩⟩ rfl (by decide +kernel) rfl (by decide +kernel) rfl rfl rfl rfl rfl (hB.cellv rfl) (hB.cellv rfl) (hB.cellv rfl) (hB.cellv rfl) (hB.cellv rfl) hk0 hkr hNp (fun hc => ?_) hrql ?_
    · have h1 : 1 ≤ hp := by
        simp only [Bool.not_eq_true', Bool.or_eq_false_iff, decide_eq_false_iff_not] at hc
        omega
      have := HLL.out.2.2
      rw [if_pos h1] at this
      rw [this, Int.tmod_eq_emod_of_nonneg (by omega)]
      obtain ⟨hn, rfl⟩ := Int.eq_ofNat_of_zero_le (show 0 ≤ hp by omega)
      simp
    · intro f w4 hm4
      simp only [puts, Act.put, List.setIfInBounds_toArray, List.set_cons_succ, List.set_cons_zero]
      replace hM := hM.and hm4
      replace hs0 := hs0.keep hm4
      have hB4 := hB.mod hm4 (fun h => h)
      rw [hwr]
      have hmin : min hp (N : Int) = if (N : Int) < hp then (N : Int) else hp := by split <;> omega
      have hmnle : (if (N : Int) < hp then (N : Int) else hp) ≤ (N : Int) := by split <;> omega
      generalize (if (N : Int) < hp then (N : Int) else hp) = mn at hmin hmnle ⊢
      have hBB : (((((rr != l0) || decide (hp < 1)) || decide (2 * (N : Int) < hp)) || ((ce.length : Int) != mn)) || (tw != lr)) = false → RR = mbs ce ms := by
        intro h
        simp only [Bool.or_eq_false_iff, bne_eq_false_iff_eq, decide_eq_false_iff_not] at h
        obtain ⟨⟨⟨⟨q1, q2⟩, q3⟩, q4⟩, q5⟩ := h
        obtain ⟨p1, p2, p3⟩ := HLL.out
        rw [if_pos (by omega)] at p3
        have q6 : win hp 1 (2 * (N : Int)) = true := by simp only [win, Bool.and_eq_true, decide_eq_true_eq]; omega
        rw [HX.out, hmin, ← p1, hlc, ← p3, ← p2, q6, q1, q4, q5]
        simp [he, hNp]
      have hBT : (((((rr != l0) || decide (hp < 1)) || decide (2 * (N : Int) < hp)) || ((ce.length : Int) != mn)) || (tw != lr)) = true → RR = false := by
        intro h
        rw [Bool.eq_false_iff]
        intro hr
        rw [HX.out, hmin] at hr
        simp only [Bool.and_eq_true, decide_eq_true_eq, win] at hr
        obtain ⟨⟨⟨⟨⟨_, r1⟩, r2, r3⟩, r4⟩, _⟩, r5⟩ := hr
        obtain ⟨p1, p2, p3⟩ := HLL.out
        rw [if_pos r2] at p3
        rw [hlc, ← p3, ← p2] at r5
        rw [← p1] at r1
        simp only [Bool.or_eq_true, bne_iff_ne, decide_eq_true_eq] at h
        omega
      clear HX hmin hk0 hkr hwr hB
      have a0 := hB4.cellv (j := 0) rfl
      have a1 := hB4.cellv (j := 1) rfl
      have a2 := hB4.cellv (j := 2) rfl
      have a3 := hB4.cellv (j := 3) rfl
      have a4 := hB4.cellv (j := 4) rfl
      cases hbb : (((((rr != l0) || decide (hp < 1)) || decide (2 * (N : Int) < hp)) || ((ce.length : Int) != mn)) || (tw != lr))
      case true =>
        have e := hBT hbb
        subst e
        clear hBT hBB hbb
        go_wp2
        go_ret
        exact ⟨rfl, hM⟩
      case false =>
        have HRR : Hid (RR = mbs (ce.drop 0) (ms.drop 0)) := hBB hbb
        have HQ : Hid (Bk w4 w.heap.size 26 #[.int .i64 rs, .int .i64 rr, .int .i64 mm, .int .i64 hp, .slice cao ce.length ccap] ∧ SlE w4 (.slice cao ce.length ccap) ce ∧ Mod (fun _ => False) w w4 ∧ ∀ W, Mod (fun _ => False) w4 W → ∀ j, j < N → W.cell? ⟨lb, 0 + j, none⟩ = some (.int .i64 (ms.getD j 0))) := ⟨hB4, hs0, hM, fun W hW j hj => hW.cell (HC.out w4 hm4 j hj) (fun h => h)⟩
        have hlen : ce.length ≤ N := by
          have h := hbb
          simp only [Bool.or_eq_false_iff, bne_eq_false_iff_eq, decide_eq_false_iff_not] at h
          have h4 := h.1.2
          omega
        clear hBT hBB hbb hB4 hs0 hM hO hm4
        go_wp2
        go_loopw [7] (fun i wr => ∃ k : Nat, i = .int .i64 (k : Int) ∧ k ≤ ce.length ∧ Hid (RR = mbs (ce.drop k) (ms.drop k)) ∧ Hid (Mod (fun _ => False) w4 wr)) (fun i _ => ce.length - (intOf i).toNat)
        case atStart => exact ⟨0, rfl, by omega, HRR, Mod.refl _ _⟩
        case round =>
          clear HRR a0 a1 a2 a3 a4
          obtain ⟨k, rfl, hk, HR', HMw⟩ := hrel
          have hBr := HQ.out.1.mod HMw.out (fun h => h)
          have b4 := hBr.cellv (j := 4) rfl
          by_cases hlt : k < ce.length
          · obtain ⟨e, hee⟩ : ∃ e, ce[k]? = some e := ⟨_, List.getElem?_eq_getElem hlt⟩
            obtain ⟨eb, off, rfl, hc⟩ := HQ.out.2.1.at hee
            obtain ⟨c0, c1, c2, c3, c4, c5⟩ := hc _ HMw.out
            have hd := mbs_drop (m := ms) hee
            rw [hd] at HR'
            obtain ⟨en, os, od, ar, hh, ck⟩ := e
            simp only at c0 c1 c2 c3 c4 c5
            rw [okE_doc] at HR'
            have hMA := HMw.out.alloc (.cells #[.int .i64 en, .int .i64 os, .int .i64 od, .int .i64 ar, .int .i64 hh, .int .i64 ck] 28)
            have hBx := Bk.new wr #[.int .i64 en, .int .i64 os, .int .i64 od, .int .i64 ar, .int .i64 hh, .int .i64 ck] 28
            have hmk := HQ.out.2.2.2 _ hMA k (by omega)
            obtain ⟨mk, hmk2⟩ : ∃ mk, ms.getD k 0 = mk := ⟨_, rfl⟩
            rw [hmk2] at hmk HR'
            have H1 := dRing os od
            have H2 := dNum hh
            have H3 := dNum ck
            generalize isr os od = x1 at H1 HR'
            generalize nm hh = x2 at H2 HR'
            generalize nm ck = x3 at H3 HR'
            have hki : (k : Int) < ce.length := by omega
            have hkN : (k : Int) < (N : Int) := by omega
            clear hee hc hd hmk2 hBr
            go_upto_region 11 with fail
            refine rd11 wr.heap.size lb 0 N lcap k en os od ar hh ck mk x1 x2 x3 ⟨⟨⟨_, rfl, rfl, rfl, rfl, by decide +kernel⟩⟩, ⟨⟨_, rfl, rfl, rfl, rfl, by decide +kernel⟩⟩, ⟨⟨_, rfl, rfl, rfl, rfl, by decide +kernel⟩⟩, ⟨⟨_, rfl, rfl, rfl, rfl, by decide +kernel⟩⟩, ⟨⟨_, rfl, rfl, rfl, rfl, by decide +kernel⟩⟩, ⟨⟨_, rfl, rfl, rfl, rfl, by decide +kernel⟩⟩, ⟨⟨_, rfl, rfl, rfl, rfl, by decide +kernel⟩⟩, ⟨⟨_, rfl, rfl, rfl, rfl, by decide +kernel⟩⟩, ⟨⟨_, rfl, rfl, rfl, rfl, by decide +kernel⟩⟩, ⟨⟨_, rfl, rfl, rfl, rfl, by decide +kernel⟩⟩, ⟨⟨_, rfl, rfl, rfl, rfl, by decide +kernel⟩⟩, ⟨⟨_, rfl, rfl, rfl, rfl, by decide +kernel⟩⟩, ⟨⟨_, rfl, rfl, rfl, rfl, by decide +kernel⟩⟩, ⟨⟨_, rfl, rfl, rfl, rfl, by decide +kernel⟩⟩, ⟨⟨_, rfl, rfl, rfl, rfl, by decide +kernel⟩⟩, ⟨⟨_, rfl, rfl, rfl, rfl, by decide +kernel⟩⟩, ⟨⟨_, rfl, rfl, rfl, rfl, by decide +kernel⟩⟩, ⟨⟨_, rfl, rfl, rfl, rfl, by decide +kernel⟩⟩, ⟨⟨_, rfl, rfl, rfl, rfl, by decide +kernel⟩⟩, ⟨⟨_, rfl, rfl, rfl, rfl, by decide +kernel⟩⟩, ⟨⟨_, rfl, rfl, rfl, rfl, by decide +kernel⟩⟩, ⟨⟨_, rfl, rfl, rfl, rfl, by decide +kernel⟩⟩, ⟨⟨_, rfl, rfl, rfl, rfl, by decide +kernel⟩⟩, ⟨⟨_, rfl, rfl, rfl, rfl, by decide +kernel⟩⟩, ⟨⟨_, rfl, rfl, rfl, rfl, by decide +kernel⟩⟩, ⟨⟨_, rfl, rfl, rfl, rfl, by decide +kernel⟩⟩, ⟨⟨_, rfl, rfl, rfl, rfl, by decide +kernel⟩⟩, ⟨⟨_, rfl, rfl, rfl, rfl, by decide +kernel⟩⟩, ⟨⟨_, rfl, rfl, rfl, rfl, by decide +kernel⟩⟩, ⟨⟨_, rfl, rfl, rfl, rfl, by decide +kernel⟩⟩, ⟨⟨_, rfl, rfl, rfl, rfl, by decide +kernel⟩⟩, ⟨⟨_, rfl, rfl, rfl, rfl, by decide +kernel⟩⟩, ⟨⟨_, rfl, rfl, rfl, rfl, by decide +kernel⟩⟩, ⟨⟨_, rfl, rfl, rfl, rfl, by decide +kernel⟩⟩, ⟨⟨_, rfl, rfl, rfl, rfl, by decide +kernel⟩⟩, ⟨⟨_, rfl, rfl, rfl, rfl, by decide +kernel⟩⟩, ⟨⟨_, rfl, rfl, rfl, rfl, by decide +kernel⟩⟩⟩ rfl (by decide +kernel) rfl (by decide +kernel) rfl rfl rfl rfl (hBx.cellv rfl) (hBx.cellv rfl) (hBx.cellv rfl) (hBx.cellv rfl) (hBx.cellv rfl) (hBx.cellv rfl) hmk hkN (fun W _ => H1 W) (fun W _ => (H2 W).mono fun _ _ h => ⟨h.1, h.2 ▸ Mod.refl _ _⟩) (fun W _ => (H3 W).mono fun _ _ h => ⟨h.1, h.2 ▸ Mod.refl _ _⟩) ?_
            intro f2 w5 hm5
            simp only [puts, Act.put, List.setIfInBounds_toArray, List.set_cons_succ, List.set_cons_zero]
            have hM5 := hMA.and hm5
            clear c0 c1 c2 c3 c4 c5 b4 hBx hmk hMA hm5 H1 H2 H3
            cases hb : ((((((en != mk) || !x1) || decide (ar < 0)) || decide (hh < ar)) || !x2) || !x3)
            · have HR3 : Hid (RR = mbs (ce.drop (k + 1)) (ms.drop (k + 1))) := by rw [Hid, HR'.out, hb]; rfl
              clear HR' hb
              go_wp2
              go_roundw
              case rel => exact ⟨k + 1, by go_num, by omega, HR3, hM5⟩
              case measure => simp [intOf]; omega
            · have HR3 : Hid (RR = false) := by rw [Hid, HR'.out, hb]; rfl
              clear HR' hb
              go_wp2
              have hRT := HR3.out
              subst hRT
              go_ret
              exact ⟨rfl, HQ.out.2.2.1.and hM5⟩
          · have HR3 : Hid (RR = true) := by rw [Hid, HR'.out, List.drop_eq_nil_of_le (by omega)]; rfl
            clear HR' hBr
            go_wp2
            have hRT := HR3.out
            subst hRT
            go_ret
            exact ⟨rfl, HQ.out.2.2.1.and HMw.out⟩
end Go.Proofs.Ytlekmgjjjniomaa
