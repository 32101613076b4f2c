/- The statement of packet's isCommit that draws its order, in its eight cases. Conditions: what is said of the slots that it reads, and of the cells. -/
import Derived.Test.YtajhpnfpjickbaaK23
import Derived.Test.YtajhpnfpjickbaaK24
namespace Go.Proofs.Ytajhpnfpjickbaa
open Go.RowKit
theorem flc0 {b : Nat} (w : World) : (Instr.fieldAt 72 (.pointer (some ⟨b, 0, none⟩)) 0).run Try.prog w = .ok (.pointer (some ⟨b, 0, none⟩)) w := by
  simp [go_sem]
theorem flc1 {b : Nat} (w : World) : (Instr.fieldAt 72 (.pointer (some ⟨b, 0, none⟩)) 1).run Try.prog w = .ok (.pointer (some ⟨b, 2, none⟩)) w := by
  simp [go_sem]
theorem flc2 {b : Nat} (w : World) : (Instr.fieldAt 72 (.pointer (some ⟨b, 0, none⟩)) 2).run Try.prog w = .ok (.pointer (some ⟨b, 3, none⟩)) w := by
  simp [go_sem]
theorem flc3 {b : Nat} (w : World) : (Instr.fieldAt 72 (.pointer (some ⟨b, 0, none⟩)) 3).run Try.prog w = .ok (.pointer (some ⟨b, 4, none⟩)) w := by
  simp [go_sem]
theorem flr1 {b : Nat} (w : World) : (Instr.fieldAt 23 (.pointer (some ⟨b, 0, none⟩)) 1).run Try.prog w = .ok (.pointer (some ⟨b, 1, none⟩)) w := by
  simp [go_sem]
theorem lde {b o : Nat} {ao : Option Addr} {n c : Nat} {w : World} (h0 : w.cell? ⟨b, o, none⟩ = some (.slice ao n c)) : (Instr.loadAt 70 (.pointer (some ⟨b, o, none⟩))).run Try.prog w = .ok (.slice ao n c) w := by
  simp [go_sem, h0]
section
variable {o : Oper} {w : World} {ρ : Operand → Value} {x y : Operand}
theorem ox_assign (ho : o.op = .assign x) {v : Value} (hx : ρ x = v) : (execOp ρ o).run Try.prog w = .ok (.value v) w := by simp [execOp, ho, hx]
theorem ox_eql0 {t : TypeId} (ho : o.op = .binOp .eql t x (.const (.int .i64 0)) t) (hc : ∀ v, ρ (.const v) = v) {c : Int} (hx : ρ x = .int .i64 c) {e : Bool} (he : (c == 0) = e) : (execOp ρ o).run Try.prog w = .ok (.value (.bool e)) w := by
  subst he
  simp [execOp, ho, hx, hc, go_sem]
theorem ox_eql (ho : o.op = .binOp .eql 3 x y 3) {c d : Int} (hx : ρ x = .int .i64 c) (hy : ρ y = .int .i64 d) {e : Bool} (he : (c == d) = e) : (execOp ρ o).run Try.prog w = .ok (.value (.bool e)) w := by
  subst he
  simp [execOp, ho, hx, hy, go_sem]
theorem ox_mul2 (ho : o.op = .binOp .mul 3 (.const (.int .i64 2)) y 3) (hc : ∀ v, ρ (.const v) = v) {c d : Int} (hy : ρ y = .int .i64 c) (hd : IntKind.i64.wrap (2 * c) = d) : (execOp ρ o).run Try.prog w = .ok (.value (.int .i64 d)) w := by
  subst hd
  simp [execOp, ho, hy, hc, go_sem]
theorem ox_len (ho : o.op = .call { callee := .builtin .len, args := #[x], argTypes := #[70] }) {ao : Option Addr} {n c : Nat} (hx : ρ x = .slice ao n c) : (execOp ρ o).run Try.prog w = .ok (.value (.int .i64 (n : Int))) w := by
  simp [execOp, ho, hx, resolve, invoke, builtin, go_sem]
theorem ox_min (ho : o.op = .call { callee := .builtin .min, args := #[x, y], argTypes := #[3, 3] }) {c d e : Int} (hx : ρ x = .int .i64 c) (hy : ρ y = .int .i64 d) (he : (if d < c then d else c) = e) : (execOp ρ o).run Try.prog w = .ok (.value (.int .i64 e)) w := by
  subst he
  simp [execOp, ho, hx, hy, resolve, invoke, builtin, go_sem]
end
def v20 (g _N _EL _ccap : Nat) (_cao : Option Addr) (ec mem _rs _rr _hop _ls0 _mn : Int) : Nat → Value
  | 0 => .pointer (some ⟨g, 2, none⟩)
  | 1 => .int .i64 mem
  | 2 => .int .i64 ec
  | 3 => .bool false
  | 4 => .bool false
  | 7 => .bool false
  | 8 => .bool false
  | 12 => .bool false
  | 13 => .bool false
  | 21 => .bool false
  | 22 => .bool false
  | 28 => .bool false
  | 29 => .bool false
  | 38 => .bool false
  | 39 => .bool false
  | 46 => .bool false
  | 47 => .bool false
  | _ => undef
/-- A step. -/
abbrev S2 (ops : Array Oper) (PP : Nat → Value → World → Prop) (w0 : World) (a0 : Act) (Q : Exit → Act → World → Prop) (i : Nat) : Prop := ∀ o, ops[i]? = some o → StepW Try.prog ops PP (M0 w0) a0 Q i o
/-- The region's operations. -/
structure Ops20 (ops : Array Oper) : Prop where
  e0 : Is ops 0 (some 7) (Op.fieldAddr 72 (Operand.tmp 1) 1) none []
  e1 : Is ops 1 (some 8) (Op.load 3 (Operand.tmp 7)) none [0]
  e2 : Is ops 2 (some 9) (Op.call { callee := Callee.value (Operand.func 137), args := #[Operand.tmp 8], argTypes := #[3] }) none [1]
  e3 : Is ops 3 (some 10) (Op.binOp BinOp.eql 30 (Operand.tmp 9) (Operand.const (Value.int IntKind.i64 0)) 30) none [2]
  e4 : Is ops 4 (some 11) (Op.move (Operand.tmp 10)) none [2, 3]
  e5 : Is ops 5 (some 12) (Op.move (Operand.tmp 3)) (some (4, true)) [4]
  e6 : Is ops 6 (some 13) (Op.binOp BinOp.gtr 3 (Operand.tmp 12) (Operand.const (Value.int IntKind.i64 0)) 3) (some (4, true)) [4, 5]
  e7 : Is ops 7 (some 14) (Op.pick (Operand.tmp 11) (Operand.tmp 13) (Operand.const (Value.bool false))) none [4, 6]
  e8 : Is ops 8 (some 15) (Op.move (Operand.tmp 14)) none [4, 7]
  e9 : Is ops 9 (some 16) (Op.fieldAddr 72 (Operand.tmp 1) 0) (some (8, true)) [8]
  e10 : Is ops 10 (some 17) (Op.load 23 (Operand.tmp 16)) (some (8, true)) [8, 9]
  e11 : Is ops 11 (some 18) (Op.call { callee := Callee.value (Operand.func 117), args := #[Operand.tmp 17], argTypes := #[23] }) (some (8, true)) [8, 10]
  e12 : Is ops 12 (some 19) (Op.pick (Operand.tmp 15) (Operand.tmp 18) (Operand.const (Value.bool false))) none [8, 11]
  e13 : Is ops 13 (some 20) (Op.move (Operand.tmp 19)) none [11, 12]
  e14 : Is ops 14 (some 21) (Op.fieldAddr 72 (Operand.tmp 1) 0) (some (13, true)) [13]
  e15 : Is ops 15 (some 22) (Op.fieldAddr 23 (Operand.tmp 21) 1) (some (13, true)) [13, 14]
  e16 : Is ops 16 (some 23) (Op.load 3 (Operand.tmp 22)) (some (13, true)) [13, 15]
  e17 : Is ops 17 (some 24) (Op.fieldAddr 72 (Operand.tmp 1) 1) (some (13, true)) [13]
  e18 : Is ops 18 (some 25) (Op.load 3 (Operand.tmp 24)) (some (13, true)) [13, 17]
  e19 : Is ops 19 (some 26) (Op.call { callee := Callee.value (Operand.func 140), args := #[Operand.tmp 25], argTypes := #[3] }) (some (13, true)) [13, 18]
  e20 : Is ops 20 (some 27) (Op.binOp BinOp.eql 3 (Operand.tmp 23) (Operand.tmp 26) 3) (some (13, true)) [13, 16, 19]
  e21 : Is ops 21 (some 28) (Op.pick (Operand.tmp 20) (Operand.tmp 27) (Operand.const (Value.bool false))) none [13, 20]
  e22 : Is ops 22 (some 29) (Op.move (Operand.tmp 28)) none [19, 21]
  e23 : Is ops 23 (some 30) (Op.fieldAddr 72 (Operand.tmp 1) 2) (some (22, true)) [22]
  e24 : Is ops 24 (some 31) (Op.load 3 (Operand.tmp 30)) (some (22, true)) [22, 23]
  e25 : Is ops 25 (some 32) (Op.move (Operand.tmp 3)) (some (22, true)) [22]
  e26 : Is ops 26 (some 33) (Op.binOp BinOp.mul 3 (Operand.const (Value.int IntKind.i64 2)) (Operand.tmp 32) 3) (some (22, true)) [22, 25]
  e27 : Is ops 27 (some 34) (Op.call { callee := Callee.value (Operand.func 135), args := #[Operand.tmp 31, Operand.const (Value.int IntKind.i64 1), Operand.tmp 33], argTypes := #[3, 3, 3] }) (some (22, true)) [22, 24, 26]
  e28 : Is ops 28 (some 35) (Op.pick (Operand.tmp 29) (Operand.tmp 34) (Operand.const (Value.bool false))) none [22, 27]
  e29 : Is ops 29 (some 36) (Op.move (Operand.tmp 35)) none [27, 28]
  e30 : Is ops 30 (some 37) (Op.fieldAddr 72 (Operand.tmp 1) 3) (some (29, true)) [29]
  e31 : Is ops 31 (some 38) (Op.load 70 (Operand.tmp 37)) (some (29, true)) [29, 30]
  e32 : Is ops 32 (some 39) (Op.call { callee := Callee.builtin Builtin.len, args := #[Operand.tmp 38], argTypes := #[70] }) (some (29, true)) [29, 31]
  e33 : Is ops 33 (some 40) (Op.fieldAddr 72 (Operand.tmp 1) 2) (some (29, true)) [29]
  e34 : Is ops 34 (some 41) (Op.load 3 (Operand.tmp 40)) (some (29, true)) [29, 33]
  e35 : Is ops 35 (some 42) (Op.move (Operand.tmp 3)) (some (29, true)) [29]
  e36 : Is ops 36 (some 43) (Op.call { callee := Callee.builtin Builtin.min, args := #[Operand.tmp 41, Operand.tmp 42], argTypes := #[3, 3] }) (some (29, true)) [29, 34, 35]
  e37 : Is ops 37 (some 44) (Op.binOp BinOp.eql 3 (Operand.tmp 39) (Operand.tmp 43) 3) (some (29, true)) [29, 32, 36]
  e38 : Is ops 38 (some 45) (Op.pick (Operand.tmp 36) (Operand.tmp 44) (Operand.const (Value.bool false))) none [29, 37]
  e39 : Is ops 39 (some 46) (Op.move (Operand.tmp 45)) none [29, 38]
  e40 : Is ops 40 (some 47) (Op.fieldAddr 72 (Operand.tmp 1) 3) (some (39, true)) [39]
  e41 : Is ops 41 (some 48) (Op.load 70 (Operand.tmp 47)) (some (39, true)) [39, 40]
  e42 : Is ops 42 (some 49) (Op.fieldAddr 72 (Operand.tmp 1) 1) (some (39, true)) [39]
  e43 : Is ops 43 (some 50) (Op.load 3 (Operand.tmp 49)) (some (39, true)) [39, 42]
  e44 : Is ops 44 (some 51) (Op.call { callee := Callee.value (Operand.func 142), args := #[Operand.tmp 50], argTypes := #[3] }) (some (39, true)) [39, 43]
  e45 : Is ops 45 (some 52) (Op.call { callee := Callee.value (Operand.func 141), args := #[Operand.tmp 48, Operand.tmp 51], argTypes := #[70, 65] }) (some (39, true)) [39, 41, 44]
  e46 : Is ops 46 (some 53) (Op.pick (Operand.tmp 46) (Operand.tmp 52) (Operand.const (Value.bool false))) none [39, 45]
  e47 : Is ops 47 (some 2) (Op.assign (Operand.tmp 53)) none [0, 1, 2, 3, 4, 5, 6, 7, 8, 9, 10, 11, 12, 13, 14, 15, 16, 17, 18, 19, 20, 21, 22, 23, 24, 25, 26, 27, 28, 29, 30, 31, 32, 33, 34, 35, 36, 37, 38, 39, 40, 41, 42, 43, 44, 45, 46]
set_option maxRecDepth 100000 in
set_option maxHeartbeats 4000000 in
theorem region20 {ops : Array Oper} {id : Nat} {a0 : Act} {w0 : World} {Q : Exit → Act → World → Prop} (g N EL ccap : Nat) (cao : Option Addr) (ec mem rs rr hop ls0 mn : Int)
    (EE : Ops20 ops)
    (hN : ops.size = 48) (hlow : lowB ops = true) (hds : dsts ops = [some 7, some 8, some 9, some 10, some 11, some 12, some 13, some 14, some 15, some 16, some 17, some 18, some 19, some 20, some 21, some 22, some 23, some 24, some 25, some 26, some 27, some 28, some 29, some 30, some 31, some 32, some 33, some 34, some 35, some 36, some 37, some 38, some 39, some 40, some 41, some 42, some 43, some 44, some 45, some 46, some 47, some 48, some 49, some 50, some 51, some 52, some 53, some 2]) (hnd : injB ops = true)
    (hmx : Try.prog.follows .mixedOrders = true) (ha0 : a0.tmps.size = 54) (h1 : a0.tmps.getD 1 undef = .pointer (some ⟨g, 0, none⟩)) (_h3 : a0.tmps.getD 3 undef = .int .i64 (N : Int))
    (_d0 : w0.cell? ⟨g, 0, none⟩ = some (.int .i64 rs)) (_d1 : w0.cell? ⟨g, 1, none⟩ = some (.int .i64 rr)) (d2 : w0.cell? ⟨g, 2, none⟩ = some (.int .i64 mem)) (_d3 : w0.cell? ⟨g, 3, none⟩ = some (.int .i64 hop)) (_d4 : w0.cell? ⟨g, 4, none⟩ = some (.slice cao EL ccap))
    (H0 : ∀ W, Calls Try.prog 137 #[.int .i64 mem] W fun e w' => e = .returned (.int .i64 ec) ∧ Mod (fun _ => False) W w') (hec : (ec == 0) = false)
    (hend : ∀ w, Mod (fun _ => False) w0.drew w → Q .normal (puts a0 [(7, .pointer (some ⟨g, 2, none⟩)), (8, .int .i64 mem), (9, .int .i64 ec), (10, .bool false), (11, .bool false), (12, undef), (13, undef), (14, .bool false), (15, .bool false), (16, undef), (17, undef), (18, undef), (19, .bool false), (20, .bool false), (21, undef), (22, undef), (23, undef), (24, undef), (25, undef), (26, undef), (27, undef), (28, .bool false), (29, .bool false), (30, undef), (31, undef), (32, undef), (33, undef), (34, undef), (35, .bool false), (36, .bool false), (37, undef), (38, undef), (39, undef), (40, undef), (41, undef), (42, undef), (43, undef), (44, undef), (45, .bool false), (46, .bool false), (47, undef), (48, undef), (49, undef), (50, undef), (51, undef), (52, undef), (53, .bool false), (2, .bool false)]) w) :
    (Code.region id ops true).wp Try.prog Q a0 w0 := by
  obtain ⟨E0, E1, E2, E3, E4, E5, E6, E7, E8, E9, E10, E11, E12, E13, E14, E15, E16, E17, E18, E19, E20, E21, E22, E23, E24, E25, E26, E27, E28, E29, E30, E31, E32, E33, E34, E35, E36, E37, E38, E39, E40, E41, E42, E43, E44, E45, E46, E47⟩ := EE
  obtain ⟨PP, q, r⟩ : ∃ PP : Nat → Value → World → Prop, (∀ i v w, (fun i' v _ => v = v20 g N EL ccap cao ec mem rs rr hop ls0 mn i') i v w → PP i v w) ∧ (∀ i v w, PP i v w → (fun i' v _ => v = v20 g N EL ccap cao ec mem rs rr hop ls0 mn i') i v w) := ⟨(fun i' v _ => v = v20 g N EL ccap cao ec mem rs rr hop ls0 mn i'), fun _ _ _ h => h, fun _ _ _ h => h⟩
  have D : ∀ {W : World} {a : Addr} {v : Value}, Mod (fun _ => False) w0.drew W → w0.cell? a = some v → W.cell? a = some v := fun hW hc => hW.cell (by simpa using hc) (fun h => h)
  have s0 : S2 ops PP w0 a0 Q 0 := by
    refine E0.stepW fun o hd ho hg hw y w listed hsz hls hun hwt hdown D' R hinv K hK => ?_
    rw [ha0] at hsz
    refine .inl ⟨wanted_none hg, ?_⟩
    have f1 : y.eval (Operand.tmp 1) = .pointer (some ⟨g, 0, none⟩) := (R 1 (not_of (by rw [hds]; decide))).trans h1
    exact wp_value (ox_field ho f1 (flc1 w)) (hK _ _ (Mod.refl _ _) (q _ _ _ rfl) hinv)
  have s1 : S2 ops PP w0 a0 Q 1 := by
    refine E1.stepW fun o hd ho hg hw y w listed hsz hls hun hwt hdown D' R hinv K hK => ?_
    rw [ha0] at hsz
    refine .inl ⟨wanted_none hg, ?_⟩
    have f7 : y.eval (Operand.tmp 7) = .pointer (some ⟨g, 2, none⟩) := r _ _ _ (E0.postW D' (hw 0 (by simp)))
    exact wp_value (ox_load ho f7 (ld1 (D hinv d2))) (hK _ _ (Mod.refl _ _) (q _ _ _ rfl) hinv)
  have s2 : S2 ops PP w0 a0 Q 2 := by
    refine E2.stepW fun o hd ho hg hw y w listed hsz hls hun hwt hdown D' R hinv K hK => ?_
    rw [ha0] at hsz
    refine .inl ⟨wanted_none hg, ?_⟩
    have f8 : y.eval (Operand.tmp 8) = .int .i64 mem := r _ _ _ (E1.postW D' (hw 1 (by simp)))
    refine wp_enter (f := 137) (args := #[.int .i64 mem]) ?_ (H0 w) ?_
    · rw [exec_call1 y.eval (fun args w => by simp [go_sem]) rfl ho, f8]
    · rintro e w' ⟨rfl, hm⟩
      exact ⟨_, rfl, hK _ _ hm (q _ _ _ rfl) (hinv.trans hm (fun _ _ h => h) (fun _ _ h => h))⟩
  have s3 : S2 ops PP w0 a0 Q 3 := by
    refine E3.stepW fun o hd ho hg hw y w listed hsz hls hun hwt hdown D' R hinv K hK => ?_
    rw [ha0] at hsz
    refine .inl ⟨wanted_none hg, ?_⟩
    have f9 : y.eval (Operand.tmp 9) = .int .i64 ec := r _ _ _ (E2.postW D' (hw 2 (by simp)))
    exact wp_value (ox_eql0 ho (fun _ => rfl) f9 hec) (hK _ _ (Mod.refl _ _) (q _ _ _ rfl) hinv)
  have s4 : S2 ops PP w0 a0 Q 4 := by
    refine E4.stepW fun o hd ho hg hw y w listed hsz hls hun hwt hdown D' R hinv K hK => ?_
    rw [ha0] at hsz
    refine .inl ⟨wanted_none hg, ?_⟩
    have f10 : y.eval (Operand.tmp 10) = .bool false := r _ _ _ (E3.postW D' (hw 3 (by simp)))
    exact wp_value (ox_move ho f10) (hK _ _ (Mod.refl _ _) (q _ _ _ rfl) hinv)
  have s5 : S2 ops PP w0 a0 Q 5 := by
    refine E5.stepW fun o hd ho hg hw y w listed hsz hls hun hwt hdown D' R hinv K hK => ?_
    rw [ha0] at hsz
    exact .inr ⟨wanted_no E4 hg (by rw [hsz]; decide) (r _ _ _ (E4.postW D' (hw 4 (by simp)))), hK _ _ (Mod.refl _ _) (q _ _ _ rfl) hinv⟩
  have s6 : S2 ops PP w0 a0 Q 6 := by
    refine E6.stepW fun o hd ho hg hw y w listed hsz hls hun hwt hdown D' R hinv K hK => ?_
    rw [ha0] at hsz
    exact .inr ⟨wanted_no E4 hg (by rw [hsz]; decide) (r _ _ _ (E4.postW D' (hw 4 (by simp)))), hK _ _ (Mod.refl _ _) (q _ _ _ rfl) hinv⟩
  have s7 : S2 ops PP w0 a0 Q 7 := by
    refine E7.stepW fun o hd ho hg hw y w listed hsz hls hun hwt hdown D' R hinv K hK => ?_
    rw [ha0] at hsz
    refine .inl ⟨wanted_none hg, ?_⟩
    have f11 : y.eval (Operand.tmp 11) = .bool false := r _ _ _ (E4.postW D' (hw 4 (by simp)))
    have f13 : y.eval (Operand.tmp 13) = undef := r _ _ _ (E6.postW D' (hw 6 (by simp)))
    exact wp_value (ox_pick ho f11 rfl) (hK _ _ (Mod.refl _ _) (q _ _ _ rfl) hinv)
  have s8 : S2 ops PP w0 a0 Q 8 := by
    refine E8.stepW fun o hd ho hg hw y w listed hsz hls hun hwt hdown D' R hinv K hK => ?_
    rw [ha0] at hsz
    refine .inl ⟨wanted_none hg, ?_⟩
    have f14 : y.eval (Operand.tmp 14) = .bool false := r _ _ _ (E7.postW D' (hw 7 (by simp)))
    exact wp_value (ox_move ho f14) (hK _ _ (Mod.refl _ _) (q _ _ _ rfl) hinv)
  have s9 : S2 ops PP w0 a0 Q 9 := by
    refine E9.stepW fun o hd ho hg hw y w listed hsz hls hun hwt hdown D' R hinv K hK => ?_
    rw [ha0] at hsz
    exact .inr ⟨wanted_no E8 hg (by rw [hsz]; decide) (r _ _ _ (E8.postW D' (hw 8 (by simp)))), hK _ _ (Mod.refl _ _) (q _ _ _ rfl) hinv⟩
  have s10 : S2 ops PP w0 a0 Q 10 := by
    refine E10.stepW fun o hd ho hg hw y w listed hsz hls hun hwt hdown D' R hinv K hK => ?_
    rw [ha0] at hsz
    exact .inr ⟨wanted_no E8 hg (by rw [hsz]; decide) (r _ _ _ (E8.postW D' (hw 8 (by simp)))), hK _ _ (Mod.refl _ _) (q _ _ _ rfl) hinv⟩
  have s11 : S2 ops PP w0 a0 Q 11 := by
    refine E11.stepW fun o hd ho hg hw y w listed hsz hls hun hwt hdown D' R hinv K hK => ?_
    rw [ha0] at hsz
    exact .inr ⟨wanted_no E8 hg (by rw [hsz]; decide) (r _ _ _ (E8.postW D' (hw 8 (by simp)))), hK _ _ (Mod.refl _ _) (q _ _ _ rfl) hinv⟩
  have s12 : S2 ops PP w0 a0 Q 12 := by
    refine E12.stepW fun o hd ho hg hw y w listed hsz hls hun hwt hdown D' R hinv K hK => ?_
    rw [ha0] at hsz
    refine .inl ⟨wanted_none hg, ?_⟩
    have f15 : y.eval (Operand.tmp 15) = .bool false := r _ _ _ (E8.postW D' (hw 8 (by simp)))
    have f18 : y.eval (Operand.tmp 18) = undef := r _ _ _ (E11.postW D' (hw 11 (by simp)))
    exact wp_value (ox_pick ho f15 rfl) (hK _ _ (Mod.refl _ _) (q _ _ _ rfl) hinv)
  have s13 : S2 ops PP w0 a0 Q 13 := by
    refine E13.stepW fun o hd ho hg hw y w listed hsz hls hun hwt hdown D' R hinv K hK => ?_
    rw [ha0] at hsz
    refine .inl ⟨wanted_none hg, ?_⟩
    have f19 : y.eval (Operand.tmp 19) = .bool false := r _ _ _ (E12.postW D' (hw 12 (by simp)))
    exact wp_value (ox_move ho f19) (hK _ _ (Mod.refl _ _) (q _ _ _ rfl) hinv)
  have s14 : S2 ops PP w0 a0 Q 14 := by
    refine E14.stepW fun o hd ho hg hw y w listed hsz hls hun hwt hdown D' R hinv K hK => ?_
    rw [ha0] at hsz
    exact .inr ⟨wanted_no E13 hg (by rw [hsz]; decide) (r _ _ _ (E13.postW D' (hw 13 (by simp)))), hK _ _ (Mod.refl _ _) (q _ _ _ rfl) hinv⟩
  have s15 : S2 ops PP w0 a0 Q 15 := by
    refine E15.stepW fun o hd ho hg hw y w listed hsz hls hun hwt hdown D' R hinv K hK => ?_
    rw [ha0] at hsz
    exact .inr ⟨wanted_no E13 hg (by rw [hsz]; decide) (r _ _ _ (E13.postW D' (hw 13 (by simp)))), hK _ _ (Mod.refl _ _) (q _ _ _ rfl) hinv⟩
  have s16 : S2 ops PP w0 a0 Q 16 := by
    refine E16.stepW fun o hd ho hg hw y w listed hsz hls hun hwt hdown D' R hinv K hK => ?_
    rw [ha0] at hsz
    exact .inr ⟨wanted_no E13 hg (by rw [hsz]; decide) (r _ _ _ (E13.postW D' (hw 13 (by simp)))), hK _ _ (Mod.refl _ _) (q _ _ _ rfl) hinv⟩
  have s17 : S2 ops PP w0 a0 Q 17 := by
    refine E17.stepW fun o hd ho hg hw y w listed hsz hls hun hwt hdown D' R hinv K hK => ?_
    rw [ha0] at hsz
    exact .inr ⟨wanted_no E13 hg (by rw [hsz]; decide) (r _ _ _ (E13.postW D' (hw 13 (by simp)))), hK _ _ (Mod.refl _ _) (q _ _ _ rfl) hinv⟩
  have s18 : S2 ops PP w0 a0 Q 18 := by
    refine E18.stepW fun o hd ho hg hw y w listed hsz hls hun hwt hdown D' R hinv K hK => ?_
    rw [ha0] at hsz
    exact .inr ⟨wanted_no E13 hg (by rw [hsz]; decide) (r _ _ _ (E13.postW D' (hw 13 (by simp)))), hK _ _ (Mod.refl _ _) (q _ _ _ rfl) hinv⟩
  have s19 : S2 ops PP w0 a0 Q 19 := by
    refine E19.stepW fun o hd ho hg hw y w listed hsz hls hun hwt hdown D' R hinv K hK => ?_
    rw [ha0] at hsz
    exact .inr ⟨wanted_no E13 hg (by rw [hsz]; decide) (r _ _ _ (E13.postW D' (hw 13 (by simp)))), hK _ _ (Mod.refl _ _) (q _ _ _ rfl) hinv⟩
  have s20 : S2 ops PP w0 a0 Q 20 := by
    refine E20.stepW fun o hd ho hg hw y w listed hsz hls hun hwt hdown D' R hinv K hK => ?_
    rw [ha0] at hsz
    exact .inr ⟨wanted_no E13 hg (by rw [hsz]; decide) (r _ _ _ (E13.postW D' (hw 13 (by simp)))), hK _ _ (Mod.refl _ _) (q _ _ _ rfl) hinv⟩
  have s21 : S2 ops PP w0 a0 Q 21 := by
    refine E21.stepW fun o hd ho hg hw y w listed hsz hls hun hwt hdown D' R hinv K hK => ?_
    rw [ha0] at hsz
    refine .inl ⟨wanted_none hg, ?_⟩
    have f20 : y.eval (Operand.tmp 20) = .bool false := r _ _ _ (E13.postW D' (hw 13 (by simp)))
    have f27 : y.eval (Operand.tmp 27) = undef := r _ _ _ (E20.postW D' (hw 20 (by simp)))
    exact wp_value (ox_pick ho f20 rfl) (hK _ _ (Mod.refl _ _) (q _ _ _ rfl) hinv)
  have s22 : S2 ops PP w0 a0 Q 22 := by
    refine E22.stepW fun o hd ho hg hw y w listed hsz hls hun hwt hdown D' R hinv K hK => ?_
    rw [ha0] at hsz
    refine .inl ⟨wanted_none hg, ?_⟩
    have f28 : y.eval (Operand.tmp 28) = .bool false := r _ _ _ (E21.postW D' (hw 21 (by simp)))
    exact wp_value (ox_move ho f28) (hK _ _ (Mod.refl _ _) (q _ _ _ rfl) hinv)
  have s23 : S2 ops PP w0 a0 Q 23 := by
    refine E23.stepW fun o hd ho hg hw y w listed hsz hls hun hwt hdown D' R hinv K hK => ?_
    rw [ha0] at hsz
    exact .inr ⟨wanted_no E22 hg (by rw [hsz]; decide) (r _ _ _ (E22.postW D' (hw 22 (by simp)))), hK _ _ (Mod.refl _ _) (q _ _ _ rfl) hinv⟩
  have s24 : S2 ops PP w0 a0 Q 24 := by
    refine E24.stepW fun o hd ho hg hw y w listed hsz hls hun hwt hdown D' R hinv K hK => ?_
    rw [ha0] at hsz
    exact .inr ⟨wanted_no E22 hg (by rw [hsz]; decide) (r _ _ _ (E22.postW D' (hw 22 (by simp)))), hK _ _ (Mod.refl _ _) (q _ _ _ rfl) hinv⟩
  have s25 : S2 ops PP w0 a0 Q 25 := by
    refine E25.stepW fun o hd ho hg hw y w listed hsz hls hun hwt hdown D' R hinv K hK => ?_
    rw [ha0] at hsz
    exact .inr ⟨wanted_no E22 hg (by rw [hsz]; decide) (r _ _ _ (E22.postW D' (hw 22 (by simp)))), hK _ _ (Mod.refl _ _) (q _ _ _ rfl) hinv⟩
  have s26 : S2 ops PP w0 a0 Q 26 := by
    refine E26.stepW fun o hd ho hg hw y w listed hsz hls hun hwt hdown D' R hinv K hK => ?_
    rw [ha0] at hsz
    exact .inr ⟨wanted_no E22 hg (by rw [hsz]; decide) (r _ _ _ (E22.postW D' (hw 22 (by simp)))), hK _ _ (Mod.refl _ _) (q _ _ _ rfl) hinv⟩
  have s27 : S2 ops PP w0 a0 Q 27 := by
    refine E27.stepW fun o hd ho hg hw y w listed hsz hls hun hwt hdown D' R hinv K hK => ?_
    rw [ha0] at hsz
    exact .inr ⟨wanted_no E22 hg (by rw [hsz]; decide) (r _ _ _ (E22.postW D' (hw 22 (by simp)))), hK _ _ (Mod.refl _ _) (q _ _ _ rfl) hinv⟩
  have s28 : S2 ops PP w0 a0 Q 28 := by
    refine E28.stepW fun o hd ho hg hw y w listed hsz hls hun hwt hdown D' R hinv K hK => ?_
    rw [ha0] at hsz
    refine .inl ⟨wanted_none hg, ?_⟩
    have f29 : y.eval (Operand.tmp 29) = .bool false := r _ _ _ (E22.postW D' (hw 22 (by simp)))
    have f34 : y.eval (Operand.tmp 34) = undef := r _ _ _ (E27.postW D' (hw 27 (by simp)))
    exact wp_value (ox_pick ho f29 rfl) (hK _ _ (Mod.refl _ _) (q _ _ _ rfl) hinv)
  have s29 : S2 ops PP w0 a0 Q 29 := by
    refine E29.stepW fun o hd ho hg hw y w listed hsz hls hun hwt hdown D' R hinv K hK => ?_
    rw [ha0] at hsz
    refine .inl ⟨wanted_none hg, ?_⟩
    have f35 : y.eval (Operand.tmp 35) = .bool false := r _ _ _ (E28.postW D' (hw 28 (by simp)))
    exact wp_value (ox_move ho f35) (hK _ _ (Mod.refl _ _) (q _ _ _ rfl) hinv)
  have s30 : S2 ops PP w0 a0 Q 30 := by
    refine E30.stepW fun o hd ho hg hw y w listed hsz hls hun hwt hdown D' R hinv K hK => ?_
    rw [ha0] at hsz
    exact .inr ⟨wanted_no E29 hg (by rw [hsz]; decide) (r _ _ _ (E29.postW D' (hw 29 (by simp)))), hK _ _ (Mod.refl _ _) (q _ _ _ rfl) hinv⟩
  have s31 : S2 ops PP w0 a0 Q 31 := by
    refine E31.stepW fun o hd ho hg hw y w listed hsz hls hun hwt hdown D' R hinv K hK => ?_
    rw [ha0] at hsz
    exact .inr ⟨wanted_no E29 hg (by rw [hsz]; decide) (r _ _ _ (E29.postW D' (hw 29 (by simp)))), hK _ _ (Mod.refl _ _) (q _ _ _ rfl) hinv⟩
  have s32 : S2 ops PP w0 a0 Q 32 := by
    refine E32.stepW fun o hd ho hg hw y w listed hsz hls hun hwt hdown D' R hinv K hK => ?_
    rw [ha0] at hsz
    exact .inr ⟨wanted_no E29 hg (by rw [hsz]; decide) (r _ _ _ (E29.postW D' (hw 29 (by simp)))), hK _ _ (Mod.refl _ _) (q _ _ _ rfl) hinv⟩
  have s33 : S2 ops PP w0 a0 Q 33 := by
    refine E33.stepW fun o hd ho hg hw y w listed hsz hls hun hwt hdown D' R hinv K hK => ?_
    rw [ha0] at hsz
    exact .inr ⟨wanted_no E29 hg (by rw [hsz]; decide) (r _ _ _ (E29.postW D' (hw 29 (by simp)))), hK _ _ (Mod.refl _ _) (q _ _ _ rfl) hinv⟩
  have s34 : S2 ops PP w0 a0 Q 34 := by
    refine E34.stepW fun o hd ho hg hw y w listed hsz hls hun hwt hdown D' R hinv K hK => ?_
    rw [ha0] at hsz
    exact .inr ⟨wanted_no E29 hg (by rw [hsz]; decide) (r _ _ _ (E29.postW D' (hw 29 (by simp)))), hK _ _ (Mod.refl _ _) (q _ _ _ rfl) hinv⟩
  have s35 : S2 ops PP w0 a0 Q 35 := by
    refine E35.stepW fun o hd ho hg hw y w listed hsz hls hun hwt hdown D' R hinv K hK => ?_
    rw [ha0] at hsz
    exact .inr ⟨wanted_no E29 hg (by rw [hsz]; decide) (r _ _ _ (E29.postW D' (hw 29 (by simp)))), hK _ _ (Mod.refl _ _) (q _ _ _ rfl) hinv⟩
  have s36 : S2 ops PP w0 a0 Q 36 := by
    refine E36.stepW fun o hd ho hg hw y w listed hsz hls hun hwt hdown D' R hinv K hK => ?_
    rw [ha0] at hsz
    exact .inr ⟨wanted_no E29 hg (by rw [hsz]; decide) (r _ _ _ (E29.postW D' (hw 29 (by simp)))), hK _ _ (Mod.refl _ _) (q _ _ _ rfl) hinv⟩
  have s37 : S2 ops PP w0 a0 Q 37 := by
    refine E37.stepW fun o hd ho hg hw y w listed hsz hls hun hwt hdown D' R hinv K hK => ?_
    rw [ha0] at hsz
    exact .inr ⟨wanted_no E29 hg (by rw [hsz]; decide) (r _ _ _ (E29.postW D' (hw 29 (by simp)))), hK _ _ (Mod.refl _ _) (q _ _ _ rfl) hinv⟩
  have s38 : S2 ops PP w0 a0 Q 38 := by
    refine E38.stepW fun o hd ho hg hw y w listed hsz hls hun hwt hdown D' R hinv K hK => ?_
    rw [ha0] at hsz
    refine .inl ⟨wanted_none hg, ?_⟩
    have f36 : y.eval (Operand.tmp 36) = .bool false := r _ _ _ (E29.postW D' (hw 29 (by simp)))
    have f44 : y.eval (Operand.tmp 44) = undef := r _ _ _ (E37.postW D' (hw 37 (by simp)))
    exact wp_value (ox_pick ho f36 rfl) (hK _ _ (Mod.refl _ _) (q _ _ _ rfl) hinv)
  have s39 : S2 ops PP w0 a0 Q 39 := by
    refine E39.stepW fun o hd ho hg hw y w listed hsz hls hun hwt hdown D' R hinv K hK => ?_
    rw [ha0] at hsz
    refine .inl ⟨wanted_none hg, ?_⟩
    have f45 : y.eval (Operand.tmp 45) = .bool false := r _ _ _ (E38.postW D' (hw 38 (by simp)))
    exact wp_value (ox_move ho f45) (hK _ _ (Mod.refl _ _) (q _ _ _ rfl) hinv)
  have s40 : S2 ops PP w0 a0 Q 40 := by
    refine E40.stepW fun o hd ho hg hw y w listed hsz hls hun hwt hdown D' R hinv K hK => ?_
    rw [ha0] at hsz
    exact .inr ⟨wanted_no E39 hg (by rw [hsz]; decide) (r _ _ _ (E39.postW D' (hw 39 (by simp)))), hK _ _ (Mod.refl _ _) (q _ _ _ rfl) hinv⟩
  have s41 : S2 ops PP w0 a0 Q 41 := by
    refine E41.stepW fun o hd ho hg hw y w listed hsz hls hun hwt hdown D' R hinv K hK => ?_
    rw [ha0] at hsz
    exact .inr ⟨wanted_no E39 hg (by rw [hsz]; decide) (r _ _ _ (E39.postW D' (hw 39 (by simp)))), hK _ _ (Mod.refl _ _) (q _ _ _ rfl) hinv⟩
  have s42 : S2 ops PP w0 a0 Q 42 := by
    refine E42.stepW fun o hd ho hg hw y w listed hsz hls hun hwt hdown D' R hinv K hK => ?_
    rw [ha0] at hsz
    exact .inr ⟨wanted_no E39 hg (by rw [hsz]; decide) (r _ _ _ (E39.postW D' (hw 39 (by simp)))), hK _ _ (Mod.refl _ _) (q _ _ _ rfl) hinv⟩
  have s43 : S2 ops PP w0 a0 Q 43 := by
    refine E43.stepW fun o hd ho hg hw y w listed hsz hls hun hwt hdown D' R hinv K hK => ?_
    rw [ha0] at hsz
    exact .inr ⟨wanted_no E39 hg (by rw [hsz]; decide) (r _ _ _ (E39.postW D' (hw 39 (by simp)))), hK _ _ (Mod.refl _ _) (q _ _ _ rfl) hinv⟩
  have s44 : S2 ops PP w0 a0 Q 44 := by
    refine E44.stepW fun o hd ho hg hw y w listed hsz hls hun hwt hdown D' R hinv K hK => ?_
    rw [ha0] at hsz
    exact .inr ⟨wanted_no E39 hg (by rw [hsz]; decide) (r _ _ _ (E39.postW D' (hw 39 (by simp)))), hK _ _ (Mod.refl _ _) (q _ _ _ rfl) hinv⟩
  have s45 : S2 ops PP w0 a0 Q 45 := by
    refine E45.stepW fun o hd ho hg hw y w listed hsz hls hun hwt hdown D' R hinv K hK => ?_
    rw [ha0] at hsz
    exact .inr ⟨wanted_no E39 hg (by rw [hsz]; decide) (r _ _ _ (E39.postW D' (hw 39 (by simp)))), hK _ _ (Mod.refl _ _) (q _ _ _ rfl) hinv⟩
  have s46 : S2 ops PP w0 a0 Q 46 := by
    refine E46.stepW fun o hd ho hg hw y w listed hsz hls hun hwt hdown D' R hinv K hK => ?_
    rw [ha0] at hsz
    refine .inl ⟨wanted_none hg, ?_⟩
    have f46 : y.eval (Operand.tmp 46) = .bool false := r _ _ _ (E39.postW D' (hw 39 (by simp)))
    have f52 : y.eval (Operand.tmp 52) = undef := r _ _ _ (E45.postW D' (hw 45 (by simp)))
    exact wp_value (ox_pick ho f46 rfl) (hK _ _ (Mod.refl _ _) (q _ _ _ rfl) hinv)
  have s47 : S2 ops PP w0 a0 Q 47 := by
    refine E47.stepW fun o hd ho hg hw y w listed hsz hls hun hwt hdown D' R hinv K hK => ?_
    rw [ha0] at hsz
    refine .inl ⟨wanted_none hg, ?_⟩
    have f53 : y.eval (Operand.tmp 53) = .bool false := r _ _ _ (E46.postW D' (hw 46 (by simp)))
    exact wp_value (ox_assign ho f53) (hK _ _ (Mod.refl _ _) (q _ _ _ rfl) hinv)
  have stab : ∀ i v w w', Mod (fun _ => False) w w' → PP i v w → PP i v w' := fun _ _ _ _ _ h => q _ _ _ (r _ _ _ h)
  refine region_freeW (Post := PP) (Inv := M0 w0) hmx (low_of hlow) (fun i o ho => by rw [ha0]; exact dst_of (by rw [hds]; decide) i o ho) (inj_of hnd) (Mod.refl _ _) stab ?_ ?_
  · intro i o ho
    have hi : i < 48 := by
      rw [← hN]
      rcases Nat.lt_or_ge i ops.size with h | h
      · exact h
      · rw [Array.getElem?_eq_none h] at ho; cases ho
    clear hend
    match i, hi with
    | 0, _ => exact s0 o ho
    | 1, _ => exact s1 o ho
    | 2, _ => exact s2 o ho
    | 3, _ => exact s3 o ho
    | 4, _ => exact s4 o ho
    | 5, _ => exact s5 o ho
    | 6, _ => exact s6 o ho
    | 7, _ => exact s7 o ho
    | 8, _ => exact s8 o ho
    | 9, _ => exact s9 o ho
    | 10, _ => exact s10 o ho
    | 11, _ => exact s11 o ho
    | 12, _ => exact s12 o ho
    | 13, _ => exact s13 o ho
    | 14, _ => exact s14 o ho
    | 15, _ => exact s15 o ho
    | 16, _ => exact s16 o ho
    | 17, _ => exact s17 o ho
    | 18, _ => exact s18 o ho
    | 19, _ => exact s19 o ho
    | 20, _ => exact s20 o ho
    | 21, _ => exact s21 o ho
    | 22, _ => exact s22 o ho
    | 23, _ => exact s23 o ho
    | 24, _ => exact s24 o ho
    | 25, _ => exact s25 o ho
    | 26, _ => exact s26 o ho
    | 27, _ => exact s27 o ho
    | 28, _ => exact s28 o ho
    | 29, _ => exact s29 o ho
    | 30, _ => exact s30 o ho
    | 31, _ => exact s31 o ho
    | 32, _ => exact s32 o ho
    | 33, _ => exact s33 o ho
    | 34, _ => exact s34 o ho
    | 35, _ => exact s35 o ho
    | 36, _ => exact s36 o ho
    | 37, _ => exact s37 o ho
    | 38, _ => exact s38 o ho
    | 39, _ => exact s39 o ho
    | 40, _ => exact s40 o ho
    | 41, _ => exact s41 o ho
    | 42, _ => exact s42 o ho
    | 43, _ => exact s43 o ho
    | 44, _ => exact s44 o ho
    | 45, _ => exact s45 o ho
    | 46, _ => exact s46 o ho
    | 47, _ => exact s47 o ho
    | i + 48, hi => omega
  · intro y w listed hsz hdf hls hall hinv hp hr
    have e : y = puts a0 [(7, .pointer (some ⟨g, 2, none⟩)), (8, .int .i64 mem), (9, .int .i64 ec), (10, .bool false), (11, .bool false), (12, undef), (13, undef), (14, .bool false), (15, .bool false), (16, undef), (17, undef), (18, undef), (19, .bool false), (20, .bool false), (21, undef), (22, undef), (23, undef), (24, undef), (25, undef), (26, undef), (27, undef), (28, .bool false), (29, .bool false), (30, undef), (31, undef), (32, undef), (33, undef), (34, undef), (35, .bool false), (36, .bool false), (37, undef), (38, undef), (39, undef), (40, undef), (41, undef), (42, undef), (43, undef), (44, undef), (45, .bool false), (46, .bool false), (47, undef), (48, undef), (49, undef), (50, undef), (51, undef), (52, undef), (53, .bool false), (2, .bool false)] := by
      refine eq_puts hsz hdf (nodup_of (D := [some 7, some 8, some 9, some 10, some 11, some 12, some 13, some 14, some 15, some 16, some 17, some 18, some 19, some 20, some 21, some 22, some 23, some 24, some 25, some 26, some 27, some 28, some 29, some 30, some 31, some 32, some 33, some 34, some 35, some 36, some 37, some 38, some 39, some 40, some 41, some 42, some 43, some 44, some 45, some 46, some 47, some 48, some 49, some 50, some 51, some 52, some 53, some 2]) rfl (by decide)) (by rw [ha0]; simp) ?_ ?_
      · intro q hq
        simp only [List.mem_cons, List.not_mem_nil, or_false] at hq
        rcases hq with rfl | rfl | rfl | rfl | rfl | rfl | rfl | rfl | rfl | rfl | rfl | rfl | rfl | rfl | rfl | rfl | rfl | rfl | rfl | rfl | rfl | rfl | rfl | rfl | rfl | rfl | rfl | rfl | rfl | rfl | rfl | rfl | rfl | rfl | rfl | rfl | rfl | rfl | rfl | rfl | rfl | rfl | rfl | rfl | rfl | rfl | rfl | rfl
        · obtain ⟨o, h1, h2, _⟩ := E0.ex; exact r _ _ _ (hp 0 o _ h1 h2)
        · obtain ⟨o, h1, h2, _⟩ := E1.ex; exact r _ _ _ (hp 1 o _ h1 h2)
        · obtain ⟨o, h1, h2, _⟩ := E2.ex; exact r _ _ _ (hp 2 o _ h1 h2)
        · obtain ⟨o, h1, h2, _⟩ := E3.ex; exact r _ _ _ (hp 3 o _ h1 h2)
        · obtain ⟨o, h1, h2, _⟩ := E4.ex; exact r _ _ _ (hp 4 o _ h1 h2)
        · obtain ⟨o, h1, h2, _⟩ := E5.ex; exact r _ _ _ (hp 5 o _ h1 h2)
        · obtain ⟨o, h1, h2, _⟩ := E6.ex; exact r _ _ _ (hp 6 o _ h1 h2)
        · obtain ⟨o, h1, h2, _⟩ := E7.ex; exact r _ _ _ (hp 7 o _ h1 h2)
        · obtain ⟨o, h1, h2, _⟩ := E8.ex; exact r _ _ _ (hp 8 o _ h1 h2)
        · obtain ⟨o, h1, h2, _⟩ := E9.ex; exact r _ _ _ (hp 9 o _ h1 h2)
        · obtain ⟨o, h1, h2, _⟩ := E10.ex; exact r _ _ _ (hp 10 o _ h1 h2)
        · obtain ⟨o, h1, h2, _⟩ := E11.ex; exact r _ _ _ (hp 11 o _ h1 h2)
        · obtain ⟨o, h1, h2, _⟩ := E12.ex; exact r _ _ _ (hp 12 o _ h1 h2)
        · obtain ⟨o, h1, h2, _⟩ := E13.ex; exact r _ _ _ (hp 13 o _ h1 h2)
        · obtain ⟨o, h1, h2, _⟩ := E14.ex; exact r _ _ _ (hp 14 o _ h1 h2)
        · obtain ⟨o, h1, h2, _⟩ := E15.ex; exact r _ _ _ (hp 15 o _ h1 h2)
        · obtain ⟨o, h1, h2, _⟩ := E16.ex; exact r _ _ _ (hp 16 o _ h1 h2)
        · obtain ⟨o, h1, h2, _⟩ := E17.ex; exact r _ _ _ (hp 17 o _ h1 h2)
        · obtain ⟨o, h1, h2, _⟩ := E18.ex; exact r _ _ _ (hp 18 o _ h1 h2)
        · obtain ⟨o, h1, h2, _⟩ := E19.ex; exact r _ _ _ (hp 19 o _ h1 h2)
        · obtain ⟨o, h1, h2, _⟩ := E20.ex; exact r _ _ _ (hp 20 o _ h1 h2)
        · obtain ⟨o, h1, h2, _⟩ := E21.ex; exact r _ _ _ (hp 21 o _ h1 h2)
        · obtain ⟨o, h1, h2, _⟩ := E22.ex; exact r _ _ _ (hp 22 o _ h1 h2)
        · obtain ⟨o, h1, h2, _⟩ := E23.ex; exact r _ _ _ (hp 23 o _ h1 h2)
        · obtain ⟨o, h1, h2, _⟩ := E24.ex; exact r _ _ _ (hp 24 o _ h1 h2)
        · obtain ⟨o, h1, h2, _⟩ := E25.ex; exact r _ _ _ (hp 25 o _ h1 h2)
        · obtain ⟨o, h1, h2, _⟩ := E26.ex; exact r _ _ _ (hp 26 o _ h1 h2)
        · obtain ⟨o, h1, h2, _⟩ := E27.ex; exact r _ _ _ (hp 27 o _ h1 h2)
        · obtain ⟨o, h1, h2, _⟩ := E28.ex; exact r _ _ _ (hp 28 o _ h1 h2)
        · obtain ⟨o, h1, h2, _⟩ := E29.ex; exact r _ _ _ (hp 29 o _ h1 h2)
        · obtain ⟨o, h1, h2, _⟩ := E30.ex; exact r _ _ _ (hp 30 o _ h1 h2)
        · obtain ⟨o, h1, h2, _⟩ := E31.ex; exact r _ _ _ (hp 31 o _ h1 h2)
        · obtain ⟨o, h1, h2, _⟩ := E32.ex; exact r _ _ _ (hp 32 o _ h1 h2)
        · obtain ⟨o, h1, h2, _⟩ := E33.ex; exact r _ _ _ (hp 33 o _ h1 h2)
        · obtain ⟨o, h1, h2, _⟩ := E34.ex; exact r _ _ _ (hp 34 o _ h1 h2)
        · obtain ⟨o, h1, h2, _⟩ := E35.ex; exact r _ _ _ (hp 35 o _ h1 h2)
        · obtain ⟨o, h1, h2, _⟩ := E36.ex; exact r _ _ _ (hp 36 o _ h1 h2)
        · obtain ⟨o, h1, h2, _⟩ := E37.ex; exact r _ _ _ (hp 37 o _ h1 h2)
        · obtain ⟨o, h1, h2, _⟩ := E38.ex; exact r _ _ _ (hp 38 o _ h1 h2)
        · obtain ⟨o, h1, h2, _⟩ := E39.ex; exact r _ _ _ (hp 39 o _ h1 h2)
        · obtain ⟨o, h1, h2, _⟩ := E40.ex; exact r _ _ _ (hp 40 o _ h1 h2)
        · obtain ⟨o, h1, h2, _⟩ := E41.ex; exact r _ _ _ (hp 41 o _ h1 h2)
        · obtain ⟨o, h1, h2, _⟩ := E42.ex; exact r _ _ _ (hp 42 o _ h1 h2)
        · obtain ⟨o, h1, h2, _⟩ := E43.ex; exact r _ _ _ (hp 43 o _ h1 h2)
        · obtain ⟨o, h1, h2, _⟩ := E44.ex; exact r _ _ _ (hp 44 o _ h1 h2)
        · obtain ⟨o, h1, h2, _⟩ := E45.ex; exact r _ _ _ (hp 45 o _ h1 h2)
        · obtain ⟨o, h1, h2, _⟩ := E46.ex; exact r _ _ _ (hp 46 o _ h1 h2)
        · obtain ⟨o, h1, h2, _⟩ := E47.ex; exact r _ _ _ (hp 47 o _ h1 h2)
      · intro t ht
        refine hr t (not_of ?_)
        rw [hds]
        simp only [List.mem_cons, List.not_mem_nil, or_false, forall_eq_or_imp, forall_eq] at ht
        simp only [List.contains_cons, List.contains_nil, Bool.or_eq_false_iff, beq_eq_false_iff_ne, ne_eq, Option.some.injEq, Bool.or_false]
        simp only [eq_comm (a := t)]
        simp [ht]
    rw [e]
    exact hend w hinv
def v21 (g N _EL _ccap : Nat) (_cao : Option Addr) (_ec mem _rs _rr _hop _ls0 _mn : Int) : Nat → Value
  | 0 => .pointer (some ⟨g, 2, none⟩)
  | 1 => .int .i64 mem
  | 2 => .int .i64 0
  | 3 => .bool true
  | 4 => .bool true
  | 5 => .int .i64 (N : Int)
  | 6 => .bool false
  | 7 => .bool false
  | 8 => .bool false
  | 12 => .bool false
  | 13 => .bool false
  | 21 => .bool false
  | 22 => .bool false
  | 28 => .bool false
  | 29 => .bool false
  | 38 => .bool false
  | 39 => .bool false
  | 46 => .bool false
  | 47 => .bool false
  | _ => undef
set_option maxRecDepth 100000 in
set_option maxHeartbeats 4000000 in
theorem region21 {ops : Array Oper} {id : Nat} {a0 : Act} {w0 : World} {Q : Exit → Act → World → Prop} (g N EL ccap : Nat) (cao : Option Addr) (ec mem rs rr hop ls0 mn : Int)
    (EE : Ops20 ops)
    (hN : ops.size = 48) (hlow : lowB ops = true) (hds : dsts ops = [some 7, some 8, some 9, some 10, some 11, some 12, some 13, some 14, some 15, some 16, some 17, some 18, some 19, some 20, some 21, some 22, some 23, some 24, some 25, some 26, some 27, some 28, some 29, some 30, some 31, some 32, some 33, some 34, some 35, some 36, some 37, some 38, some 39, some 40, some 41, some 42, some 43, some 44, some 45, some 46, some 47, some 48, some 49, some 50, some 51, some 52, some 53, some 2]) (hnd : injB ops = true)
    (hmx : Try.prog.follows .mixedOrders = true) (ha0 : a0.tmps.size = 54) (h1 : a0.tmps.getD 1 undef = .pointer (some ⟨g, 0, none⟩)) (h3 : a0.tmps.getD 3 undef = .int .i64 (N : Int))
    (_d0 : w0.cell? ⟨g, 0, none⟩ = some (.int .i64 rs)) (_d1 : w0.cell? ⟨g, 1, none⟩ = some (.int .i64 rr)) (d2 : w0.cell? ⟨g, 2, none⟩ = some (.int .i64 mem)) (_d3 : w0.cell? ⟨g, 3, none⟩ = some (.int .i64 hop)) (_d4 : w0.cell? ⟨g, 4, none⟩ = some (.slice cao EL ccap))
    (H0 : ∀ W, Calls Try.prog 137 #[.int .i64 mem] W fun e w' => e = .returned (.int .i64 0) ∧ Mod (fun _ => False) W w')
    (hN0 : decide (0 < (N : Int)) = false)
    (hend : ∀ w, Mod (fun _ => False) w0.drew w → Q .normal (puts a0 [(7, .pointer (some ⟨g, 2, none⟩)), (8, .int .i64 mem), (9, .int .i64 0), (10, .bool true), (11, .bool true), (12, .int .i64 (N : Int)), (13, .bool false), (14, .bool false), (15, .bool false), (16, undef), (17, undef), (18, undef), (19, .bool false), (20, .bool false), (21, undef), (22, undef), (23, undef), (24, undef), (25, undef), (26, undef), (27, undef), (28, .bool false), (29, .bool false), (30, undef), (31, undef), (32, undef), (33, undef), (34, undef), (35, .bool false), (36, .bool false), (37, undef), (38, undef), (39, undef), (40, undef), (41, undef), (42, undef), (43, undef), (44, undef), (45, .bool false), (46, .bool false), (47, undef), (48, undef), (49, undef), (50, undef), (51, undef), (52, undef), (53, .bool false), (2, .bool false)]) w) :
    (Code.region id ops true).wp Try.prog Q a0 w0 := by
  obtain ⟨E0, E1, E2, E3, E4, E5, E6, E7, E8, E9, E10, E11, E12, E13, E14, E15, E16, E17, E18, E19, E20, E21, E22, E23, E24, E25, E26, E27, E28, E29, E30, E31, E32, E33, E34, E35, E36, E37, E38, E39, E40, E41, E42, E43, E44, E45, E46, E47⟩ := EE
  obtain ⟨PP, q, r⟩ : ∃ PP : Nat → Value → World → Prop, (∀ i v w, (fun i' v _ => v = v21 g N EL ccap cao ec mem rs rr hop ls0 mn i') i v w → PP i v w) ∧ (∀ i v w, PP i v w → (fun i' v _ => v = v21 g N EL ccap cao ec mem rs rr hop ls0 mn i') i v w) := ⟨(fun i' v _ => v = v21 g N EL ccap cao ec mem rs rr hop ls0 mn i'), fun _ _ _ h => h, fun _ _ _ h => h⟩
  have D : ∀ {W : World} {a : Addr} {v : Value}, Mod (fun _ => False) w0.drew W → w0.cell? a = some v → W.cell? a = some v := fun hW hc => hW.cell (by simpa using hc) (fun h => h)
  have s0 : S2 ops PP w0 a0 Q 0 := by
    refine E0.stepW fun o hd ho hg hw y w listed hsz hls hun hwt hdown D' R hinv K hK => ?_
    rw [ha0] at hsz
    refine .inl ⟨wanted_none hg, ?_⟩
    have f1 : y.eval (Operand.tmp 1) = .pointer (some ⟨g, 0, none⟩) := (R 1 (not_of (by rw [hds]; decide))).trans h1
    exact wp_value (ox_field ho f1 (flc1 w)) (hK _ _ (Mod.refl _ _) (q _ _ _ rfl) hinv)
  have s1 : S2 ops PP w0 a0 Q 1 := by
    refine E1.stepW fun o hd ho hg hw y w listed hsz hls hun hwt hdown D' R hinv K hK => ?_
    rw [ha0] at hsz
    refine .inl ⟨wanted_none hg, ?_⟩
    have f7 : y.eval (Operand.tmp 7) = .pointer (some ⟨g, 2, none⟩) := r _ _ _ (E0.postW D' (hw 0 (by simp)))
    exact wp_value (ox_load ho f7 (ld1 (D hinv d2))) (hK _ _ (Mod.refl _ _) (q _ _ _ rfl) hinv)
  have s2 : S2 ops PP w0 a0 Q 2 := by
    refine E2.stepW fun o hd ho hg hw y w listed hsz hls hun hwt hdown D' R hinv K hK => ?_
    rw [ha0] at hsz
    refine .inl ⟨wanted_none hg, ?_⟩
    have f8 : y.eval (Operand.tmp 8) = .int .i64 mem := r _ _ _ (E1.postW D' (hw 1 (by simp)))
    refine wp_enter (f := 137) (args := #[.int .i64 mem]) ?_ (H0 w) ?_
    · rw [exec_call1 y.eval (fun args w => by simp [go_sem]) rfl ho, f8]
    · rintro e w' ⟨rfl, hm⟩
      exact ⟨_, rfl, hK _ _ hm (q _ _ _ rfl) (hinv.trans hm (fun _ _ h => h) (fun _ _ h => h))⟩
  have s3 : S2 ops PP w0 a0 Q 3 := by
    refine E3.stepW fun o hd ho hg hw y w listed hsz hls hun hwt hdown D' R hinv K hK => ?_
    rw [ha0] at hsz
    refine .inl ⟨wanted_none hg, ?_⟩
    have f9 : y.eval (Operand.tmp 9) = .int .i64 0 := r _ _ _ (E2.postW D' (hw 2 (by simp)))
    exact wp_value (ox_eql0 ho (fun _ => rfl) f9 rfl) (hK _ _ (Mod.refl _ _) (q _ _ _ rfl) hinv)
  have s4 : S2 ops PP w0 a0 Q 4 := by
    refine E4.stepW fun o hd ho hg hw y w listed hsz hls hun hwt hdown D' R hinv K hK => ?_
    rw [ha0] at hsz
    refine .inl ⟨wanted_none hg, ?_⟩
    have f10 : y.eval (Operand.tmp 10) = .bool true := r _ _ _ (E3.postW D' (hw 3 (by simp)))
    exact wp_value (ox_move ho f10) (hK _ _ (Mod.refl _ _) (q _ _ _ rfl) hinv)
  have s5 : S2 ops PP w0 a0 Q 5 := by
    refine E5.stepW fun o hd ho hg hw y w listed hsz hls hun hwt hdown D' R hinv K hK => ?_
    rw [ha0] at hsz
    refine .inl ⟨wanted_yes E4 hg (by rw [hsz]; decide) (r _ _ _ (E4.postW D' (hw 4 (by simp)))), ?_⟩
    have f3 : y.eval (Operand.tmp 3) = .int .i64 (N : Int) := (R 3 (not_of (by rw [hds]; decide))).trans h3
    exact wp_value (ox_move ho f3) (hK _ _ (Mod.refl _ _) (q _ _ _ rfl) hinv)
  have s6 : S2 ops PP w0 a0 Q 6 := by
    refine E6.stepW fun o hd ho hg hw y w listed hsz hls hun hwt hdown D' R hinv K hK => ?_
    rw [ha0] at hsz
    refine .inl ⟨wanted_yes E4 hg (by rw [hsz]; decide) (r _ _ _ (E4.postW D' (hw 4 (by simp)))), ?_⟩
    have f12 : y.eval (Operand.tmp 12) = .int .i64 (N : Int) := r _ _ _ (E5.postW D' (hw 5 (by simp)))
    exact wp_value (ox_gtr0 ho (fun _ => rfl) f12 hN0) (hK _ _ (Mod.refl _ _) (q _ _ _ rfl) hinv)
  have s7 : S2 ops PP w0 a0 Q 7 := by
    refine E7.stepW fun o hd ho hg hw y w listed hsz hls hun hwt hdown D' R hinv K hK => ?_
    rw [ha0] at hsz
    refine .inl ⟨wanted_none hg, ?_⟩
    have f11 : y.eval (Operand.tmp 11) = .bool true := r _ _ _ (E4.postW D' (hw 4 (by simp)))
    have f13 : y.eval (Operand.tmp 13) = .bool false := r _ _ _ (E6.postW D' (hw 6 (by simp)))
    exact wp_value (ox_pick ho f11 f13) (hK _ _ (Mod.refl _ _) (q _ _ _ rfl) hinv)
  have s8 : S2 ops PP w0 a0 Q 8 := by
    refine E8.stepW fun o hd ho hg hw y w listed hsz hls hun hwt hdown D' R hinv K hK => ?_
    rw [ha0] at hsz
    refine .inl ⟨wanted_none hg, ?_⟩
    have f14 : y.eval (Operand.tmp 14) = .bool false := r _ _ _ (E7.postW D' (hw 7 (by simp)))
    exact wp_value (ox_move ho f14) (hK _ _ (Mod.refl _ _) (q _ _ _ rfl) hinv)
  have s9 : S2 ops PP w0 a0 Q 9 := by
    refine E9.stepW fun o hd ho hg hw y w listed hsz hls hun hwt hdown D' R hinv K hK => ?_
    rw [ha0] at hsz
    exact .inr ⟨wanted_no E8 hg (by rw [hsz]; decide) (r _ _ _ (E8.postW D' (hw 8 (by simp)))), hK _ _ (Mod.refl _ _) (q _ _ _ rfl) hinv⟩
  have s10 : S2 ops PP w0 a0 Q 10 := by
    refine E10.stepW fun o hd ho hg hw y w listed hsz hls hun hwt hdown D' R hinv K hK => ?_
    rw [ha0] at hsz
    exact .inr ⟨wanted_no E8 hg (by rw [hsz]; decide) (r _ _ _ (E8.postW D' (hw 8 (by simp)))), hK _ _ (Mod.refl _ _) (q _ _ _ rfl) hinv⟩
  have s11 : S2 ops PP w0 a0 Q 11 := by
    refine E11.stepW fun o hd ho hg hw y w listed hsz hls hun hwt hdown D' R hinv K hK => ?_
    rw [ha0] at hsz
    exact .inr ⟨wanted_no E8 hg (by rw [hsz]; decide) (r _ _ _ (E8.postW D' (hw 8 (by simp)))), hK _ _ (Mod.refl _ _) (q _ _ _ rfl) hinv⟩
  have s12 : S2 ops PP w0 a0 Q 12 := by
    refine E12.stepW fun o hd ho hg hw y w listed hsz hls hun hwt hdown D' R hinv K hK => ?_
    rw [ha0] at hsz
    refine .inl ⟨wanted_none hg, ?_⟩
    have f15 : y.eval (Operand.tmp 15) = .bool false := r _ _ _ (E8.postW D' (hw 8 (by simp)))
    have f18 : y.eval (Operand.tmp 18) = undef := r _ _ _ (E11.postW D' (hw 11 (by simp)))
    exact wp_value (ox_pick ho f15 rfl) (hK _ _ (Mod.refl _ _) (q _ _ _ rfl) hinv)
  have s13 : S2 ops PP w0 a0 Q 13 := by
    refine E13.stepW fun o hd ho hg hw y w listed hsz hls hun hwt hdown D' R hinv K hK => ?_
    rw [ha0] at hsz
    refine .inl ⟨wanted_none hg, ?_⟩
    have f19 : y.eval (Operand.tmp 19) = .bool false := r _ _ _ (E12.postW D' (hw 12 (by simp)))
    exact wp_value (ox_move ho f19) (hK _ _ (Mod.refl _ _) (q _ _ _ rfl) hinv)
  have s14 : S2 ops PP w0 a0 Q 14 := by
    refine E14.stepW fun o hd ho hg hw y w listed hsz hls hun hwt hdown D' R hinv K hK => ?_
    rw [ha0] at hsz
    exact .inr ⟨wanted_no E13 hg (by rw [hsz]; decide) (r _ _ _ (E13.postW D' (hw 13 (by simp)))), hK _ _ (Mod.refl _ _) (q _ _ _ rfl) hinv⟩
  have s15 : S2 ops PP w0 a0 Q 15 := by
    refine E15.stepW fun o hd ho hg hw y w listed hsz hls hun hwt hdown D' R hinv K hK => ?_
    rw [ha0] at hsz
    exact .inr ⟨wanted_no E13 hg (by rw [hsz]; decide) (r _ _ _ (E13.postW D' (hw 13 (by simp)))), hK _ _ (Mod.refl _ _) (q _ _ _ rfl) hinv⟩
  have s16 : S2 ops PP w0 a0 Q 16 := by
    refine E16.stepW fun o hd ho hg hw y w listed hsz hls hun hwt hdown D' R hinv K hK => ?_
    rw [ha0] at hsz
    exact .inr ⟨wanted_no E13 hg (by rw [hsz]; decide) (r _ _ _ (E13.postW D' (hw 13 (by simp)))), hK _ _ (Mod.refl _ _) (q _ _ _ rfl) hinv⟩
  have s17 : S2 ops PP w0 a0 Q 17 := by
    refine E17.stepW fun o hd ho hg hw y w listed hsz hls hun hwt hdown D' R hinv K hK => ?_
    rw [ha0] at hsz
    exact .inr ⟨wanted_no E13 hg (by rw [hsz]; decide) (r _ _ _ (E13.postW D' (hw 13 (by simp)))), hK _ _ (Mod.refl _ _) (q _ _ _ rfl) hinv⟩
  have s18 : S2 ops PP w0 a0 Q 18 := by
    refine E18.stepW fun o hd ho hg hw y w listed hsz hls hun hwt hdown D' R hinv K hK => ?_
    rw [ha0] at hsz
    exact .inr ⟨wanted_no E13 hg (by rw [hsz]; decide) (r _ _ _ (E13.postW D' (hw 13 (by simp)))), hK _ _ (Mod.refl _ _) (q _ _ _ rfl) hinv⟩
  have s19 : S2 ops PP w0 a0 Q 19 := by
    refine E19.stepW fun o hd ho hg hw y w listed hsz hls hun hwt hdown D' R hinv K hK => ?_
    rw [ha0] at hsz
    exact .inr ⟨wanted_no E13 hg (by rw [hsz]; decide) (r _ _ _ (E13.postW D' (hw 13 (by simp)))), hK _ _ (Mod.refl _ _) (q _ _ _ rfl) hinv⟩
  have s20 : S2 ops PP w0 a0 Q 20 := by
    refine E20.stepW fun o hd ho hg hw y w listed hsz hls hun hwt hdown D' R hinv K hK => ?_
    rw [ha0] at hsz
    exact .inr ⟨wanted_no E13 hg (by rw [hsz]; decide) (r _ _ _ (E13.postW D' (hw 13 (by simp)))), hK _ _ (Mod.refl _ _) (q _ _ _ rfl) hinv⟩
  have s21 : S2 ops PP w0 a0 Q 21 := by
    refine E21.stepW fun o hd ho hg hw y w listed hsz hls hun hwt hdown D' R hinv K hK => ?_
    rw [ha0] at hsz
    refine .inl ⟨wanted_none hg, ?_⟩
    have f20 : y.eval (Operand.tmp 20) = .bool false := r _ _ _ (E13.postW D' (hw 13 (by simp)))
    have f27 : y.eval (Operand.tmp 27) = undef := r _ _ _ (E20.postW D' (hw 20 (by simp)))
    exact wp_value (ox_pick ho f20 rfl) (hK _ _ (Mod.refl _ _) (q _ _ _ rfl) hinv)
  have s22 : S2 ops PP w0 a0 Q 22 := by
    refine E22.stepW fun o hd ho hg hw y w listed hsz hls hun hwt hdown D' R hinv K hK => ?_
    rw [ha0] at hsz
    refine .inl ⟨wanted_none hg, ?_⟩
    have f28 : y.eval (Operand.tmp 28) = .bool false := r _ _ _ (E21.postW D' (hw 21 (by simp)))
    exact wp_value (ox_move ho f28) (hK _ _ (Mod.refl _ _) (q _ _ _ rfl) hinv)
  have s23 : S2 ops PP w0 a0 Q 23 := by
    refine E23.stepW fun o hd ho hg hw y w listed hsz hls hun hwt hdown D' R hinv K hK => ?_
    rw [ha0] at hsz
    exact .inr ⟨wanted_no E22 hg (by rw [hsz]; decide) (r _ _ _ (E22.postW D' (hw 22 (by simp)))), hK _ _ (Mod.refl _ _) (q _ _ _ rfl) hinv⟩
  have s24 : S2 ops PP w0 a0 Q 24 := by
    refine E24.stepW fun o hd ho hg hw y w listed hsz hls hun hwt hdown D' R hinv K hK => ?_
    rw [ha0] at hsz
    exact .inr ⟨wanted_no E22 hg (by rw [hsz]; decide) (r _ _ _ (E22.postW D' (hw 22 (by simp)))), hK _ _ (Mod.refl _ _) (q _ _ _ rfl) hinv⟩
  have s25 : S2 ops PP w0 a0 Q 25 := by
    refine E25.stepW fun o hd ho hg hw y w listed hsz hls hun hwt hdown D' R hinv K hK => ?_
    rw [ha0] at hsz
    exact .inr ⟨wanted_no E22 hg (by rw [hsz]; decide) (r _ _ _ (E22.postW D' (hw 22 (by simp)))), hK _ _ (Mod.refl _ _) (q _ _ _ rfl) hinv⟩
  have s26 : S2 ops PP w0 a0 Q 26 := by
    refine E26.stepW fun o hd ho hg hw y w listed hsz hls hun hwt hdown D' R hinv K hK => ?_
    rw [ha0] at hsz
    exact .inr ⟨wanted_no E22 hg (by rw [hsz]; decide) (r _ _ _ (E22.postW D' (hw 22 (by simp)))), hK _ _ (Mod.refl _ _) (q _ _ _ rfl) hinv⟩
  have s27 : S2 ops PP w0 a0 Q 27 := by
    refine E27.stepW fun o hd ho hg hw y w listed hsz hls hun hwt hdown D' R hinv K hK => ?_
    rw [ha0] at hsz
    exact .inr ⟨wanted_no E22 hg (by rw [hsz]; decide) (r _ _ _ (E22.postW D' (hw 22 (by simp)))), hK _ _ (Mod.refl _ _) (q _ _ _ rfl) hinv⟩
  have s28 : S2 ops PP w0 a0 Q 28 := by
    refine E28.stepW fun o hd ho hg hw y w listed hsz hls hun hwt hdown D' R hinv K hK => ?_
    rw [ha0] at hsz
    refine .inl ⟨wanted_none hg, ?_⟩
    have f29 : y.eval (Operand.tmp 29) = .bool false := r _ _ _ (E22.postW D' (hw 22 (by simp)))
    have f34 : y.eval (Operand.tmp 34) = undef := r _ _ _ (E27.postW D' (hw 27 (by simp)))
    exact wp_value (ox_pick ho f29 rfl) (hK _ _ (Mod.refl _ _) (q _ _ _ rfl) hinv)
  have s29 : S2 ops PP w0 a0 Q 29 := by
    refine E29.stepW fun o hd ho hg hw y w listed hsz hls hun hwt hdown D' R hinv K hK => ?_
    rw [ha0] at hsz
    refine .inl ⟨wanted_none hg, ?_⟩
    have f35 : y.eval (Operand.tmp 35) = .bool false := r _ _ _ (E28.postW D' (hw 28 (by simp)))
    exact wp_value (ox_move ho f35) (hK _ _ (Mod.refl _ _) (q _ _ _ rfl) hinv)
  have s30 : S2 ops PP w0 a0 Q 30 := by
    refine E30.stepW fun o hd ho hg hw y w listed hsz hls hun hwt hdown D' R hinv K hK => ?_
    rw [ha0] at hsz
    exact .inr ⟨wanted_no E29 hg (by rw [hsz]; decide) (r _ _ _ (E29.postW D' (hw 29 (by simp)))), hK _ _ (Mod.refl _ _) (q _ _ _ rfl) hinv⟩
  have s31 : S2 ops PP w0 a0 Q 31 := by
    refine E31.stepW fun o hd ho hg hw y w listed hsz hls hun hwt hdown D' R hinv K hK => ?_
    rw [ha0] at hsz
    exact .inr ⟨wanted_no E29 hg (by rw [hsz]; decide) (r _ _ _ (E29.postW D' (hw 29 (by simp)))), hK _ _ (Mod.refl _ _) (q _ _ _ rfl) hinv⟩
  have s32 : S2 ops PP w0 a0 Q 32 := by
    refine E32.stepW fun o hd ho hg hw y w listed hsz hls hun hwt hdown D' R hinv K hK => ?_
    rw [ha0] at hsz
    exact .inr ⟨wanted_no E29 hg (by rw [hsz]; decide) (r _ _ _ (E29.postW D' (hw 29 (by simp)))), hK _ _ (Mod.refl _ _) (q _ _ _ rfl) hinv⟩
  have s33 : S2 ops PP w0 a0 Q 33 := by
    refine E33.stepW fun o hd ho hg hw y w listed hsz hls hun hwt hdown D' R hinv K hK => ?_
    rw [ha0] at hsz
    exact .inr ⟨wanted_no E29 hg (by rw [hsz]; decide) (r _ _ _ (E29.postW D' (hw 29 (by simp)))), hK _ _ (Mod.refl _ _) (q _ _ _ rfl) hinv⟩
  have s34 : S2 ops PP w0 a0 Q 34 := by
    refine E34.stepW fun o hd ho hg hw y w listed hsz hls hun hwt hdown D' R hinv K hK => ?_
    rw [ha0] at hsz
    exact .inr ⟨wanted_no E29 hg (by rw [hsz]; decide) (r _ _ _ (E29.postW D' (hw 29 (by simp)))), hK _ _ (Mod.refl _ _) (q _ _ _ rfl) hinv⟩
  have s35 : S2 ops PP w0 a0 Q 35 := by
    refine E35.stepW fun o hd ho hg hw y w listed hsz hls hun hwt hdown D' R hinv K hK => ?_
    rw [ha0] at hsz
    exact .inr ⟨wanted_no E29 hg (by rw [hsz]; decide) (r _ _ _ (E29.postW D' (hw 29 (by simp)))), hK _ _ (Mod.refl _ _) (q _ _ _ rfl) hinv⟩
  have s36 : S2 ops PP w0 a0 Q 36 := by
    refine E36.stepW fun o hd ho hg hw y w listed hsz hls hun hwt hdown D' R hinv K hK => ?_
    rw [ha0] at hsz
    exact .inr ⟨wanted_no E29 hg (by rw [hsz]; decide) (r _ _ _ (E29.postW D' (hw 29 (by simp)))), hK _ _ (Mod.refl _ _) (q _ _ _ rfl) hinv⟩
  have s37 : S2 ops PP w0 a0 Q 37 := by
    refine E37.stepW fun o hd ho hg hw y w listed hsz hls hun hwt hdown D' R hinv K hK => ?_
    rw [ha0] at hsz
    exact .inr ⟨wanted_no E29 hg (by rw [hsz]; decide) (r _ _ _ (E29.postW D' (hw 29 (by simp)))), hK _ _ (Mod.refl _ _) (q _ _ _ rfl) hinv⟩
  have s38 : S2 ops PP w0 a0 Q 38 := by
    refine E38.stepW fun o hd ho hg hw y w listed hsz hls hun hwt hdown D' R hinv K hK => ?_
    rw [ha0] at hsz
    refine .inl ⟨wanted_none hg, ?_⟩
    have f36 : y.eval (Operand.tmp 36) = .bool false := r _ _ _ (E29.postW D' (hw 29 (by simp)))
    have f44 : y.eval (Operand.tmp 44) = undef := r _ _ _ (E37.postW D' (hw 37 (by simp)))
    exact wp_value (ox_pick ho f36 rfl) (hK _ _ (Mod.refl _ _) (q _ _ _ rfl) hinv)
  have s39 : S2 ops PP w0 a0 Q 39 := by
    refine E39.stepW fun o hd ho hg hw y w listed hsz hls hun hwt hdown D' R hinv K hK => ?_
    rw [ha0] at hsz
    refine .inl ⟨wanted_none hg, ?_⟩
    have f45 : y.eval (Operand.tmp 45) = .bool false := r _ _ _ (E38.postW D' (hw 38 (by simp)))
    exact wp_value (ox_move ho f45) (hK _ _ (Mod.refl _ _) (q _ _ _ rfl) hinv)
  have s40 : S2 ops PP w0 a0 Q 40 := by
    refine E40.stepW fun o hd ho hg hw y w listed hsz hls hun hwt hdown D' R hinv K hK => ?_
    rw [ha0] at hsz
    exact .inr ⟨wanted_no E39 hg (by rw [hsz]; decide) (r _ _ _ (E39.postW D' (hw 39 (by simp)))), hK _ _ (Mod.refl _ _) (q _ _ _ rfl) hinv⟩
  have s41 : S2 ops PP w0 a0 Q 41 := by
    refine E41.stepW fun o hd ho hg hw y w listed hsz hls hun hwt hdown D' R hinv K hK => ?_
    rw [ha0] at hsz
    exact .inr ⟨wanted_no E39 hg (by rw [hsz]; decide) (r _ _ _ (E39.postW D' (hw 39 (by simp)))), hK _ _ (Mod.refl _ _) (q _ _ _ rfl) hinv⟩
  have s42 : S2 ops PP w0 a0 Q 42 := by
    refine E42.stepW fun o hd ho hg hw y w listed hsz hls hun hwt hdown D' R hinv K hK => ?_
    rw [ha0] at hsz
    exact .inr ⟨wanted_no E39 hg (by rw [hsz]; decide) (r _ _ _ (E39.postW D' (hw 39 (by simp)))), hK _ _ (Mod.refl _ _) (q _ _ _ rfl) hinv⟩
  have s43 : S2 ops PP w0 a0 Q 43 := by
    refine E43.stepW fun o hd ho hg hw y w listed hsz hls hun hwt hdown D' R hinv K hK => ?_
    rw [ha0] at hsz
    exact .inr ⟨wanted_no E39 hg (by rw [hsz]; decide) (r _ _ _ (E39.postW D' (hw 39 (by simp)))), hK _ _ (Mod.refl _ _) (q _ _ _ rfl) hinv⟩
  have s44 : S2 ops PP w0 a0 Q 44 := by
    refine E44.stepW fun o hd ho hg hw y w listed hsz hls hun hwt hdown D' R hinv K hK => ?_
    rw [ha0] at hsz
    exact .inr ⟨wanted_no E39 hg (by rw [hsz]; decide) (r _ _ _ (E39.postW D' (hw 39 (by simp)))), hK _ _ (Mod.refl _ _) (q _ _ _ rfl) hinv⟩
  have s45 : S2 ops PP w0 a0 Q 45 := by
    refine E45.stepW fun o hd ho hg hw y w listed hsz hls hun hwt hdown D' R hinv K hK => ?_
    rw [ha0] at hsz
    exact .inr ⟨wanted_no E39 hg (by rw [hsz]; decide) (r _ _ _ (E39.postW D' (hw 39 (by simp)))), hK _ _ (Mod.refl _ _) (q _ _ _ rfl) hinv⟩
  have s46 : S2 ops PP w0 a0 Q 46 := by
    refine E46.stepW fun o hd ho hg hw y w listed hsz hls hun hwt hdown D' R hinv K hK => ?_
    rw [ha0] at hsz
    refine .inl ⟨wanted_none hg, ?_⟩
    have f46 : y.eval (Operand.tmp 46) = .bool false := r _ _ _ (E39.postW D' (hw 39 (by simp)))
    have f52 : y.eval (Operand.tmp 52) = undef := r _ _ _ (E45.postW D' (hw 45 (by simp)))
    exact wp_value (ox_pick ho f46 rfl) (hK _ _ (Mod.refl _ _) (q _ _ _ rfl) hinv)
  have s47 : S2 ops PP w0 a0 Q 47 := by
    refine E47.stepW fun o hd ho hg hw y w listed hsz hls hun hwt hdown D' R hinv K hK => ?_
    rw [ha0] at hsz
    refine .inl ⟨wanted_none hg, ?_⟩
    have f53 : y.eval (Operand.tmp 53) = .bool false := r _ _ _ (E46.postW D' (hw 46 (by simp)))
    exact wp_value (ox_assign ho f53) (hK _ _ (Mod.refl _ _) (q _ _ _ rfl) hinv)
  have stab : ∀ i v w w', Mod (fun _ => False) w w' → PP i v w → PP i v w' := fun _ _ _ _ _ h => q _ _ _ (r _ _ _ h)
  refine region_freeW (Post := PP) (Inv := M0 w0) hmx (low_of hlow) (fun i o ho => by rw [ha0]; exact dst_of (by rw [hds]; decide) i o ho) (inj_of hnd) (Mod.refl _ _) stab ?_ ?_
  · intro i o ho
    have hi : i < 48 := by
      rw [← hN]
      rcases Nat.lt_or_ge i ops.size with h | h
      · exact h
      · rw [Array.getElem?_eq_none h] at ho; cases ho
    clear hend
    match i, hi with
    | 0, _ => exact s0 o ho
    | 1, _ => exact s1 o ho
    | 2, _ => exact s2 o ho
    | 3, _ => exact s3 o ho
    | 4, _ => exact s4 o ho
    | 5, _ => exact s5 o ho
    | 6, _ => exact s6 o ho
    | 7, _ => exact s7 o ho
    | 8, _ => exact s8 o ho
    | 9, _ => exact s9 o ho
    | 10, _ => exact s10 o ho
    | 11, _ => exact s11 o ho
    | 12, _ => exact s12 o ho
    | 13, _ => exact s13 o ho
    | 14, _ => exact s14 o ho
    | 15, _ => exact s15 o ho
    | 16, _ => exact s16 o ho
    | 17, _ => exact s17 o ho
    | 18, _ => exact s18 o ho
    | 19, _ => exact s19 o ho
    | 20, _ => exact s20 o ho
    | 21, _ => exact s21 o ho
    | 22, _ => exact s22 o ho
    | 23, _ => exact s23 o ho
    | 24, _ => exact s24 o ho
    | 25, _ => exact s25 o ho
    | 26, _ => exact s26 o ho
    | 27, _ => exact s27 o ho
    | 28, _ => exact s28 o ho
    | 29, _ => exact s29 o ho
    | 30, _ => exact s30 o ho
    | 31, _ => exact s31 o ho
    | 32, _ => exact s32 o ho
    | 33, _ => exact s33 o ho
    | 34, _ => exact s34 o ho
    | 35, _ => exact s35 o ho
    | 36, _ => exact s36 o ho
    | 37, _ => exact s37 o ho
    | 38, _ => exact s38 o ho
    | 39, _ => exact s39 o ho
    | 40, _ => exact s40 o ho
    | 41, _ => exact s41 o ho
    | 42, _ => exact s42 o ho
    | 43, _ => exact s43 o ho
    | 44, _ => exact s44 o ho
    | 45, _ => exact s45 o ho
    | 46, _ => exact s46 o ho
    | 47, _ => exact s47 o ho
    | i + 48, hi => omega
  · intro y w listed hsz hdf hls hall hinv hp hr
    have e : y = puts a0 [(7, .pointer (some ⟨g, 2, none⟩)), (8, .int .i64 mem), (9, .int .i64 0), (10, .bool true), (11, .bool true), (12, .int .i64 (N : Int)), (13, .bool false), (14, .bool false), (15, .bool false), (16, undef), (17, undef), (18, undef), (19, .bool false), (20, .bool false), (21, undef), (22, undef), (23, undef), (24, undef), (25, undef), (26, undef), (27, undef), (28, .bool false), (29, .bool false), (30, undef), (31, undef), (32, undef), (33, undef), (34, undef), (35, .bool false), (36, .bool false), (37, undef), (38, undef), (39, undef), (40, undef), (41, undef), (42, undef), (43, undef), (44, undef), (45, .bool false), (46, .bool false), (47, undef), (48, undef), (49, undef), (50, undef), (51, undef), (52, undef), (53, .bool false), (2, .bool false)] := by
      refine eq_puts hsz hdf (nodup_of (D := [some 7, some 8, some 9, some 10, some 11, some 12, some 13, some 14, some 15, some 16, some 17, some 18, some 19, some 20, some 21, some 22, some 23, some 24, some 25, some 26, some 27, some 28, some 29, some 30, some 31, some 32, some 33, some 34, some 35, some 36, some 37, some 38, some 39, some 40, some 41, some 42, some 43, some 44, some 45, some 46, some 47, some 48, some 49, some 50, some 51, some 52, some 53, some 2]) rfl (by decide)) (by rw [ha0]; simp) ?_ ?_
      · intro q hq
        simp only [List.mem_cons, List.not_mem_nil, or_false] at hq
        rcases hq with rfl | rfl | rfl | rfl | rfl | rfl | rfl | rfl | rfl | rfl | rfl | rfl | rfl | rfl | rfl | rfl | rfl | rfl | rfl | rfl | rfl | rfl | rfl | rfl | rfl | rfl | rfl | rfl | rfl | rfl | rfl | rfl | rfl | rfl | rfl | rfl | rfl | rfl | rfl | rfl | rfl | rfl | rfl | rfl | rfl | rfl | rfl | rfl
        · obtain ⟨o, h1, h2, _⟩ := E0.ex; exact r _ _ _ (hp 0 o _ h1 h2)
        · obtain ⟨o, h1, h2, _⟩ := E1.ex; exact r _ _ _ (hp 1 o _ h1 h2)
        · obtain ⟨o, h1, h2, _⟩ := E2.ex; exact r _ _ _ (hp 2 o _ h1 h2)
        · obtain ⟨o, h1, h2, _⟩ := E3.ex; exact r _ _ _ (hp 3 o _ h1 h2)
        · obtain ⟨o, h1, h2, _⟩ := E4.ex; exact r _ _ _ (hp 4 o _ h1 h2)
        · obtain ⟨o, h1, h2, _⟩ := E5.ex; exact r _ _ _ (hp 5 o _ h1 h2)
        · obtain ⟨o, h1, h2, _⟩ := E6.ex; exact r _ _ _ (hp 6 o _ h1 h2)
        · obtain ⟨o, h1, h2, _⟩ := E7.ex; exact r _ _ _ (hp 7 o _ h1 h2)
        · obtain ⟨o, h1, h2, _⟩ := E8.ex; exact r _ _ _ (hp 8 o _ h1 h2)
        · obtain ⟨o, h1, h2, _⟩ := E9.ex; exact r _ _ _ (hp 9 o _ h1 h2)
        · obtain ⟨o, h1, h2, _⟩ := E10.ex; exact r _ _ _ (hp 10 o _ h1 h2)
        · obtain ⟨o, h1, h2, _⟩ := E11.ex; exact r _ _ _ (hp 11 o _ h1 h2)
        · obtain ⟨o, h1, h2, _⟩ := E12.ex; exact r _ _ _ (hp 12 o _ h1 h2)
        · obtain ⟨o, h1, h2, _⟩ := E13.ex; exact r _ _ _ (hp 13 o _ h1 h2)
        · obtain ⟨o, h1, h2, _⟩ := E14.ex; exact r _ _ _ (hp 14 o _ h1 h2)
        · obtain ⟨o, h1, h2, _⟩ := E15.ex; exact r _ _ _ (hp 15 o _ h1 h2)
        · obtain ⟨o, h1, h2, _⟩ := E16.ex; exact r _ _ _ (hp 16 o _ h1 h2)
        · obtain ⟨o, h1, h2, _⟩ := E17.ex; exact r _ _ _ (hp 17 o _ h1 h2)
        · obtain ⟨o, h1, h2, _⟩ := E18.ex; exact r _ _ _ (hp 18 o _ h1 h2)
        · obtain ⟨o, h1, h2, _⟩ := E19.ex; exact r _ _ _ (hp 19 o _ h1 h2)
        · obtain ⟨o, h1, h2, _⟩ := E20.ex; exact r _ _ _ (hp 20 o _ h1 h2)
        · obtain ⟨o, h1, h2, _⟩ := E21.ex; exact r _ _ _ (hp 21 o _ h1 h2)
        · obtain ⟨o, h1, h2, _⟩ := E22.ex; exact r _ _ _ (hp 22 o _ h1 h2)
        · obtain ⟨o, h1, h2, _⟩ := E23.ex; exact r _ _ _ (hp 23 o _ h1 h2)
        · obtain ⟨o, h1, h2, _⟩ := E24.ex; exact r _ _ _ (hp 24 o _ h1 h2)
        · obtain ⟨o, h1, h2, _⟩ := E25.ex; exact r _ _ _ (hp 25 o _ h1 h2)
        · obtain ⟨o, h1, h2, _⟩ := E26.ex; exact r _ _ _ (hp 26 o _ h1 h2)
        · obtain ⟨o, h1, h2, _⟩ := E27.ex; exact r _ _ _ (hp 27 o _ h1 h2)
        · obtain ⟨o, h1, h2, _⟩ := E28.ex; exact r _ _ _ (hp 28 o _ h1 h2)
        · obtain ⟨o, h1, h2, _⟩ := E29.ex; exact r _ _ _ (hp 29 o _ h1 h2)
        · obtain ⟨o, h1, h2, _⟩ := E30.ex; exact r _ _ _ (hp 30 o _ h1 h2)
        · obtain ⟨o, h1, h2, _⟩ := E31.ex; exact r _ _ _ (hp 31 o _ h1 h2)
        · obtain ⟨o, h1, h2, _⟩ := E32.ex; exact r _ _ _ (hp 32 o _ h1 h2)
        · obtain ⟨o, h1, h2, _⟩ := E33.ex; exact r _ _ _ (hp 33 o _ h1 h2)
        · obtain ⟨o, h1, h2, _⟩ := E34.ex; exact r _ _ _ (hp 34 o _ h1 h2)
        · obtain ⟨o, h1, h2, _⟩ := E35.ex; exact r _ _ _ (hp 35 o _ h1 h2)
        · obtain ⟨o, h1, h2, _⟩ := E36.ex; exact r _ _ _ (hp 36 o _ h1 h2)
        · obtain ⟨o, h1, h2, _⟩ := E37.ex; exact r _ _ _ (hp 37 o _ h1 h2)
        · obtain ⟨o, h1, h2, _⟩ := E38.ex; exact r _ _ _ (hp 38 o _ h1 h2)
        · obtain ⟨o, h1, h2, _⟩ := E39.ex; exact r _ _ _ (hp 39 o _ h1 h2)
        · obtain ⟨o, h1, h2, _⟩ := E40.ex; exact r _ _ _ (hp 40 o _ h1 h2)
        · obtain ⟨o, h1, h2, _⟩ := E41.ex; exact r _ _ _ (hp 41 o _ h1 h2)
        · obtain ⟨o, h1, h2, _⟩ := E42.ex; exact r _ _ _ (hp 42 o _ h1 h2)
        · obtain ⟨o, h1, h2, _⟩ := E43.ex; exact r _ _ _ (hp 43 o _ h1 h2)
        · obtain ⟨o, h1, h2, _⟩ := E44.ex; exact r _ _ _ (hp 44 o _ h1 h2)
        · obtain ⟨o, h1, h2, _⟩ := E45.ex; exact r _ _ _ (hp 45 o _ h1 h2)
        · obtain ⟨o, h1, h2, _⟩ := E46.ex; exact r _ _ _ (hp 46 o _ h1 h2)
        · obtain ⟨o, h1, h2, _⟩ := E47.ex; exact r _ _ _ (hp 47 o _ h1 h2)
      · intro t ht
        refine hr t (not_of ?_)
        rw [hds]
        simp only [List.mem_cons, List.not_mem_nil, or_false, forall_eq_or_imp, forall_eq] at ht
        simp only [List.contains_cons, List.contains_nil, Bool.or_eq_false_iff, beq_eq_false_iff_ne, ne_eq, Option.some.injEq, Bool.or_false]
        simp only [eq_comm (a := t)]
        simp [ht]
    rw [e]
    exact hend w hinv
def v22 (g N _EL _ccap : Nat) (_cao : Option Addr) (_ec mem rs rr _hop _ls0 _mn : Int) : Nat → Value
  | 0 => .pointer (some ⟨g, 2, none⟩)
  | 1 => .int .i64 mem
  | 2 => .int .i64 0
  | 3 => .bool true
  | 4 => .bool true
  | 5 => .int .i64 (N : Int)
  | 6 => .bool true
  | 7 => .bool true
  | 8 => .bool true
  | 9 => .pointer (some ⟨g, 0, none⟩)
  | 10 => .agg #[.int .i64 rs, .int .i64 rr]
  | 11 => .bool false
  | 12 => .bool false
  | 13 => .bool false
  | 21 => .bool false
  | 22 => .bool false
  | 28 => .bool false
  | 29 => .bool false
  | 38 => .bool false
  | 39 => .bool false
  | 46 => .bool false
  | 47 => .bool false
  | _ => undef
set_option maxRecDepth 100000 in
set_option maxHeartbeats 4000000 in
theorem region22 {ops : Array Oper} {id : Nat} {a0 : Act} {w0 : World} {Q : Exit → Act → World → Prop} (g N EL ccap : Nat) (cao : Option Addr) (ec mem rs rr hop ls0 mn : Int)
    (EE : Ops20 ops)
    (hN : ops.size = 48) (hlow : lowB ops = true) (hds : dsts ops = [some 7, some 8, some 9, some 10, some 11, some 12, some 13, some 14, some 15, some 16, some 17, some 18, some 19, some 20, some 21, some 22, some 23, some 24, some 25, some 26, some 27, some 28, some 29, some 30, some 31, some 32, some 33, some 34, some 35, some 36, some 37, some 38, some 39, some 40, some 41, some 42, some 43, some 44, some 45, some 46, some 47, some 48, some 49, some 50, some 51, some 52, some 53, some 2]) (hnd : injB ops = true)
    (hmx : Try.prog.follows .mixedOrders = true) (ha0 : a0.tmps.size = 54) (h1 : a0.tmps.getD 1 undef = .pointer (some ⟨g, 0, none⟩)) (h3 : a0.tmps.getD 3 undef = .int .i64 (N : Int))
    (d0 : w0.cell? ⟨g, 0, none⟩ = some (.int .i64 rs)) (d1 : w0.cell? ⟨g, 1, none⟩ = some (.int .i64 rr)) (d2 : w0.cell? ⟨g, 2, none⟩ = some (.int .i64 mem)) (_d3 : w0.cell? ⟨g, 3, none⟩ = some (.int .i64 hop)) (_d4 : w0.cell? ⟨g, 4, none⟩ = some (.slice cao EL ccap))
    (H0 : ∀ W, Calls Try.prog 137 #[.int .i64 mem] W fun e w' => e = .returned (.int .i64 0) ∧ Mod (fun _ => False) W w')
    (hN0 : decide (0 < (N : Int)) = true)
    (H2 : ∀ W, Calls Try.prog 117 #[.agg #[.int .i64 rs, .int .i64 rr]] W fun e w' => e = .returned (.bool false) ∧ Mod (fun _ => False) W w')
    (hend : ∀ w, Mod (fun _ => False) w0.drew w → Q .normal (puts a0 [(7, .pointer (some ⟨g, 2, none⟩)), (8, .int .i64 mem), (9, .int .i64 0), (10, .bool true), (11, .bool true), (12, .int .i64 (N : Int)), (13, .bool true), (14, .bool true), (15, .bool true), (16, .pointer (some ⟨g, 0, none⟩)), (17, .agg #[.int .i64 rs, .int .i64 rr]), (18, .bool false), (19, .bool false), (20, .bool false), (21, undef), (22, undef), (23, undef), (24, undef), (25, undef), (26, undef), (27, undef), (28, .bool false), (29, .bool false), (30, undef), (31, undef), (32, undef), (33, undef), (34, undef), (35, .bool false), (36, .bool false), (37, undef), (38, undef), (39, undef), (40, undef), (41, undef), (42, undef), (43, undef), (44, undef), (45, .bool false), (46, .bool false), (47, undef), (48, undef), (49, undef), (50, undef), (51, undef), (52, undef), (53, .bool false), (2, .bool false)]) w) :
    (Code.region id ops true).wp Try.prog Q a0 w0 := by
  obtain ⟨E0, E1, E2, E3, E4, E5, E6, E7, E8, E9, E10, E11, E12, E13, E14, E15, E16, E17, E18, E19, E20, E21, E22, E23, E24, E25, E26, E27, E28, E29, E30, E31, E32, E33, E34, E35, E36, E37, E38, E39, E40, E41, E42, E43, E44, E45, E46, E47⟩ := EE
  obtain ⟨PP, q, r⟩ : ∃ PP : Nat → Value → World → Prop, (∀ i v w, (fun i' v _ => v = v22 g N EL ccap cao ec mem rs rr hop ls0 mn i') i v w → PP i v w) ∧ (∀ i v w, PP i v w → (fun i' v _ => v = v22 g N EL ccap cao ec mem rs rr hop ls0 mn i') i v w) := ⟨(fun i' v _ => v = v22 g N EL ccap cao ec mem rs rr hop ls0 mn i'), fun _ _ _ h => h, fun _ _ _ h => h⟩
  have D : ∀ {W : World} {a : Addr} {v : Value}, Mod (fun _ => False) w0.drew W → w0.cell? a = some v → W.cell? a = some v := fun hW hc => hW.cell (by simpa using hc) (fun h => h)
  have s0 : S2 ops PP w0 a0 Q 0 := by
    refine E0.stepW fun o hd ho hg hw y w listed hsz hls hun hwt hdown D' R hinv K hK => ?_
    rw [ha0] at hsz
    refine .inl ⟨wanted_none hg, ?_⟩
    have f1 : y.eval (Operand.tmp 1) = .pointer (some ⟨g, 0, none⟩) := (R 1 (not_of (by rw [hds]; decide))).trans h1
    exact wp_value (ox_field ho f1 (flc1 w)) (hK _ _ (Mod.refl _ _) (q _ _ _ rfl) hinv)
  have s1 : S2 ops PP w0 a0 Q 1 := by
    refine E1.stepW fun o hd ho hg hw y w listed hsz hls hun hwt hdown D' R hinv K hK => ?_
    rw [ha0] at hsz
    refine .inl ⟨wanted_none hg, ?_⟩
    have f7 : y.eval (Operand.tmp 7) = .pointer (some ⟨g, 2, none⟩) := r _ _ _ (E0.postW D' (hw 0 (by simp)))
    exact wp_value (ox_load ho f7 (ld1 (D hinv d2))) (hK _ _ (Mod.refl _ _) (q _ _ _ rfl) hinv)
  have s2 : S2 ops PP w0 a0 Q 2 := by
    refine E2.stepW fun o hd ho hg hw y w listed hsz hls hun hwt hdown D' R hinv K hK => ?_
    rw [ha0] at hsz
    refine .inl ⟨wanted_none hg, ?_⟩
    have f8 : y.eval (Operand.tmp 8) = .int .i64 mem := r _ _ _ (E1.postW D' (hw 1 (by simp)))
    refine wp_enter (f := 137) (args := #[.int .i64 mem]) ?_ (H0 w) ?_
    · rw [exec_call1 y.eval (fun args w => by simp [go_sem]) rfl ho, f8]
    · rintro e w' ⟨rfl, hm⟩
      exact ⟨_, rfl, hK _ _ hm (q _ _ _ rfl) (hinv.trans hm (fun _ _ h => h) (fun _ _ h => h))⟩
  have s3 : S2 ops PP w0 a0 Q 3 := by
    refine E3.stepW fun o hd ho hg hw y w listed hsz hls hun hwt hdown D' R hinv K hK => ?_
    rw [ha0] at hsz
    refine .inl ⟨wanted_none hg, ?_⟩
    have f9 : y.eval (Operand.tmp 9) = .int .i64 0 := r _ _ _ (E2.postW D' (hw 2 (by simp)))
    exact wp_value (ox_eql0 ho (fun _ => rfl) f9 rfl) (hK _ _ (Mod.refl _ _) (q _ _ _ rfl) hinv)
  have s4 : S2 ops PP w0 a0 Q 4 := by
    refine E4.stepW fun o hd ho hg hw y w listed hsz hls hun hwt hdown D' R hinv K hK => ?_
    rw [ha0] at hsz
    refine .inl ⟨wanted_none hg, ?_⟩
    have f10 : y.eval (Operand.tmp 10) = .bool true := r _ _ _ (E3.postW D' (hw 3 (by simp)))
    exact wp_value (ox_move ho f10) (hK _ _ (Mod.refl _ _) (q _ _ _ rfl) hinv)
  have s5 : S2 ops PP w0 a0 Q 5 := by
    refine E5.stepW fun o hd ho hg hw y w listed hsz hls hun hwt hdown D' R hinv K hK => ?_
    rw [ha0] at hsz
    refine .inl ⟨wanted_yes E4 hg (by rw [hsz]; decide) (r _ _ _ (E4.postW D' (hw 4 (by simp)))), ?_⟩
    have f3 : y.eval (Operand.tmp 3) = .int .i64 (N : Int) := (R 3 (not_of (by rw [hds]; decide))).trans h3
    exact wp_value (ox_move ho f3) (hK _ _ (Mod.refl _ _) (q _ _ _ rfl) hinv)
  have s6 : S2 ops PP w0 a0 Q 6 := by
    refine E6.stepW fun o hd ho hg hw y w listed hsz hls hun hwt hdown D' R hinv K hK => ?_
    rw [ha0] at hsz
    refine .inl ⟨wanted_yes E4 hg (by rw [hsz]; decide) (r _ _ _ (E4.postW D' (hw 4 (by simp)))), ?_⟩
    have f12 : y.eval (Operand.tmp 12) = .int .i64 (N : Int) := r _ _ _ (E5.postW D' (hw 5 (by simp)))
    exact wp_value (ox_gtr0 ho (fun _ => rfl) f12 hN0) (hK _ _ (Mod.refl _ _) (q _ _ _ rfl) hinv)
  have s7 : S2 ops PP w0 a0 Q 7 := by
    refine E7.stepW fun o hd ho hg hw y w listed hsz hls hun hwt hdown D' R hinv K hK => ?_
    rw [ha0] at hsz
    refine .inl ⟨wanted_none hg, ?_⟩
    have f11 : y.eval (Operand.tmp 11) = .bool true := r _ _ _ (E4.postW D' (hw 4 (by simp)))
    have f13 : y.eval (Operand.tmp 13) = .bool true := r _ _ _ (E6.postW D' (hw 6 (by simp)))
    exact wp_value (ox_pick ho f11 f13) (hK _ _ (Mod.refl _ _) (q _ _ _ rfl) hinv)
  have s8 : S2 ops PP w0 a0 Q 8 := by
    refine E8.stepW fun o hd ho hg hw y w listed hsz hls hun hwt hdown D' R hinv K hK => ?_
    rw [ha0] at hsz
    refine .inl ⟨wanted_none hg, ?_⟩
    have f14 : y.eval (Operand.tmp 14) = .bool true := r _ _ _ (E7.postW D' (hw 7 (by simp)))
    exact wp_value (ox_move ho f14) (hK _ _ (Mod.refl _ _) (q _ _ _ rfl) hinv)
  have s9 : S2 ops PP w0 a0 Q 9 := by
    refine E9.stepW fun o hd ho hg hw y w listed hsz hls hun hwt hdown D' R hinv K hK => ?_
    rw [ha0] at hsz
    refine .inl ⟨wanted_yes E8 hg (by rw [hsz]; decide) (r _ _ _ (E8.postW D' (hw 8 (by simp)))), ?_⟩
    have f1 : y.eval (Operand.tmp 1) = .pointer (some ⟨g, 0, none⟩) := (R 1 (not_of (by rw [hds]; decide))).trans h1
    exact wp_value (ox_field ho f1 (flc0 w)) (hK _ _ (Mod.refl _ _) (q _ _ _ rfl) hinv)
  have s10 : S2 ops PP w0 a0 Q 10 := by
    refine E10.stepW fun o hd ho hg hw y w listed hsz hls hun hwt hdown D' R hinv K hK => ?_
    rw [ha0] at hsz
    refine .inl ⟨wanted_yes E8 hg (by rw [hsz]; decide) (r _ _ _ (E8.postW D' (hw 8 (by simp)))), ?_⟩
    have f16 : y.eval (Operand.tmp 16) = .pointer (some ⟨g, 0, none⟩) := r _ _ _ (E9.postW D' (hw 9 (by simp)))
    exact wp_value (ox_load ho f16 (ld2 (D hinv d0) (D hinv d1))) (hK _ _ (Mod.refl _ _) (q _ _ _ rfl) hinv)
  have s11 : S2 ops PP w0 a0 Q 11 := by
    refine E11.stepW fun o hd ho hg hw y w listed hsz hls hun hwt hdown D' R hinv K hK => ?_
    rw [ha0] at hsz
    refine .inl ⟨wanted_yes E8 hg (by rw [hsz]; decide) (r _ _ _ (E8.postW D' (hw 8 (by simp)))), ?_⟩
    have f17 : y.eval (Operand.tmp 17) = .agg #[.int .i64 rs, .int .i64 rr] := r _ _ _ (E10.postW D' (hw 10 (by simp)))
    refine wp_enter (f := 117) (args := #[.agg #[.int .i64 rs, .int .i64 rr]]) ?_ (H2 w) ?_
    · rw [exec_call1 y.eval (fun args w => by simp [go_sem]) rfl ho, f17]
    · rintro e w' ⟨rfl, hm⟩
      exact ⟨_, rfl, hK _ _ hm (q _ _ _ rfl) (hinv.trans hm (fun _ _ h => h) (fun _ _ h => h))⟩
  have s12 : S2 ops PP w0 a0 Q 12 := by
    refine E12.stepW fun o hd ho hg hw y w listed hsz hls hun hwt hdown D' R hinv K hK => ?_
    rw [ha0] at hsz
    refine .inl ⟨wanted_none hg, ?_⟩
    have f15 : y.eval (Operand.tmp 15) = .bool true := r _ _ _ (E8.postW D' (hw 8 (by simp)))
    have f18 : y.eval (Operand.tmp 18) = .bool false := r _ _ _ (E11.postW D' (hw 11 (by simp)))
    exact wp_value (ox_pick ho f15 f18) (hK _ _ (Mod.refl _ _) (q _ _ _ rfl) hinv)
  have s13 : S2 ops PP w0 a0 Q 13 := by
    refine E13.stepW fun o hd ho hg hw y w listed hsz hls hun hwt hdown D' R hinv K hK => ?_
    rw [ha0] at hsz
    refine .inl ⟨wanted_none hg, ?_⟩
    have f19 : y.eval (Operand.tmp 19) = .bool false := r _ _ _ (E12.postW D' (hw 12 (by simp)))
    exact wp_value (ox_move ho f19) (hK _ _ (Mod.refl _ _) (q _ _ _ rfl) hinv)
  have s14 : S2 ops PP w0 a0 Q 14 := by
    refine E14.stepW fun o hd ho hg hw y w listed hsz hls hun hwt hdown D' R hinv K hK => ?_
    rw [ha0] at hsz
    exact .inr ⟨wanted_no E13 hg (by rw [hsz]; decide) (r _ _ _ (E13.postW D' (hw 13 (by simp)))), hK _ _ (Mod.refl _ _) (q _ _ _ rfl) hinv⟩
  have s15 : S2 ops PP w0 a0 Q 15 := by
    refine E15.stepW fun o hd ho hg hw y w listed hsz hls hun hwt hdown D' R hinv K hK => ?_
    rw [ha0] at hsz
    exact .inr ⟨wanted_no E13 hg (by rw [hsz]; decide) (r _ _ _ (E13.postW D' (hw 13 (by simp)))), hK _ _ (Mod.refl _ _) (q _ _ _ rfl) hinv⟩
  have s16 : S2 ops PP w0 a0 Q 16 := by
    refine E16.stepW fun o hd ho hg hw y w listed hsz hls hun hwt hdown D' R hinv K hK => ?_
    rw [ha0] at hsz
    exact .inr ⟨wanted_no E13 hg (by rw [hsz]; decide) (r _ _ _ (E13.postW D' (hw 13 (by simp)))), hK _ _ (Mod.refl _ _) (q _ _ _ rfl) hinv⟩
  have s17 : S2 ops PP w0 a0 Q 17 := by
    refine E17.stepW fun o hd ho hg hw y w listed hsz hls hun hwt hdown D' R hinv K hK => ?_
    rw [ha0] at hsz
    exact .inr ⟨wanted_no E13 hg (by rw [hsz]; decide) (r _ _ _ (E13.postW D' (hw 13 (by simp)))), hK _ _ (Mod.refl _ _) (q _ _ _ rfl) hinv⟩
  have s18 : S2 ops PP w0 a0 Q 18 := by
    refine E18.stepW fun o hd ho hg hw y w listed hsz hls hun hwt hdown D' R hinv K hK => ?_
    rw [ha0] at hsz
    exact .inr ⟨wanted_no E13 hg (by rw [hsz]; decide) (r _ _ _ (E13.postW D' (hw 13 (by simp)))), hK _ _ (Mod.refl _ _) (q _ _ _ rfl) hinv⟩
  have s19 : S2 ops PP w0 a0 Q 19 := by
    refine E19.stepW fun o hd ho hg hw y w listed hsz hls hun hwt hdown D' R hinv K hK => ?_
    rw [ha0] at hsz
    exact .inr ⟨wanted_no E13 hg (by rw [hsz]; decide) (r _ _ _ (E13.postW D' (hw 13 (by simp)))), hK _ _ (Mod.refl _ _) (q _ _ _ rfl) hinv⟩
  have s20 : S2 ops PP w0 a0 Q 20 := by
    refine E20.stepW fun o hd ho hg hw y w listed hsz hls hun hwt hdown D' R hinv K hK => ?_
    rw [ha0] at hsz
    exact .inr ⟨wanted_no E13 hg (by rw [hsz]; decide) (r _ _ _ (E13.postW D' (hw 13 (by simp)))), hK _ _ (Mod.refl _ _) (q _ _ _ rfl) hinv⟩
  have s21 : S2 ops PP w0 a0 Q 21 := by
    refine E21.stepW fun o hd ho hg hw y w listed hsz hls hun hwt hdown D' R hinv K hK => ?_
    rw [ha0] at hsz
    refine .inl ⟨wanted_none hg, ?_⟩
    have f20 : y.eval (Operand.tmp 20) = .bool false := r _ _ _ (E13.postW D' (hw 13 (by simp)))
    have f27 : y.eval (Operand.tmp 27) = undef := r _ _ _ (E20.postW D' (hw 20 (by simp)))
    exact wp_value (ox_pick ho f20 rfl) (hK _ _ (Mod.refl _ _) (q _ _ _ rfl) hinv)
  have s22 : S2 ops PP w0 a0 Q 22 := by
    refine E22.stepW fun o hd ho hg hw y w listed hsz hls hun hwt hdown D' R hinv K hK => ?_
    rw [ha0] at hsz
    refine .inl ⟨wanted_none hg, ?_⟩
    have f28 : y.eval (Operand.tmp 28) = .bool false := r _ _ _ (E21.postW D' (hw 21 (by simp)))
    exact wp_value (ox_move ho f28) (hK _ _ (Mod.refl _ _) (q _ _ _ rfl) hinv)
  have s23 : S2 ops PP w0 a0 Q 23 := by
    refine E23.stepW fun o hd ho hg hw y w listed hsz hls hun hwt hdown D' R hinv K hK => ?_
    rw [ha0] at hsz
    exact .inr ⟨wanted_no E22 hg (by rw [hsz]; decide) (r _ _ _ (E22.postW D' (hw 22 (by simp)))), hK _ _ (Mod.refl _ _) (q _ _ _ rfl) hinv⟩
  have s24 : S2 ops PP w0 a0 Q 24 := by
    refine E24.stepW fun o hd ho hg hw y w listed hsz hls hun hwt hdown D' R hinv K hK => ?_
    rw [ha0] at hsz
    exact .inr ⟨wanted_no E22 hg (by rw [hsz]; decide) (r _ _ _ (E22.postW D' (hw 22 (by simp)))), hK _ _ (Mod.refl _ _) (q _ _ _ rfl) hinv⟩
  have s25 : S2 ops PP w0 a0 Q 25 := by
    refine E25.stepW fun o hd ho hg hw y w listed hsz hls hun hwt hdown D' R hinv K hK => ?_
    rw [ha0] at hsz
    exact .inr ⟨wanted_no E22 hg (by rw [hsz]; decide) (r _ _ _ (E22.postW D' (hw 22 (by simp)))), hK _ _ (Mod.refl _ _) (q _ _ _ rfl) hinv⟩
  have s26 : S2 ops PP w0 a0 Q 26 := by
    refine E26.stepW fun o hd ho hg hw y w listed hsz hls hun hwt hdown D' R hinv K hK => ?_
    rw [ha0] at hsz
    exact .inr ⟨wanted_no E22 hg (by rw [hsz]; decide) (r _ _ _ (E22.postW D' (hw 22 (by simp)))), hK _ _ (Mod.refl _ _) (q _ _ _ rfl) hinv⟩
  have s27 : S2 ops PP w0 a0 Q 27 := by
    refine E27.stepW fun o hd ho hg hw y w listed hsz hls hun hwt hdown D' R hinv K hK => ?_
    rw [ha0] at hsz
    exact .inr ⟨wanted_no E22 hg (by rw [hsz]; decide) (r _ _ _ (E22.postW D' (hw 22 (by simp)))), hK _ _ (Mod.refl _ _) (q _ _ _ rfl) hinv⟩
  have s28 : S2 ops PP w0 a0 Q 28 := by
    refine E28.stepW fun o hd ho hg hw y w listed hsz hls hun hwt hdown D' R hinv K hK => ?_
    rw [ha0] at hsz
    refine .inl ⟨wanted_none hg, ?_⟩
    have f29 : y.eval (Operand.tmp 29) = .bool false := r _ _ _ (E22.postW D' (hw 22 (by simp)))
    have f34 : y.eval (Operand.tmp 34) = undef := r _ _ _ (E27.postW D' (hw 27 (by simp)))
    exact wp_value (ox_pick ho f29 rfl) (hK _ _ (Mod.refl _ _) (q _ _ _ rfl) hinv)
  have s29 : S2 ops PP w0 a0 Q 29 := by
    refine E29.stepW fun o hd ho hg hw y w listed hsz hls hun hwt hdown D' R hinv K hK => ?_
    rw [ha0] at hsz
    refine .inl ⟨wanted_none hg, ?_⟩
    have f35 : y.eval (Operand.tmp 35) = .bool false := r _ _ _ (E28.postW D' (hw 28 (by simp)))
    exact wp_value (ox_move ho f35) (hK _ _ (Mod.refl _ _) (q _ _ _ rfl) hinv)
  have s30 : S2 ops PP w0 a0 Q 30 := by
    refine E30.stepW fun o hd ho hg hw y w listed hsz hls hun hwt hdown D' R hinv K hK => ?_
    rw [ha0] at hsz
    exact .inr ⟨wanted_no E29 hg (by rw [hsz]; decide) (r _ _ _ (E29.postW D' (hw 29 (by simp)))), hK _ _ (Mod.refl _ _) (q _ _ _ rfl) hinv⟩
  have s31 : S2 ops PP w0 a0 Q 31 := by
    refine E31.stepW fun o hd ho hg hw y w listed hsz hls hun hwt hdown D' R hinv K hK => ?_
    rw [ha0] at hsz
    exact .inr ⟨wanted_no E29 hg (by rw [hsz]; decide) (r _ _ _ (E29.postW D' (hw 29 (by simp)))), hK _ _ (Mod.refl _ _) (q _ _ _ rfl) hinv⟩
  have s32 : S2 ops PP w0 a0 Q 32 := by
    refine E32.stepW fun o hd ho hg hw y w listed hsz hls hun hwt hdown D' R hinv K hK => ?_
    rw [ha0] at hsz
    exact .inr ⟨wanted_no E29 hg (by rw [hsz]; decide) (r _ _ _ (E29.postW D' (hw 29 (by simp)))), hK _ _ (Mod.refl _ _) (q _ _ _ rfl) hinv⟩
  have s33 : S2 ops PP w0 a0 Q 33 := by
    refine E33.stepW fun o hd ho hg hw y w listed hsz hls hun hwt hdown D' R hinv K hK => ?_
    rw [ha0] at hsz
    exact .inr ⟨wanted_no E29 hg (by rw [hsz]; decide) (r _ _ _ (E29.postW D' (hw 29 (by simp)))), hK _ _ (Mod.refl _ _) (q _ _ _ rfl) hinv⟩
  have s34 : S2 ops PP w0 a0 Q 34 := by
    refine E34.stepW fun o hd ho hg hw y w listed hsz hls hun hwt hdown D' R hinv K hK => ?_
    rw [ha0] at hsz
    exact .inr ⟨wanted_no E29 hg (by rw [hsz]; decide) (r _ _ _ (E29.postW D' (hw 29 (by simp)))), hK _ _ (Mod.refl _ _) (q _ _ _ rfl) hinv⟩
  have s35 : S2 ops PP w0 a0 Q 35 := by
    refine E35.stepW fun o hd ho hg hw y w listed hsz hls hun hwt hdown D' R hinv K hK => ?_
    rw [ha0] at hsz
    exact .inr ⟨wanted_no E29 hg (by rw [hsz]; decide) (r _ _ _ (E29.postW D' (hw 29 (by simp)))), hK _ _ (Mod.refl _ _) (q _ _ _ rfl) hinv⟩
  have s36 : S2 ops PP w0 a0 Q 36 := by
    refine E36.stepW fun o hd ho hg hw y w listed hsz hls hun hwt hdown D' R hinv K hK => ?_
    rw [ha0] at hsz
    exact .inr ⟨wanted_no E29 hg (by rw [hsz]; decide) (r _ _ _ (E29.postW D' (hw 29 (by simp)))), hK _ _ (Mod.refl _ _) (q _ _ _ rfl) hinv⟩
  have s37 : S2 ops PP w0 a0 Q 37 := by
    refine E37.stepW fun o hd ho hg hw y w listed hsz hls hun hwt hdown D' R hinv K hK => ?_
    rw [ha0] at hsz
    exact .inr ⟨wanted_no E29 hg (by rw [hsz]; decide) (r _ _ _ (E29.postW D' (hw 29 (by simp)))), hK _ _ (Mod.refl _ _) (q _ _ _ rfl) hinv⟩
  have s38 : S2 ops PP w0 a0 Q 38 := by
    refine E38.stepW fun o hd ho hg hw y w listed hsz hls hun hwt hdown D' R hinv K hK => ?_
    rw [ha0] at hsz
    refine .inl ⟨wanted_none hg, ?_⟩
    have f36 : y.eval (Operand.tmp 36) = .bool false := r _ _ _ (E29.postW D' (hw 29 (by simp)))
    have f44 : y.eval (Operand.tmp 44) = undef := r _ _ _ (E37.postW D' (hw 37 (by simp)))
    exact wp_value (ox_pick ho f36 rfl) (hK _ _ (Mod.refl _ _) (q _ _ _ rfl) hinv)
  have s39 : S2 ops PP w0 a0 Q 39 := by
    refine E39.stepW fun o hd ho hg hw y w listed hsz hls hun hwt hdown D' R hinv K hK => ?_
    rw [ha0] at hsz
    refine .inl ⟨wanted_none hg, ?_⟩
    have f45 : y.eval (Operand.tmp 45) = .bool false := r _ _ _ (E38.postW D' (hw 38 (by simp)))
    exact wp_value (ox_move ho f45) (hK _ _ (Mod.refl _ _) (q _ _ _ rfl) hinv)
  have s40 : S2 ops PP w0 a0 Q 40 := by
    refine E40.stepW fun o hd ho hg hw y w listed hsz hls hun hwt hdown D' R hinv K hK => ?_
    rw [ha0] at hsz
    exact .inr ⟨wanted_no E39 hg (by rw [hsz]; decide) (r _ _ _ (E39.postW D' (hw 39 (by simp)))), hK _ _ (Mod.refl _ _) (q _ _ _ rfl) hinv⟩
  have s41 : S2 ops PP w0 a0 Q 41 := by
    refine E41.stepW fun o hd ho hg hw y w listed hsz hls hun hwt hdown D' R hinv K hK => ?_
    rw [ha0] at hsz
    exact .inr ⟨wanted_no E39 hg (by rw [hsz]; decide) (r _ _ _ (E39.postW D' (hw 39 (by simp)))), hK _ _ (Mod.refl _ _) (q _ _ _ rfl) hinv⟩
  have s42 : S2 ops PP w0 a0 Q 42 := by
    refine E42.stepW fun o hd ho hg hw y w listed hsz hls hun hwt hdown D' R hinv K hK => ?_
    rw [ha0] at hsz
    exact .inr ⟨wanted_no E39 hg (by rw [hsz]; decide) (r _ _ _ (E39.postW D' (hw 39 (by simp)))), hK _ _ (Mod.refl _ _) (q _ _ _ rfl) hinv⟩
  have s43 : S2 ops PP w0 a0 Q 43 := by
    refine E43.stepW fun o hd ho hg hw y w listed hsz hls hun hwt hdown D' R hinv K hK => ?_
    rw [ha0] at hsz
    exact .inr ⟨wanted_no E39 hg (by rw [hsz]; decide) (r _ _ _ (E39.postW D' (hw 39 (by simp)))), hK _ _ (Mod.refl _ _) (q _ _ _ rfl) hinv⟩
  have s44 : S2 ops PP w0 a0 Q 44 := by
    refine E44.stepW fun o hd ho hg hw y w listed hsz hls hun hwt hdown D' R hinv K hK => ?_
    rw [ha0] at hsz
    exact .inr ⟨wanted_no E39 hg (by rw [hsz]; decide) (r _ _ _ (E39.postW D' (hw 39 (by simp)))), hK _ _ (Mod.refl _ _) (q _ _ _ rfl) hinv⟩
  have s45 : S2 ops PP w0 a0 Q 45 := by
    refine E45.stepW fun o hd ho hg hw y w listed hsz hls hun hwt hdown D' R hinv K hK => ?_
    rw [ha0] at hsz
    exact .inr ⟨wanted_no E39 hg (by rw [hsz]; decide) (r _ _ _ (E39.postW D' (hw 39 (by simp)))), hK _ _ (Mod.refl _ _) (q _ _ _ rfl) hinv⟩
  have s46 : S2 ops PP w0 a0 Q 46 := by
    refine E46.stepW fun o hd ho hg hw y w listed hsz hls hun hwt hdown D' R hinv K hK => ?_
    rw [ha0] at hsz
    refine .inl ⟨wanted_none hg, ?_⟩
    have f46 : y.eval (Operand.tmp 46) = .bool false := r _ _ _ (E39.postW D' (hw 39 (by simp)))
    have f52 : y.eval (Operand.tmp 52) = undef := r _ _ _ (E45.postW D' (hw 45 (by simp)))
    exact wp_value (ox_pick ho f46 rfl) (hK _ _ (Mod.refl _ _) (q _ _ _ rfl) hinv)
  have s47 : S2 ops PP w0 a0 Q 47 := by
    refine E47.stepW fun o hd ho hg hw y w listed hsz hls hun hwt hdown D' R hinv K hK => ?_
    rw [ha0] at hsz
    refine .inl ⟨wanted_none hg, ?_⟩
    have f53 : y.eval (Operand.tmp 53) = .bool false := r _ _ _ (E46.postW D' (hw 46 (by simp)))
    exact wp_value (ox_assign ho f53) (hK _ _ (Mod.refl _ _) (q _ _ _ rfl) hinv)
  have stab : ∀ i v w w', Mod (fun _ => False) w w' → PP i v w → PP i v w' := fun _ _ _ _ _ h => q _ _ _ (r _ _ _ h)
  refine region_freeW (Post := PP) (Inv := M0 w0) hmx (low_of hlow) (fun i o ho => by rw [ha0]; exact dst_of (by rw [hds]; decide) i o ho) (inj_of hnd) (Mod.refl _ _) stab ?_ ?_
  · intro i o ho
    have hi : i < 48 := by
      rw [← hN]
      rcases Nat.lt_or_ge i ops.size with h | h
      · exact h
      · rw [Array.getElem?_eq_none h] at ho; cases ho
    clear hend
    match i, hi with
    | 0, _ => exact s0 o ho
    | 1, _ => exact s1 o ho
    | 2, _ => exact s2 o ho
    | 3, _ => exact s3 o ho
    | 4, _ => exact s4 o ho
    | 5, _ => exact s5 o ho
    | 6, _ => exact s6 o ho
    | 7, _ => exact s7 o ho
    | 8, _ => exact s8 o ho
    | 9, _ => exact s9 o ho
    | 10, _ => exact s10 o ho
    | 11, _ => exact s11 o ho
    | 12, _ => exact s12 o ho
    | 13, _ => exact s13 o ho
    | 14, _ => exact s14 o ho
    | 15, _ => exact s15 o ho
    | 16, _ => exact s16 o ho
    | 17, _ => exact s17 o ho
    | 18, _ => exact s18 o ho
    | 19, _ => exact s19 o ho
    | 20, _ => exact s20 o ho
    | 21, _ => exact s21 o ho
    | 22, _ => exact s22 o ho
    | 23, _ => exact s23 o ho
    | 24, _ => exact s24 o ho
    | 25, _ => exact s25 o ho
    | 26, _ => exact s26 o ho
    | 27, _ => exact s27 o ho
    | 28, _ => exact s28 o ho
    | 29, _ => exact s29 o ho
    | 30, _ => exact s30 o ho
    | 31, _ => exact s31 o ho
    | 32, _ => exact s32 o ho
    | 33, _ => exact s33 o ho
    | 34, _ => exact s34 o ho
    | 35, _ => exact s35 o ho
    | 36, _ => exact s36 o ho
    | 37, _ => exact s37 o ho
    | 38, _ => exact s38 o ho
    | 39, _ => exact s39 o ho
    | 40, _ => exact s40 o ho
    | 41, _ => exact s41 o ho
    | 42, _ => exact s42 o ho
    | 43, _ => exact s43 o ho
    | 44, _ => exact s44 o ho
    | 45, _ => exact s45 o ho
    | 46, _ => exact s46 o ho
    | 47, _ => exact s47 o ho
    | i + 48, hi => omega
  · intro y w listed hsz hdf hls hall hinv hp hr
    have e : y = puts a0 [(7, .pointer (some ⟨g, 2, none⟩)), (8, .int .i64 mem), (9, .int .i64 0), (10, .bool true), (11, .bool true), (12, .int .i64 (N : Int)), (13, .bool true), (14, .bool true), (15, .bool true), (16, .pointer (some ⟨g, 0, none⟩)), (17, .agg #[.int .i64 rs, .int .i64 rr]), (18, .bool false), (19, .bool false), (20, .bool false), (21, undef), (22, undef), (23, undef), (24, undef), (25, undef), (26, undef), (27, undef), (28, .bool false), (29, .bool false), (30, undef), (31, undef), (32, undef), (33, undef), (34, undef), (35, .bool false), (36, .bool false), (37, undef), (38, undef), (39, undef), (40, undef), (41, undef), (42, undef), (43, undef), (44, undef), (45, .bool false), (46, .bool false), (47, undef), (48, undef), (49, undef), (50, undef), (51, undef), (52, undef), (53, .bool false), (2, .bool false)] := by
      refine eq_puts hsz hdf (nodup_of (D := [some 7, some 8, some 9, some 10, some 11, some 12, some 13, some 14, some 15, some 16, some 17, some 18, some 19, some 20, some 21, some 22, some 23, some 24, some 25, some 26, some 27, some 28, some 29, some 30, some 31, some 32, some 33, some 34, some 35, some 36, some 37, some 38, some 39, some 40, some 41, some 42, some 43, some 44, some 45, some 46, some 47, some 48, some 49, some 50, some 51, some 52, some 53, some 2]) rfl (by decide)) (by rw [ha0]; simp) ?_ ?_
      · intro q hq
        simp only [List.mem_cons, List.not_mem_nil, or_false] at hq
        rcases hq with rfl | rfl | rfl | rfl | rfl | rfl | rfl | rfl | rfl | rfl | rfl | rfl | rfl | rfl | rfl | rfl | rfl | rfl | rfl | rfl | rfl | rfl | rfl | rfl | rfl | rfl | rfl | rfl | rfl | rfl | rfl | rfl | rfl | rfl | rfl | rfl | rfl | rfl | rfl | rfl | rfl | rfl | rfl | rfl | rfl | rfl | rfl | rfl
        · obtain ⟨o, h1, h2, _⟩ := E0.ex; exact r _ _ _ (hp 0 o _ h1 h2)
        · obtain ⟨o, h1, h2, _⟩ := E1.ex; exact r _ _ _ (hp 1 o _ h1 h2)
        · obtain ⟨o, h1, h2, _⟩ := E2.ex; exact r _ _ _ (hp 2 o _ h1 h2)
        · obtain ⟨o, h1, h2, _⟩ := E3.ex; exact r _ _ _ (hp 3 o _ h1 h2)
        · obtain ⟨o, h1, h2, _⟩ := E4.ex; exact r _ _ _ (hp 4 o _ h1 h2)
        · obtain ⟨o, h1, h2, _⟩ := E5.ex; exact r _ _ _ (hp 5 o _ h1 h2)
        · obtain ⟨o, h1, h2, _⟩ := E6.ex; exact r _ _ _ (hp 6 o _ h1 h2)
        · obtain ⟨o, h1, h2, _⟩ := E7.ex; exact r _ _ _ (hp 7 o _ h1 h2)
        · obtain ⟨o, h1, h2, _⟩ := E8.ex; exact r _ _ _ (hp 8 o _ h1 h2)
        · obtain ⟨o, h1, h2, _⟩ := E9.ex; exact r _ _ _ (hp 9 o _ h1 h2)
        · obtain ⟨o, h1, h2, _⟩ := E10.ex; exact r _ _ _ (hp 10 o _ h1 h2)
        · obtain ⟨o, h1, h2, _⟩ := E11.ex; exact r _ _ _ (hp 11 o _ h1 h2)
        · obtain ⟨o, h1, h2, _⟩ := E12.ex; exact r _ _ _ (hp 12 o _ h1 h2)
        · obtain ⟨o, h1, h2, _⟩ := E13.ex; exact r _ _ _ (hp 13 o _ h1 h2)
        · obtain ⟨o, h1, h2, _⟩ := E14.ex; exact r _ _ _ (hp 14 o _ h1 h2)
        · obtain ⟨o, h1, h2, _⟩ := E15.ex; exact r _ _ _ (hp 15 o _ h1 h2)
        · obtain ⟨o, h1, h2, _⟩ := E16.ex; exact r _ _ _ (hp 16 o _ h1 h2)
        · obtain ⟨o, h1, h2, _⟩ := E17.ex; exact r _ _ _ (hp 17 o _ h1 h2)
        · obtain ⟨o, h1, h2, _⟩ := E18.ex; exact r _ _ _ (hp 18 o _ h1 h2)
        · obtain ⟨o, h1, h2, _⟩ := E19.ex; exact r _ _ _ (hp 19 o _ h1 h2)
        · obtain ⟨o, h1, h2, _⟩ := E20.ex; exact r _ _ _ (hp 20 o _ h1 h2)
        · obtain ⟨o, h1, h2, _⟩ := E21.ex; exact r _ _ _ (hp 21 o _ h1 h2)
        · obtain ⟨o, h1, h2, _⟩ := E22.ex; exact r _ _ _ (hp 22 o _ h1 h2)
        · obtain ⟨o, h1, h2, _⟩ := E23.ex; exact r _ _ _ (hp 23 o _ h1 h2)
        · obtain ⟨o, h1, h2, _⟩ := E24.ex; exact r _ _ _ (hp 24 o _ h1 h2)
        · obtain ⟨o, h1, h2, _⟩ := E25.ex; exact r _ _ _ (hp 25 o _ h1 h2)
        · obtain ⟨o, h1, h2, _⟩ := E26.ex; exact r _ _ _ (hp 26 o _ h1 h2)
        · obtain ⟨o, h1, h2, _⟩ := E27.ex; exact r _ _ _ (hp 27 o _ h1 h2)
        · obtain ⟨o, h1, h2, _⟩ := E28.ex; exact r _ _ _ (hp 28 o _ h1 h2)
        · obtain ⟨o, h1, h2, _⟩ := E29.ex; exact r _ _ _ (hp 29 o _ h1 h2)
        · obtain ⟨o, h1, h2, _⟩ := E30.ex; exact r _ _ _ (hp 30 o _ h1 h2)
        · obtain ⟨o, h1, h2, _⟩ := E31.ex; exact r _ _ _ (hp 31 o _ h1 h2)
        · obtain ⟨o, h1, h2, _⟩ := E32.ex; exact r _ _ _ (hp 32 o _ h1 h2)
        · obtain ⟨o, h1, h2, _⟩ := E33.ex; exact r _ _ _ (hp 33 o _ h1 h2)
        · obtain ⟨o, h1, h2, _⟩ := E34.ex; exact r _ _ _ (hp 34 o _ h1 h2)
        · obtain ⟨o, h1, h2, _⟩ := E35.ex; exact r _ _ _ (hp 35 o _ h1 h2)
        · obtain ⟨o, h1, h2, _⟩ := E36.ex; exact r _ _ _ (hp 36 o _ h1 h2)
        · obtain ⟨o, h1, h2, _⟩ := E37.ex; exact r _ _ _ (hp 37 o _ h1 h2)
        · obtain ⟨o, h1, h2, _⟩ := E38.ex; exact r _ _ _ (hp 38 o _ h1 h2)
        · obtain ⟨o, h1, h2, _⟩ := E39.ex; exact r _ _ _ (hp 39 o _ h1 h2)
        · obtain ⟨o, h1, h2, _⟩ := E40.ex; exact r _ _ _ (hp 40 o _ h1 h2)
        · obtain ⟨o, h1, h2, _⟩ := E41.ex; exact r _ _ _ (hp 41 o _ h1 h2)
        · obtain ⟨o, h1, h2, _⟩ := E42.ex; exact r _ _ _ (hp 42 o _ h1 h2)
        · obtain ⟨o, h1, h2, _⟩ := E43.ex; exact r _ _ _ (hp 43 o _ h1 h2)
        · obtain ⟨o, h1, h2, _⟩ := E44.ex; exact r _ _ _ (hp 44 o _ h1 h2)
        · obtain ⟨o, h1, h2, _⟩ := E45.ex; exact r _ _ _ (hp 45 o _ h1 h2)
        · obtain ⟨o, h1, h2, _⟩ := E46.ex; exact r _ _ _ (hp 46 o _ h1 h2)
        · obtain ⟨o, h1, h2, _⟩ := E47.ex; exact r _ _ _ (hp 47 o _ h1 h2)
      · intro t ht
        refine hr t (not_of ?_)
        rw [hds]
        simp only [List.mem_cons, List.not_mem_nil, or_false, forall_eq_or_imp, forall_eq] at ht
        simp only [List.contains_cons, List.contains_nil, Bool.or_eq_false_iff, beq_eq_false_iff_ne, ne_eq, Option.some.injEq, Bool.or_false]
        simp only [eq_comm (a := t)]
        simp [ht]
    rw [e]
    exact hend w hinv
def v23 (g N _EL _ccap : Nat) (_cao : Option Addr) (_ec mem rs rr _hop ls0 _mn : Int) : Nat → Value
  | 0 => .pointer (some ⟨g, 2, none⟩)
  | 1 => .int .i64 mem
  | 2 => .int .i64 0
  | 3 => .bool true
  | 4 => .bool true
  | 5 => .int .i64 (N : Int)
  | 6 => .bool true
  | 7 => .bool true
  | 8 => .bool true
  | 9 => .pointer (some ⟨g, 0, none⟩)
  | 10 => .agg #[.int .i64 rs, .int .i64 rr]
  | 11 => .bool true
  | 12 => .bool true
  | 13 => .bool true
  | 14 => .pointer (some ⟨g, 0, none⟩)
  | 15 => .pointer (some ⟨g, 1, none⟩)
  | 16 => .int .i64 rr
  | 17 => .pointer (some ⟨g, 2, none⟩)
  | 18 => .int .i64 mem
  | 19 => .int .i64 ls0
  | 20 => .bool false
  | 21 => .bool false
  | 22 => .bool false
  | 28 => .bool false
  | 29 => .bool false
  | 38 => .bool false
  | 39 => .bool false
  | 46 => .bool false
  | 47 => .bool false
  | _ => undef
set_option maxRecDepth 100000 in
set_option maxHeartbeats 4000000 in
theorem region23 {ops : Array Oper} {id : Nat} {a0 : Act} {w0 : World} {Q : Exit → Act → World → Prop} (g N EL ccap : Nat) (cao : Option Addr) (ec mem rs rr hop ls0 mn : Int)
    (EE : Ops20 ops)
    (hN : ops.size = 48) (hlow : lowB ops = true) (hds : dsts ops = [some 7, some 8, some 9, some 10, some 11, some 12, some 13, some 14, some 15, some 16, some 17, some 18, some 19, some 20, some 21, some 22, some 23, some 24, some 25, some 26, some 27, some 28, some 29, some 30, some 31, some 32, some 33, some 34, some 35, some 36, some 37, some 38, some 39, some 40, some 41, some 42, some 43, some 44, some 45, some 46, some 47, some 48, some 49, some 50, some 51, some 52, some 53, some 2]) (hnd : injB ops = true)
    (hmx : Try.prog.follows .mixedOrders = true) (ha0 : a0.tmps.size = 54) (h1 : a0.tmps.getD 1 undef = .pointer (some ⟨g, 0, none⟩)) (h3 : a0.tmps.getD 3 undef = .int .i64 (N : Int))
    (d0 : w0.cell? ⟨g, 0, none⟩ = some (.int .i64 rs)) (d1 : w0.cell? ⟨g, 1, none⟩ = some (.int .i64 rr)) (d2 : w0.cell? ⟨g, 2, none⟩ = some (.int .i64 mem)) (_d3 : w0.cell? ⟨g, 3, none⟩ = some (.int .i64 hop)) (_d4 : w0.cell? ⟨g, 4, none⟩ = some (.slice cao EL ccap))
    (H0 : ∀ W, Calls Try.prog 137 #[.int .i64 mem] W fun e w' => e = .returned (.int .i64 0) ∧ Mod (fun _ => False) W w')
    (hN0 : decide (0 < (N : Int)) = true)
    (H2 : ∀ W, Calls Try.prog 117 #[.agg #[.int .i64 rs, .int .i64 rr]] W fun e w' => e = .returned (.bool true) ∧ Mod (fun _ => False) W w')
    (H3 : ∀ W, Calls Try.prog 140 #[.int .i64 mem] W fun e w' => e = .returned (.int .i64 ls0) ∧ Mod (fun _ => False) W w') (hlst : (rr == ls0) = false)
    (hend : ∀ w, Mod (fun _ => False) w0.drew w → Q .normal (puts a0 [(7, .pointer (some ⟨g, 2, none⟩)), (8, .int .i64 mem), (9, .int .i64 0), (10, .bool true), (11, .bool true), (12, .int .i64 (N : Int)), (13, .bool true), (14, .bool true), (15, .bool true), (16, .pointer (some ⟨g, 0, none⟩)), (17, .agg #[.int .i64 rs, .int .i64 rr]), (18, .bool true), (19, .bool true), (20, .bool true), (21, .pointer (some ⟨g, 0, none⟩)), (22, .pointer (some ⟨g, 1, none⟩)), (23, .int .i64 rr), (24, .pointer (some ⟨g, 2, none⟩)), (25, .int .i64 mem), (26, .int .i64 ls0), (27, .bool false), (28, .bool false), (29, .bool false), (30, undef), (31, undef), (32, undef), (33, undef), (34, undef), (35, .bool false), (36, .bool false), (37, undef), (38, undef), (39, undef), (40, undef), (41, undef), (42, undef), (43, undef), (44, undef), (45, .bool false), (46, .bool false), (47, undef), (48, undef), (49, undef), (50, undef), (51, undef), (52, undef), (53, .bool false), (2, .bool false)]) w) :
    (Code.region id ops true).wp Try.prog Q a0 w0 := by
  obtain ⟨E0, E1, E2, E3, E4, E5, E6, E7, E8, E9, E10, E11, E12, E13, E14, E15, E16, E17, E18, E19, E20, E21, E22, E23, E24, E25, E26, E27, E28, E29, E30, E31, E32, E33, E34, E35, E36, E37, E38, E39, E40, E41, E42, E43, E44, E45, E46, E47⟩ := EE
  obtain ⟨PP, q, r⟩ : ∃ PP : Nat → Value → World → Prop, (∀ i v w, (fun i' v _ => v = v23 g N EL ccap cao ec mem rs rr hop ls0 mn i') i v w → PP i v w) ∧ (∀ i v w, PP i v w → (fun i' v _ => v = v23 g N EL ccap cao ec mem rs rr hop ls0 mn i') i v w) := ⟨(fun i' v _ => v = v23 g N EL ccap cao ec mem rs rr hop ls0 mn i'), fun _ _ _ h => h, fun _ _ _ h => h⟩
  have D : ∀ {W : World} {a : Addr} {v : Value}, Mod (fun _ => False) w0.drew W → w0.cell? a = some v → W.cell? a = some v := fun hW hc => hW.cell (by simpa using hc) (fun h => h)
  have s0 : S2 ops PP w0 a0 Q 0 := by
    refine E0.stepW fun o hd ho hg hw y w listed hsz hls hun hwt hdown D' R hinv K hK => ?_
    rw [ha0] at hsz
    refine .inl ⟨wanted_none hg, ?_⟩
    have f1 : y.eval (Operand.tmp 1) = .pointer (some ⟨g, 0, none⟩) := (R 1 (not_of (by rw [hds]; decide))).trans h1
    exact wp_value (ox_field ho f1 (flc1 w)) (hK _ _ (Mod.refl _ _) (q _ _ _ rfl) hinv)
  have s1 : S2 ops PP w0 a0 Q 1 := by
    refine E1.stepW fun o hd ho hg hw y w listed hsz hls hun hwt hdown D' R hinv K hK => ?_
    rw [ha0] at hsz
    refine .inl ⟨wanted_none hg, ?_⟩
    have f7 : y.eval (Operand.tmp 7) = .pointer (some ⟨g, 2, none⟩) := r _ _ _ (E0.postW D' (hw 0 (by simp)))
    exact wp_value (ox_load ho f7 (ld1 (D hinv d2))) (hK _ _ (Mod.refl _ _) (q _ _ _ rfl) hinv)
  have s2 : S2 ops PP w0 a0 Q 2 := by
    refine E2.stepW fun o hd ho hg hw y w listed hsz hls hun hwt hdown D' R hinv K hK => ?_
    rw [ha0] at hsz
    refine .inl ⟨wanted_none hg, ?_⟩
    have f8 : y.eval (Operand.tmp 8) = .int .i64 mem := r _ _ _ (E1.postW D' (hw 1 (by simp)))
    refine wp_enter (f := 137) (args := #[.int .i64 mem]) ?_ (H0 w) ?_
    · rw [exec_call1 y.eval (fun args w => by simp [go_sem]) rfl ho, f8]
    · rintro e w' ⟨rfl, hm⟩
      exact ⟨_, rfl, hK _ _ hm (q _ _ _ rfl) (hinv.trans hm (fun _ _ h => h) (fun _ _ h => h))⟩
  have s3 : S2 ops PP w0 a0 Q 3 := by
    refine E3.stepW fun o hd ho hg hw y w listed hsz hls hun hwt hdown D' R hinv K hK => ?_
    rw [ha0] at hsz
    refine .inl ⟨wanted_none hg, ?_⟩
    have f9 : y.eval (Operand.tmp 9) = .int .i64 0 := r _ _ _ (E2.postW D' (hw 2 (by simp)))
    exact wp_value (ox_eql0 ho (fun _ => rfl) f9 rfl) (hK _ _ (Mod.refl _ _) (q _ _ _ rfl) hinv)
  have s4 : S2 ops PP w0 a0 Q 4 := by
    refine E4.stepW fun o hd ho hg hw y w listed hsz hls hun hwt hdown D' R hinv K hK => ?_
    rw [ha0] at hsz
    refine .inl ⟨wanted_none hg, ?_⟩
    have f10 : y.eval (Operand.tmp 10) = .bool true := r _ _ _ (E3.postW D' (hw 3 (by simp)))
    exact wp_value (ox_move ho f10) (hK _ _ (Mod.refl _ _) (q _ _ _ rfl) hinv)
  have s5 : S2 ops PP w0 a0 Q 5 := by
    refine E5.stepW fun o hd ho hg hw y w listed hsz hls hun hwt hdown D' R hinv K hK => ?_
    rw [ha0] at hsz
    refine .inl ⟨wanted_yes E4 hg (by rw [hsz]; decide) (r _ _ _ (E4.postW D' (hw 4 (by simp)))), ?_⟩
    have f3 : y.eval (Operand.tmp 3) = .int .i64 (N : Int) := (R 3 (not_of (by rw [hds]; decide))).trans h3
    exact wp_value (ox_move ho f3) (hK _ _ (Mod.refl _ _) (q _ _ _ rfl) hinv)
  have s6 : S2 ops PP w0 a0 Q 6 := by
    refine E6.stepW fun o hd ho hg hw y w listed hsz hls hun hwt hdown D' R hinv K hK => ?_
    rw [ha0] at hsz
    refine .inl ⟨wanted_yes E4 hg (by rw [hsz]; decide) (r _ _ _ (E4.postW D' (hw 4 (by simp)))), ?_⟩
    have f12 : y.eval (Operand.tmp 12) = .int .i64 (N : Int) := r _ _ _ (E5.postW D' (hw 5 (by simp)))
    exact wp_value (ox_gtr0 ho (fun _ => rfl) f12 hN0) (hK _ _ (Mod.refl _ _) (q _ _ _ rfl) hinv)
  have s7 : S2 ops PP w0 a0 Q 7 := by
    refine E7.stepW fun o hd ho hg hw y w listed hsz hls hun hwt hdown D' R hinv K hK => ?_
    rw [ha0] at hsz
    refine .inl ⟨wanted_none hg, ?_⟩
    have f11 : y.eval (Operand.tmp 11) = .bool true := r _ _ _ (E4.postW D' (hw 4 (by simp)))
    have f13 : y.eval (Operand.tmp 13) = .bool true := r _ _ _ (E6.postW D' (hw 6 (by simp)))
    exact wp_value (ox_pick ho f11 f13) (hK _ _ (Mod.refl _ _) (q _ _ _ rfl) hinv)
  have s8 : S2 ops PP w0 a0 Q 8 := by
    refine E8.stepW fun o hd ho hg hw y w listed hsz hls hun hwt hdown D' R hinv K hK => ?_
    rw [ha0] at hsz
    refine .inl ⟨wanted_none hg, ?_⟩
    have f14 : y.eval (Operand.tmp 14) = .bool true := r _ _ _ (E7.postW D' (hw 7 (by simp)))
    exact wp_value (ox_move ho f14) (hK _ _ (Mod.refl _ _) (q _ _ _ rfl) hinv)
  have s9 : S2 ops PP w0 a0 Q 9 := by
    refine E9.stepW fun o hd ho hg hw y w listed hsz hls hun hwt hdown D' R hinv K hK => ?_
    rw [ha0] at hsz
    refine .inl ⟨wanted_yes E8 hg (by rw [hsz]; decide) (r _ _ _ (E8.postW D' (hw 8 (by simp)))), ?_⟩
    have f1 : y.eval (Operand.tmp 1) = .pointer (some ⟨g, 0, none⟩) := (R 1 (not_of (by rw [hds]; decide))).trans h1
    exact wp_value (ox_field ho f1 (flc0 w)) (hK _ _ (Mod.refl _ _) (q _ _ _ rfl) hinv)
  have s10 : S2 ops PP w0 a0 Q 10 := by
    refine E10.stepW fun o hd ho hg hw y w listed hsz hls hun hwt hdown D' R hinv K hK => ?_
    rw [ha0] at hsz
    refine .inl ⟨wanted_yes E8 hg (by rw [hsz]; decide) (r _ _ _ (E8.postW D' (hw 8 (by simp)))), ?_⟩
    have f16 : y.eval (Operand.tmp 16) = .pointer (some ⟨g, 0, none⟩) := r _ _ _ (E9.postW D' (hw 9 (by simp)))
    exact wp_value (ox_load ho f16 (ld2 (D hinv d0) (D hinv d1))) (hK _ _ (Mod.refl _ _) (q _ _ _ rfl) hinv)
  have s11 : S2 ops PP w0 a0 Q 11 := by
    refine E11.stepW fun o hd ho hg hw y w listed hsz hls hun hwt hdown D' R hinv K hK => ?_
    rw [ha0] at hsz
    refine .inl ⟨wanted_yes E8 hg (by rw [hsz]; decide) (r _ _ _ (E8.postW D' (hw 8 (by simp)))), ?_⟩
    have f17 : y.eval (Operand.tmp 17) = .agg #[.int .i64 rs, .int .i64 rr] := r _ _ _ (E10.postW D' (hw 10 (by simp)))
    refine wp_enter (f := 117) (args := #[.agg #[.int .i64 rs, .int .i64 rr]]) ?_ (H2 w) ?_
    · rw [exec_call1 y.eval (fun args w => by simp [go_sem]) rfl ho, f17]
    · rintro e w' ⟨rfl, hm⟩
      exact ⟨_, rfl, hK _ _ hm (q _ _ _ rfl) (hinv.trans hm (fun _ _ h => h) (fun _ _ h => h))⟩
  have s12 : S2 ops PP w0 a0 Q 12 := by
    refine E12.stepW fun o hd ho hg hw y w listed hsz hls hun hwt hdown D' R hinv K hK => ?_
    rw [ha0] at hsz
    refine .inl ⟨wanted_none hg, ?_⟩
    have f15 : y.eval (Operand.tmp 15) = .bool true := r _ _ _ (E8.postW D' (hw 8 (by simp)))
    have f18 : y.eval (Operand.tmp 18) = .bool true := r _ _ _ (E11.postW D' (hw 11 (by simp)))
    exact wp_value (ox_pick ho f15 f18) (hK _ _ (Mod.refl _ _) (q _ _ _ rfl) hinv)
  have s13 : S2 ops PP w0 a0 Q 13 := by
    refine E13.stepW fun o hd ho hg hw y w listed hsz hls hun hwt hdown D' R hinv K hK => ?_
    rw [ha0] at hsz
    refine .inl ⟨wanted_none hg, ?_⟩
    have f19 : y.eval (Operand.tmp 19) = .bool true := r _ _ _ (E12.postW D' (hw 12 (by simp)))
    exact wp_value (ox_move ho f19) (hK _ _ (Mod.refl _ _) (q _ _ _ rfl) hinv)
  have s14 : S2 ops PP w0 a0 Q 14 := by
    refine E14.stepW fun o hd ho hg hw y w listed hsz hls hun hwt hdown D' R hinv K hK => ?_
    rw [ha0] at hsz
    refine .inl ⟨wanted_yes E13 hg (by rw [hsz]; decide) (r _ _ _ (E13.postW D' (hw 13 (by simp)))), ?_⟩
    have f1 : y.eval (Operand.tmp 1) = .pointer (some ⟨g, 0, none⟩) := (R 1 (not_of (by rw [hds]; decide))).trans h1
    exact wp_value (ox_field ho f1 (flc0 w)) (hK _ _ (Mod.refl _ _) (q _ _ _ rfl) hinv)
  have s15 : S2 ops PP w0 a0 Q 15 := by
    refine E15.stepW fun o hd ho hg hw y w listed hsz hls hun hwt hdown D' R hinv K hK => ?_
    rw [ha0] at hsz
    refine .inl ⟨wanted_yes E13 hg (by rw [hsz]; decide) (r _ _ _ (E13.postW D' (hw 13 (by simp)))), ?_⟩
    have f21 : y.eval (Operand.tmp 21) = .pointer (some ⟨g, 0, none⟩) := r _ _ _ (E14.postW D' (hw 14 (by simp)))
    exact wp_value (ox_field ho f21 (flr1 w)) (hK _ _ (Mod.refl _ _) (q _ _ _ rfl) hinv)
  have s16 : S2 ops PP w0 a0 Q 16 := by
    refine E16.stepW fun o hd ho hg hw y w listed hsz hls hun hwt hdown D' R hinv K hK => ?_
    rw [ha0] at hsz
    refine .inl ⟨wanted_yes E13 hg (by rw [hsz]; decide) (r _ _ _ (E13.postW D' (hw 13 (by simp)))), ?_⟩
    have f22 : y.eval (Operand.tmp 22) = .pointer (some ⟨g, 1, none⟩) := r _ _ _ (E15.postW D' (hw 15 (by simp)))
    exact wp_value (ox_load ho f22 (ld1 (D hinv d1))) (hK _ _ (Mod.refl _ _) (q _ _ _ rfl) hinv)
  have s17 : S2 ops PP w0 a0 Q 17 := by
    refine E17.stepW fun o hd ho hg hw y w listed hsz hls hun hwt hdown D' R hinv K hK => ?_
    rw [ha0] at hsz
    refine .inl ⟨wanted_yes E13 hg (by rw [hsz]; decide) (r _ _ _ (E13.postW D' (hw 13 (by simp)))), ?_⟩
    have f1 : y.eval (Operand.tmp 1) = .pointer (some ⟨g, 0, none⟩) := (R 1 (not_of (by rw [hds]; decide))).trans h1
    exact wp_value (ox_field ho f1 (flc1 w)) (hK _ _ (Mod.refl _ _) (q _ _ _ rfl) hinv)
  have s18 : S2 ops PP w0 a0 Q 18 := by
    refine E18.stepW fun o hd ho hg hw y w listed hsz hls hun hwt hdown D' R hinv K hK => ?_
    rw [ha0] at hsz
    refine .inl ⟨wanted_yes E13 hg (by rw [hsz]; decide) (r _ _ _ (E13.postW D' (hw 13 (by simp)))), ?_⟩
    have f24 : y.eval (Operand.tmp 24) = .pointer (some ⟨g, 2, none⟩) := r _ _ _ (E17.postW D' (hw 17 (by simp)))
    exact wp_value (ox_load ho f24 (ld1 (D hinv d2))) (hK _ _ (Mod.refl _ _) (q _ _ _ rfl) hinv)
  have s19 : S2 ops PP w0 a0 Q 19 := by
    refine E19.stepW fun o hd ho hg hw y w listed hsz hls hun hwt hdown D' R hinv K hK => ?_
    rw [ha0] at hsz
    refine .inl ⟨wanted_yes E13 hg (by rw [hsz]; decide) (r _ _ _ (E13.postW D' (hw 13 (by simp)))), ?_⟩
    have f25 : y.eval (Operand.tmp 25) = .int .i64 mem := r _ _ _ (E18.postW D' (hw 18 (by simp)))
    refine wp_enter (f := 140) (args := #[.int .i64 mem]) ?_ (H3 w) ?_
    · rw [exec_call1 y.eval (fun args w => by simp [go_sem]) rfl ho, f25]
    · rintro e w' ⟨rfl, hm⟩
      exact ⟨_, rfl, hK _ _ hm (q _ _ _ rfl) (hinv.trans hm (fun _ _ h => h) (fun _ _ h => h))⟩
  have s20 : S2 ops PP w0 a0 Q 20 := by
    refine E20.stepW fun o hd ho hg hw y w listed hsz hls hun hwt hdown D' R hinv K hK => ?_
    rw [ha0] at hsz
    refine .inl ⟨wanted_yes E13 hg (by rw [hsz]; decide) (r _ _ _ (E13.postW D' (hw 13 (by simp)))), ?_⟩
    have f23 : y.eval (Operand.tmp 23) = .int .i64 rr := r _ _ _ (E16.postW D' (hw 16 (by simp)))
    have f26 : y.eval (Operand.tmp 26) = .int .i64 ls0 := r _ _ _ (E19.postW D' (hw 19 (by simp)))
    exact wp_value (ox_eql ho f23 f26 hlst) (hK _ _ (Mod.refl _ _) (q _ _ _ rfl) hinv)
  have s21 : S2 ops PP w0 a0 Q 21 := by
    refine E21.stepW fun o hd ho hg hw y w listed hsz hls hun hwt hdown D' R hinv K hK => ?_
    rw [ha0] at hsz
    refine .inl ⟨wanted_none hg, ?_⟩
    have f20 : y.eval (Operand.tmp 20) = .bool true := r _ _ _ (E13.postW D' (hw 13 (by simp)))
    have f27 : y.eval (Operand.tmp 27) = .bool false := r _ _ _ (E20.postW D' (hw 20 (by simp)))
    exact wp_value (ox_pick ho f20 f27) (hK _ _ (Mod.refl _ _) (q _ _ _ rfl) hinv)
  have s22 : S2 ops PP w0 a0 Q 22 := by
    refine E22.stepW fun o hd ho hg hw y w listed hsz hls hun hwt hdown D' R hinv K hK => ?_
    rw [ha0] at hsz
    refine .inl ⟨wanted_none hg, ?_⟩
    have f28 : y.eval (Operand.tmp 28) = .bool false := r _ _ _ (E21.postW D' (hw 21 (by simp)))
    exact wp_value (ox_move ho f28) (hK _ _ (Mod.refl _ _) (q _ _ _ rfl) hinv)
  have s23 : S2 ops PP w0 a0 Q 23 := by
    refine E23.stepW fun o hd ho hg hw y w listed hsz hls hun hwt hdown D' R hinv K hK => ?_
    rw [ha0] at hsz
    exact .inr ⟨wanted_no E22 hg (by rw [hsz]; decide) (r _ _ _ (E22.postW D' (hw 22 (by simp)))), hK _ _ (Mod.refl _ _) (q _ _ _ rfl) hinv⟩
  have s24 : S2 ops PP w0 a0 Q 24 := by
    refine E24.stepW fun o hd ho hg hw y w listed hsz hls hun hwt hdown D' R hinv K hK => ?_
    rw [ha0] at hsz
    exact .inr ⟨wanted_no E22 hg (by rw [hsz]; decide) (r _ _ _ (E22.postW D' (hw 22 (by simp)))), hK _ _ (Mod.refl _ _) (q _ _ _ rfl) hinv⟩
  have s25 : S2 ops PP w0 a0 Q 25 := by
    refine E25.stepW fun o hd ho hg hw y w listed hsz hls hun hwt hdown D' R hinv K hK => ?_
    rw [ha0] at hsz
    exact .inr ⟨wanted_no E22 hg (by rw [hsz]; decide) (r _ _ _ (E22.postW D' (hw 22 (by simp)))), hK _ _ (Mod.refl _ _) (q _ _ _ rfl) hinv⟩
  have s26 : S2 ops PP w0 a0 Q 26 := by
    refine E26.stepW fun o hd ho hg hw y w listed hsz hls hun hwt hdown D' R hinv K hK => ?_
    rw [ha0] at hsz
    exact .inr ⟨wanted_no E22 hg (by rw [hsz]; decide) (r _ _ _ (E22.postW D' (hw 22 (by simp)))), hK _ _ (Mod.refl _ _) (q _ _ _ rfl) hinv⟩
  have s27 : S2 ops PP w0 a0 Q 27 := by
    refine E27.stepW fun o hd ho hg hw y w listed hsz hls hun hwt hdown D' R hinv K hK => ?_
    rw [ha0] at hsz
    exact .inr ⟨wanted_no E22 hg (by rw [hsz]; decide) (r _ _ _ (E22.postW D' (hw 22 (by simp)))), hK _ _ (Mod.refl _ _) (q _ _ _ rfl) hinv⟩
  have s28 : S2 ops PP w0 a0 Q 28 := by
    refine E28.stepW fun o hd ho hg hw y w listed hsz hls hun hwt hdown D' R hinv K hK => ?_
    rw [ha0] at hsz
    refine .inl ⟨wanted_none hg, ?_⟩
    have f29 : y.eval (Operand.tmp 29) = .bool false := r _ _ _ (E22.postW D' (hw 22 (by simp)))
    have f34 : y.eval (Operand.tmp 34) = undef := r _ _ _ (E27.postW D' (hw 27 (by simp)))
    exact wp_value (ox_pick ho f29 rfl) (hK _ _ (Mod.refl _ _) (q _ _ _ rfl) hinv)
  have s29 : S2 ops PP w0 a0 Q 29 := by
    refine E29.stepW fun o hd ho hg hw y w listed hsz hls hun hwt hdown D' R hinv K hK => ?_
    rw [ha0] at hsz
    refine .inl ⟨wanted_none hg, ?_⟩
    have f35 : y.eval (Operand.tmp 35) = .bool false := r _ _ _ (E28.postW D' (hw 28 (by simp)))
    exact wp_value (ox_move ho f35) (hK _ _ (Mod.refl _ _) (q _ _ _ rfl) hinv)
  have s30 : S2 ops PP w0 a0 Q 30 := by
    refine E30.stepW fun o hd ho hg hw y w listed hsz hls hun hwt hdown D' R hinv K hK => ?_
    rw [ha0] at hsz
    exact .inr ⟨wanted_no E29 hg (by rw [hsz]; decide) (r _ _ _ (E29.postW D' (hw 29 (by simp)))), hK _ _ (Mod.refl _ _) (q _ _ _ rfl) hinv⟩
  have s31 : S2 ops PP w0 a0 Q 31 := by
    refine E31.stepW fun o hd ho hg hw y w listed hsz hls hun hwt hdown D' R hinv K hK => ?_
    rw [ha0] at hsz
    exact .inr ⟨wanted_no E29 hg (by rw [hsz]; decide) (r _ _ _ (E29.postW D' (hw 29 (by simp)))), hK _ _ (Mod.refl _ _) (q _ _ _ rfl) hinv⟩
  have s32 : S2 ops PP w0 a0 Q 32 := by
    refine E32.stepW fun o hd ho hg hw y w listed hsz hls hun hwt hdown D' R hinv K hK => ?_
    rw [ha0] at hsz
    exact .inr ⟨wanted_no E29 hg (by rw [hsz]; decide) (r _ _ _ (E29.postW D' (hw 29 (by simp)))), hK _ _ (Mod.refl _ _) (q _ _ _ rfl) hinv⟩
  have s33 : S2 ops PP w0 a0 Q 33 := by
    refine E33.stepW fun o hd ho hg hw y w listed hsz hls hun hwt hdown D' R hinv K hK => ?_
    rw [ha0] at hsz
    exact .inr ⟨wanted_no E29 hg (by rw [hsz]; decide) (r _ _ _ (E29.postW D' (hw 29 (by simp)))), hK _ _ (Mod.refl _ _) (q _ _ _ rfl) hinv⟩
  have s34 : S2 ops PP w0 a0 Q 34 := by
    refine E34.stepW fun o hd ho hg hw y w listed hsz hls hun hwt hdown D' R hinv K hK => ?_
    rw [ha0] at hsz
    exact .inr ⟨wanted_no E29 hg (by rw [hsz]; decide) (r _ _ _ (E29.postW D' (hw 29 (by simp)))), hK _ _ (Mod.refl _ _) (q _ _ _ rfl) hinv⟩
  have s35 : S2 ops PP w0 a0 Q 35 := by
    refine E35.stepW fun o hd ho hg hw y w listed hsz hls hun hwt hdown D' R hinv K hK => ?_
    rw [ha0] at hsz
    exact .inr ⟨wanted_no E29 hg (by rw [hsz]; decide) (r _ _ _ (E29.postW D' (hw 29 (by simp)))), hK _ _ (Mod.refl _ _) (q _ _ _ rfl) hinv⟩
  have s36 : S2 ops PP w0 a0 Q 36 := by
    refine E36.stepW fun o hd ho hg hw y w listed hsz hls hun hwt hdown D' R hinv K hK => ?_
    rw [ha0] at hsz
    exact .inr ⟨wanted_no E29 hg (by rw [hsz]; decide) (r _ _ _ (E29.postW D' (hw 29 (by simp)))), hK _ _ (Mod.refl _ _) (q _ _ _ rfl) hinv⟩
  have s37 : S2 ops PP w0 a0 Q 37 := by
    refine E37.stepW fun o hd ho hg hw y w listed hsz hls hun hwt hdown D' R hinv K hK => ?_
    rw [ha0] at hsz
    exact .inr ⟨wanted_no E29 hg (by rw [hsz]; decide) (r _ _ _ (E29.postW D' (hw 29 (by simp)))), hK _ _ (Mod.refl _ _) (q _ _ _ rfl) hinv⟩
  have s38 : S2 ops PP w0 a0 Q 38 := by
    refine E38.stepW fun o hd ho hg hw y w listed hsz hls hun hwt hdown D' R hinv K hK => ?_
    rw [ha0] at hsz
    refine .inl ⟨wanted_none hg, ?_⟩
    have f36 : y.eval (Operand.tmp 36) = .bool false := r _ _ _ (E29.postW D' (hw 29 (by simp)))
    have f44 : y.eval (Operand.tmp 44) = undef := r _ _ _ (E37.postW D' (hw 37 (by simp)))
    exact wp_value (ox_pick ho f36 rfl) (hK _ _ (Mod.refl _ _) (q _ _ _ rfl) hinv)
  have s39 : S2 ops PP w0 a0 Q 39 := by
    refine E39.stepW fun o hd ho hg hw y w listed hsz hls hun hwt hdown D' R hinv K hK => ?_
    rw [ha0] at hsz
    refine .inl ⟨wanted_none hg, ?_⟩
    have f45 : y.eval (Operand.tmp 45) = .bool false := r _ _ _ (E38.postW D' (hw 38 (by simp)))
    exact wp_value (ox_move ho f45) (hK _ _ (Mod.refl _ _) (q _ _ _ rfl) hinv)
  have s40 : S2 ops PP w0 a0 Q 40 := by
    refine E40.stepW fun o hd ho hg hw y w listed hsz hls hun hwt hdown D' R hinv K hK => ?_
    rw [ha0] at hsz
    exact .inr ⟨wanted_no E39 hg (by rw [hsz]; decide) (r _ _ _ (E39.postW D' (hw 39 (by simp)))), hK _ _ (Mod.refl _ _) (q _ _ _ rfl) hinv⟩
  have s41 : S2 ops PP w0 a0 Q 41 := by
    refine E41.stepW fun o hd ho hg hw y w listed hsz hls hun hwt hdown D' R hinv K hK => ?_
    rw [ha0] at hsz
    exact .inr ⟨wanted_no E39 hg (by rw [hsz]; decide) (r _ _ _ (E39.postW D' (hw 39 (by simp)))), hK _ _ (Mod.refl _ _) (q _ _ _ rfl) hinv⟩
  have s42 : S2 ops PP w0 a0 Q 42 := by
    refine E42.stepW fun o hd ho hg hw y w listed hsz hls hun hwt hdown D' R hinv K hK => ?_
    rw [ha0] at hsz
    exact .inr ⟨wanted_no E39 hg (by rw [hsz]; decide) (r _ _ _ (E39.postW D' (hw 39 (by simp)))), hK _ _ (Mod.refl _ _) (q _ _ _ rfl) hinv⟩
  have s43 : S2 ops PP w0 a0 Q 43 := by
    refine E43.stepW fun o hd ho hg hw y w listed hsz hls hun hwt hdown D' R hinv K hK => ?_
    rw [ha0] at hsz
    exact .inr ⟨wanted_no E39 hg (by rw [hsz]; decide) (r _ _ _ (E39.postW D' (hw 39 (by simp)))), hK _ _ (Mod.refl _ _) (q _ _ _ rfl) hinv⟩
  have s44 : S2 ops PP w0 a0 Q 44 := by
    refine E44.stepW fun o hd ho hg hw y w listed hsz hls hun hwt hdown D' R hinv K hK => ?_
    rw [ha0] at hsz
    exact .inr ⟨wanted_no E39 hg (by rw [hsz]; decide) (r _ _ _ (E39.postW D' (hw 39 (by simp)))), hK _ _ (Mod.refl _ _) (q _ _ _ rfl) hinv⟩
  have s45 : S2 ops PP w0 a0 Q 45 := by
    refine E45.stepW fun o hd ho hg hw y w listed hsz hls hun hwt hdown D' R hinv K hK => ?_
    rw [ha0] at hsz
    exact .inr ⟨wanted_no E39 hg (by rw [hsz]; decide) (r _ _ _ (E39.postW D' (hw 39 (by simp)))), hK _ _ (Mod.refl _ _) (q _ _ _ rfl) hinv⟩
  have s46 : S2 ops PP w0 a0 Q 46 := by
    refine E46.stepW fun o hd ho hg hw y w listed hsz hls hun hwt hdown D' R hinv K hK => ?_
    rw [ha0] at hsz
    refine .inl ⟨wanted_none hg, ?_⟩
    have f46 : y.eval (Operand.tmp 46) = .bool false := r _ _ _ (E39.postW D' (hw 39 (by simp)))
    have f52 : y.eval (Operand.tmp 52) = undef := r _ _ _ (E45.postW D' (hw 45 (by simp)))
    exact wp_value (ox_pick ho f46 rfl) (hK _ _ (Mod.refl _ _) (q _ _ _ rfl) hinv)
  have s47 : S2 ops PP w0 a0 Q 47 := by
    refine E47.stepW fun o hd ho hg hw y w listed hsz hls hun hwt hdown D' R hinv K hK => ?_
    rw [ha0] at hsz
    refine .inl ⟨wanted_none hg, ?_⟩
    have f53 : y.eval (Operand.tmp 53) = .bool false := r _ _ _ (E46.postW D' (hw 46 (by simp)))
    exact wp_value (ox_assign ho f53) (hK _ _ (Mod.refl _ _) (q _ _ _ rfl) hinv)
  have stab : ∀ i v w w', Mod (fun _ => False) w w' → PP i v w → PP i v w' := fun _ _ _ _ _ h => q _ _ _ (r _ _ _ h)
  refine region_freeW (Post := PP) (Inv := M0 w0) hmx (low_of hlow) (fun i o ho => by rw [ha0]; exact dst_of (by rw [hds]; decide) i o ho) (inj_of hnd) (Mod.refl _ _) stab ?_ ?_
  · intro i o ho
    have hi : i < 48 := by
      rw [← hN]
      rcases Nat.lt_or_ge i ops.size with h | h
      · exact h
      · rw [Array.getElem?_eq_none h] at ho; cases ho
    clear hend
    match i, hi with
    | 0, _ => exact s0 o ho
    | 1, _ => exact s1 o ho
    | 2, _ => exact s2 o ho
    | 3, _ => exact s3 o ho
    | 4, _ => exact s4 o ho
    | 5, _ => exact s5 o ho
    | 6, _ => exact s6 o ho
    | 7, _ => exact s7 o ho
    | 8, _ => exact s8 o ho
    | 9, _ => exact s9 o ho
    | 10, _ => exact s10 o ho
    | 11, _ => exact s11 o ho
    | 12, _ => exact s12 o ho
    | 13, _ => exact s13 o ho
    | 14, _ => exact s14 o ho
    | 15, _ => exact s15 o ho
    | 16, _ => exact s16 o ho
    | 17, _ => exact s17 o ho
    | 18, _ => exact s18 o ho
    | 19, _ => exact s19 o ho
    | 20, _ => exact s20 o ho
    | 21, _ => exact s21 o ho
    | 22, _ => exact s22 o ho
    | 23, _ => exact s23 o ho
    | 24, _ => exact s24 o ho
    | 25, _ => exact s25 o ho
    | 26, _ => exact s26 o ho
    | 27, _ => exact s27 o ho
    | 28, _ => exact s28 o ho
    | 29, _ => exact s29 o ho
    | 30, _ => exact s30 o ho
    | 31, _ => exact s31 o ho
    | 32, _ => exact s32 o ho
    | 33, _ => exact s33 o ho
    | 34, _ => exact s34 o ho
    | 35, _ => exact s35 o ho
    | 36, _ => exact s36 o ho
    | 37, _ => exact s37 o ho
    | 38, _ => exact s38 o ho
    | 39, _ => exact s39 o ho
    | 40, _ => exact s40 o ho
    | 41, _ => exact s41 o ho
    | 42, _ => exact s42 o ho
    | 43, _ => exact s43 o ho
    | 44, _ => exact s44 o ho
    | 45, _ => exact s45 o ho
    | 46, _ => exact s46 o ho
    | 47, _ => exact s47 o ho
    | i + 48, hi => omega
  · intro y w listed hsz hdf hls hall hinv hp hr
    have e : y = puts a0 [(7, .pointer (some ⟨g, 2, none⟩)), (8, .int .i64 mem), (9, .int .i64 0), (10, .bool true), (11, .bool true), (12, .int .i64 (N : Int)), (13, .bool true), (14, .bool true), (15, .bool true), (16, .pointer (some ⟨g, 0, none⟩)), (17, .agg #[.int .i64 rs, .int .i64 rr]), (18, .bool true), (19, .bool true), (20, .bool true), (21, .pointer (some ⟨g, 0, none⟩)), (22, .pointer (some ⟨g, 1, none⟩)), (23, .int .i64 rr), (24, .pointer (some ⟨g, 2, none⟩)), (25, .int .i64 mem), (26, .int .i64 ls0), (27, .bool false), (28, .bool false), (29, .bool false), (30, undef), (31, undef), (32, undef), (33, undef), (34, undef), (35, .bool false), (36, .bool false), (37, undef), (38, undef), (39, undef), (40, undef), (41, undef), (42, undef), (43, undef), (44, undef), (45, .bool false), (46, .bool false), (47, undef), (48, undef), (49, undef), (50, undef), (51, undef), (52, undef), (53, .bool false), (2, .bool false)] := by
      refine eq_puts hsz hdf (nodup_of (D := [some 7, some 8, some 9, some 10, some 11, some 12, some 13, some 14, some 15, some 16, some 17, some 18, some 19, some 20, some 21, some 22, some 23, some 24, some 25, some 26, some 27, some 28, some 29, some 30, some 31, some 32, some 33, some 34, some 35, some 36, some 37, some 38, some 39, some 40, some 41, some 42, some 43, some 44, some 45, some 46, some 47, some 48, some 49, some 50, some 51, some 52, some 53, some 2]) rfl (by decide)) (by rw [ha0]; simp) ?_ ?_
      · intro q hq
        simp only [List.mem_cons, List.not_mem_nil, or_false] at hq
        rcases hq with rfl | rfl | rfl | rfl | rfl | rfl | rfl | rfl | rfl | rfl | rfl | rfl | rfl | rfl | rfl | rfl | rfl | rfl | rfl | rfl | rfl | rfl | rfl | rfl | rfl | rfl | rfl | rfl | rfl | rfl | rfl | rfl | rfl | rfl | rfl | rfl | rfl | rfl | rfl | rfl | rfl | rfl | rfl | rfl | rfl | rfl | rfl | rfl
        · obtain ⟨o, h1, h2, _⟩ := E0.ex; exact r _ _ _ (hp 0 o _ h1 h2)
        · obtain ⟨o, h1, h2, _⟩ := E1.ex; exact r _ _ _ (hp 1 o _ h1 h2)
        · obtain ⟨o, h1, h2, _⟩ := E2.ex; exact r _ _ _ (hp 2 o _ h1 h2)
        · obtain ⟨o, h1, h2, _⟩ := E3.ex; exact r _ _ _ (hp 3 o _ h1 h2)
        · obtain ⟨o, h1, h2, _⟩ := E4.ex; exact r _ _ _ (hp 4 o _ h1 h2)
        · obtain ⟨o, h1, h2, _⟩ := E5.ex; exact r _ _ _ (hp 5 o _ h1 h2)
        · obtain ⟨o, h1, h2, _⟩ := E6.ex; exact r _ _ _ (hp 6 o _ h1 h2)
        · obtain ⟨o, h1, h2, _⟩ := E7.ex; exact r _ _ _ (hp 7 o _ h1 h2)
        · obtain ⟨o, h1, h2, _⟩ := E8.ex; exact r _ _ _ (hp 8 o _ h1 h2)
        · obtain ⟨o, h1, h2, _⟩ := E9.ex; exact r _ _ _ (hp 9 o _ h1 h2)
        · obtain ⟨o, h1, h2, _⟩ := E10.ex; exact r _ _ _ (hp 10 o _ h1 h2)
        · obtain ⟨o, h1, h2, _⟩ := E11.ex; exact r _ _ _ (hp 11 o _ h1 h2)
        · obtain ⟨o, h1, h2, _⟩ := E12.ex; exact r _ _ _ (hp 12 o _ h1 h2)
        · obtain ⟨o, h1, h2, _⟩ := E13.ex; exact r _ _ _ (hp 13 o _ h1 h2)
        · obtain ⟨o, h1, h2, _⟩ := E14.ex; exact r _ _ _ (hp 14 o _ h1 h2)
        · obtain ⟨o, h1, h2, _⟩ := E15.ex; exact r _ _ _ (hp 15 o _ h1 h2)
        · obtain ⟨o, h1, h2, _⟩ := E16.ex; exact r _ _ _ (hp 16 o _ h1 h2)
        · obtain ⟨o, h1, h2, _⟩ := E17.ex; exact r _ _ _ (hp 17 o _ h1 h2)
        · obtain ⟨o, h1, h2, _⟩ := E18.ex; exact r _ _ _ (hp 18 o _ h1 h2)
        · obtain ⟨o, h1, h2, _⟩ := E19.ex; exact r _ _ _ (hp 19 o _ h1 h2)
        · obtain ⟨o, h1, h2, _⟩ := E20.ex; exact r _ _ _ (hp 20 o _ h1 h2)
        · obtain ⟨o, h1, h2, _⟩ := E21.ex; exact r _ _ _ (hp 21 o _ h1 h2)
        · obtain ⟨o, h1, h2, _⟩ := E22.ex; exact r _ _ _ (hp 22 o _ h1 h2)
        · obtain ⟨o, h1, h2, _⟩ := E23.ex; exact r _ _ _ (hp 23 o _ h1 h2)
        · obtain ⟨o, h1, h2, _⟩ := E24.ex; exact r _ _ _ (hp 24 o _ h1 h2)
        · obtain ⟨o, h1, h2, _⟩ := E25.ex; exact r _ _ _ (hp 25 o _ h1 h2)
        · obtain ⟨o, h1, h2, _⟩ := E26.ex; exact r _ _ _ (hp 26 o _ h1 h2)
        · obtain ⟨o, h1, h2, _⟩ := E27.ex; exact r _ _ _ (hp 27 o _ h1 h2)
        · obtain ⟨o, h1, h2, _⟩ := E28.ex; exact r _ _ _ (hp 28 o _ h1 h2)
        · obtain ⟨o, h1, h2, _⟩ := E29.ex; exact r _ _ _ (hp 29 o _ h1 h2)
        · obtain ⟨o, h1, h2, _⟩ := E30.ex; exact r _ _ _ (hp 30 o _ h1 h2)
        · obtain ⟨o, h1, h2, _⟩ := E31.ex; exact r _ _ _ (hp 31 o _ h1 h2)
        · obtain ⟨o, h1, h2, _⟩ := E32.ex; exact r _ _ _ (hp 32 o _ h1 h2)
        · obtain ⟨o, h1, h2, _⟩ := E33.ex; exact r _ _ _ (hp 33 o _ h1 h2)
        · obtain ⟨o, h1, h2, _⟩ := E34.ex; exact r _ _ _ (hp 34 o _ h1 h2)
        · obtain ⟨o, h1, h2, _⟩ := E35.ex; exact r _ _ _ (hp 35 o _ h1 h2)
        · obtain ⟨o, h1, h2, _⟩ := E36.ex; exact r _ _ _ (hp 36 o _ h1 h2)
        · obtain ⟨o, h1, h2, _⟩ := E37.ex; exact r _ _ _ (hp 37 o _ h1 h2)
        · obtain ⟨o, h1, h2, _⟩ := E38.ex; exact r _ _ _ (hp 38 o _ h1 h2)
        · obtain ⟨o, h1, h2, _⟩ := E39.ex; exact r _ _ _ (hp 39 o _ h1 h2)
        · obtain ⟨o, h1, h2, _⟩ := E40.ex; exact r _ _ _ (hp 40 o _ h1 h2)
        · obtain ⟨o, h1, h2, _⟩ := E41.ex; exact r _ _ _ (hp 41 o _ h1 h2)
        · obtain ⟨o, h1, h2, _⟩ := E42.ex; exact r _ _ _ (hp 42 o _ h1 h2)
        · obtain ⟨o, h1, h2, _⟩ := E43.ex; exact r _ _ _ (hp 43 o _ h1 h2)
        · obtain ⟨o, h1, h2, _⟩ := E44.ex; exact r _ _ _ (hp 44 o _ h1 h2)
        · obtain ⟨o, h1, h2, _⟩ := E45.ex; exact r _ _ _ (hp 45 o _ h1 h2)
        · obtain ⟨o, h1, h2, _⟩ := E46.ex; exact r _ _ _ (hp 46 o _ h1 h2)
        · obtain ⟨o, h1, h2, _⟩ := E47.ex; exact r _ _ _ (hp 47 o _ h1 h2)
      · intro t ht
        refine hr t (not_of ?_)
        rw [hds]
        simp only [List.mem_cons, List.not_mem_nil, or_false, forall_eq_or_imp, forall_eq] at ht
        simp only [List.contains_cons, List.contains_nil, Bool.or_eq_false_iff, beq_eq_false_iff_ne, ne_eq, Option.some.injEq, Bool.or_false]
        simp only [eq_comm (a := t)]
        simp [ht]
    rw [e]
    exact hend w hinv
def v24 (g N _EL _ccap : Nat) (_cao : Option Addr) (_ec mem rs rr hop ls0 _mn : Int) : Nat → Value
  | 0 => .pointer (some ⟨g, 2, none⟩)
  | 1 => .int .i64 mem
  | 2 => .int .i64 0
  | 3 => .bool true
  | 4 => .bool true
  | 5 => .int .i64 (N : Int)
  | 6 => .bool true
  | 7 => .bool true
  | 8 => .bool true
  | 9 => .pointer (some ⟨g, 0, none⟩)
  | 10 => .agg #[.int .i64 rs, .int .i64 rr]
  | 11 => .bool true
  | 12 => .bool true
  | 13 => .bool true
  | 14 => .pointer (some ⟨g, 0, none⟩)
  | 15 => .pointer (some ⟨g, 1, none⟩)
  | 16 => .int .i64 rr
  | 17 => .pointer (some ⟨g, 2, none⟩)
  | 18 => .int .i64 mem
  | 19 => .int .i64 ls0
  | 20 => .bool true
  | 21 => .bool true
  | 22 => .bool true
  | 23 => .pointer (some ⟨g, 3, none⟩)
  | 24 => .int .i64 hop
  | 25 => .int .i64 (N : Int)
  | 26 => .int .i64 (2 * (N : Int))
  | 27 => .bool false
  | 28 => .bool false
  | 29 => .bool false
  | 38 => .bool false
  | 39 => .bool false
  | 46 => .bool false
  | 47 => .bool false
  | _ => undef
set_option maxRecDepth 100000 in
set_option maxHeartbeats 4000000 in
theorem region24 {ops : Array Oper} {id : Nat} {a0 : Act} {w0 : World} {Q : Exit → Act → World → Prop} (g N EL ccap : Nat) (cao : Option Addr) (ec mem rs rr hop ls0 mn : Int)
    (EE : Ops20 ops)
    (hN : ops.size = 48) (hlow : lowB ops = true) (hds : dsts ops = [some 7, some 8, some 9, some 10, some 11, some 12, some 13, some 14, some 15, some 16, some 17, some 18, some 19, some 20, some 21, some 22, some 23, some 24, some 25, some 26, some 27, some 28, some 29, some 30, some 31, some 32, some 33, some 34, some 35, some 36, some 37, some 38, some 39, some 40, some 41, some 42, some 43, some 44, some 45, some 46, some 47, some 48, some 49, some 50, some 51, some 52, some 53, some 2]) (hnd : injB ops = true)
    (hmx : Try.prog.follows .mixedOrders = true) (ha0 : a0.tmps.size = 54) (h1 : a0.tmps.getD 1 undef = .pointer (some ⟨g, 0, none⟩)) (h3 : a0.tmps.getD 3 undef = .int .i64 (N : Int))
    (d0 : w0.cell? ⟨g, 0, none⟩ = some (.int .i64 rs)) (d1 : w0.cell? ⟨g, 1, none⟩ = some (.int .i64 rr)) (d2 : w0.cell? ⟨g, 2, none⟩ = some (.int .i64 mem)) (d3 : w0.cell? ⟨g, 3, none⟩ = some (.int .i64 hop)) (_d4 : w0.cell? ⟨g, 4, none⟩ = some (.slice cao EL ccap))
    (H0 : ∀ W, Calls Try.prog 137 #[.int .i64 mem] W fun e w' => e = .returned (.int .i64 0) ∧ Mod (fun _ => False) W w')
    (hN0 : decide (0 < (N : Int)) = true)
    (H2 : ∀ W, Calls Try.prog 117 #[.agg #[.int .i64 rs, .int .i64 rr]] W fun e w' => e = .returned (.bool true) ∧ Mod (fun _ => False) W w')
    (H3 : ∀ W, Calls Try.prog 140 #[.int .i64 mem] W fun e w' => e = .returned (.int .i64 ls0) ∧ Mod (fun _ => False) W w') (hlst : (rr == ls0) = true)
    (hmul : IntKind.i64.wrap (2 * (N : Int)) = 2 * (N : Int)) (H4 : ∀ W, Calls Try.prog 135 #[.int .i64 hop, .int .i64 1, .int .i64 (2 * (N : Int))] W fun e w' => e = .returned (.bool false) ∧ Mod (fun _ => False) W w')
    (hend : ∀ w, Mod (fun _ => False) w0.drew w → Q .normal (puts a0 [(7, .pointer (some ⟨g, 2, none⟩)), (8, .int .i64 mem), (9, .int .i64 0), (10, .bool true), (11, .bool true), (12, .int .i64 (N : Int)), (13, .bool true), (14, .bool true), (15, .bool true), (16, .pointer (some ⟨g, 0, none⟩)), (17, .agg #[.int .i64 rs, .int .i64 rr]), (18, .bool true), (19, .bool true), (20, .bool true), (21, .pointer (some ⟨g, 0, none⟩)), (22, .pointer (some ⟨g, 1, none⟩)), (23, .int .i64 rr), (24, .pointer (some ⟨g, 2, none⟩)), (25, .int .i64 mem), (26, .int .i64 ls0), (27, .bool true), (28, .bool true), (29, .bool true), (30, .pointer (some ⟨g, 3, none⟩)), (31, .int .i64 hop), (32, .int .i64 (N : Int)), (33, .int .i64 (2 * (N : Int))), (34, .bool false), (35, .bool false), (36, .bool false), (37, undef), (38, undef), (39, undef), (40, undef), (41, undef), (42, undef), (43, undef), (44, undef), (45, .bool false), (46, .bool false), (47, undef), (48, undef), (49, undef), (50, undef), (51, undef), (52, undef), (53, .bool false), (2, .bool false)]) w) :
    (Code.region id ops true).wp Try.prog Q a0 w0 := by
  obtain ⟨E0, E1, E2, E3, E4, E5, E6, E7, E8, E9, E10, E11, E12, E13, E14, E15, E16, E17, E18, E19, E20, E21, E22, E23, E24, E25, E26, E27, E28, E29, E30, E31, E32, E33, E34, E35, E36, E37, E38, E39, E40, E41, E42, E43, E44, E45, E46, E47⟩ := EE
  obtain ⟨PP, q, r⟩ : ∃ PP : Nat → Value → World → Prop, (∀ i v w, (fun i' v _ => v = v24 g N EL ccap cao ec mem rs rr hop ls0 mn i') i v w → PP i v w) ∧ (∀ i v w, PP i v w → (fun i' v _ => v = v24 g N EL ccap cao ec mem rs rr hop ls0 mn i') i v w) := ⟨(fun i' v _ => v = v24 g N EL ccap cao ec mem rs rr hop ls0 mn i'), fun _ _ _ h => h, fun _ _ _ h => h⟩
  have D : ∀ {W : World} {a : Addr} {v : Value}, Mod (fun _ => False) w0.drew W → w0.cell? a = some v → W.cell? a = some v := fun hW hc => hW.cell (by simpa using hc) (fun h => h)
  have s0 : S2 ops PP w0 a0 Q 0 := by
    refine E0.stepW fun o hd ho hg hw y w listed hsz hls hun hwt hdown D' R hinv K hK => ?_
    rw [ha0] at hsz
    refine .inl ⟨wanted_none hg, ?_⟩
    have f1 : y.eval (Operand.tmp 1) = .pointer (some ⟨g, 0, none⟩) := (R 1 (not_of (by rw [hds]; decide))).trans h1
    exact wp_value (ox_field ho f1 (flc1 w)) (hK _ _ (Mod.refl _ _) (q _ _ _ rfl) hinv)
  have s1 : S2 ops PP w0 a0 Q 1 := by
    refine E1.stepW fun o hd ho hg hw y w listed hsz hls hun hwt hdown D' R hinv K hK => ?_
    rw [ha0] at hsz
    refine .inl ⟨wanted_none hg, ?_⟩
    have f7 : y.eval (Operand.tmp 7) = .pointer (some ⟨g, 2, none⟩) := r _ _ _ (E0.postW D' (hw 0 (by simp)))
    exact wp_value (ox_load ho f7 (ld1 (D hinv d2))) (hK _ _ (Mod.refl _ _) (q _ _ _ rfl) hinv)
  have s2 : S2 ops PP w0 a0 Q 2 := by
    refine E2.stepW fun o hd ho hg hw y w listed hsz hls hun hwt hdown D' R hinv K hK => ?_
    rw [ha0] at hsz
    refine .inl ⟨wanted_none hg, ?_⟩
    have f8 : y.eval (Operand.tmp 8) = .int .i64 mem := r _ _ _ (E1.postW D' (hw 1 (by simp)))
    refine wp_enter (f := 137) (args := #[.int .i64 mem]) ?_ (H0 w) ?_
    · rw [exec_call1 y.eval (fun args w => by simp [go_sem]) rfl ho, f8]
    · rintro e w' ⟨rfl, hm⟩
      exact ⟨_, rfl, hK _ _ hm (q _ _ _ rfl) (hinv.trans hm (fun _ _ h => h) (fun _ _ h => h))⟩
  have s3 : S2 ops PP w0 a0 Q 3 := by
    refine E3.stepW fun o hd ho hg hw y w listed hsz hls hun hwt hdown D' R hinv K hK => ?_
    rw [ha0] at hsz
    refine .inl ⟨wanted_none hg, ?_⟩
    have f9 : y.eval (Operand.tmp 9) = .int .i64 0 := r _ _ _ (E2.postW D' (hw 2 (by simp)))
    exact wp_value (ox_eql0 ho (fun _ => rfl) f9 rfl) (hK _ _ (Mod.refl _ _) (q _ _ _ rfl) hinv)
  have s4 : S2 ops PP w0 a0 Q 4 := by
    refine E4.stepW fun o hd ho hg hw y w listed hsz hls hun hwt hdown D' R hinv K hK => ?_
    rw [ha0] at hsz
    refine .inl ⟨wanted_none hg, ?_⟩
    have f10 : y.eval (Operand.tmp 10) = .bool true := r _ _ _ (E3.postW D' (hw 3 (by simp)))
    exact wp_value (ox_move ho f10) (hK _ _ (Mod.refl _ _) (q _ _ _ rfl) hinv)
  have s5 : S2 ops PP w0 a0 Q 5 := by
    refine E5.stepW fun o hd ho hg hw y w listed hsz hls hun hwt hdown D' R hinv K hK => ?_
    rw [ha0] at hsz
    refine .inl ⟨wanted_yes E4 hg (by rw [hsz]; decide) (r _ _ _ (E4.postW D' (hw 4 (by simp)))), ?_⟩
    have f3 : y.eval (Operand.tmp 3) = .int .i64 (N : Int) := (R 3 (not_of (by rw [hds]; decide))).trans h3
    exact wp_value (ox_move ho f3) (hK _ _ (Mod.refl _ _) (q _ _ _ rfl) hinv)
  have s6 : S2 ops PP w0 a0 Q 6 := by
    refine E6.stepW fun o hd ho hg hw y w listed hsz hls hun hwt hdown D' R hinv K hK => ?_
    rw [ha0] at hsz
    refine .inl ⟨wanted_yes E4 hg (by rw [hsz]; decide) (r _ _ _ (E4.postW D' (hw 4 (by simp)))), ?_⟩
    have f12 : y.eval (Operand.tmp 12) = .int .i64 (N : Int) := r _ _ _ (E5.postW D' (hw 5 (by simp)))
    exact wp_value (ox_gtr0 ho (fun _ => rfl) f12 hN0) (hK _ _ (Mod.refl _ _) (q _ _ _ rfl) hinv)
  have s7 : S2 ops PP w0 a0 Q 7 := by
    refine E7.stepW fun o hd ho hg hw y w listed hsz hls hun hwt hdown D' R hinv K hK => ?_
    rw [ha0] at hsz
    refine .inl ⟨wanted_none hg, ?_⟩
    have f11 : y.eval (Operand.tmp 11) = .bool true := r _ _ _ (E4.postW D' (hw 4 (by simp)))
    have f13 : y.eval (Operand.tmp 13) = .bool true := r _ _ _ (E6.postW D' (hw 6 (by simp)))
    exact wp_value (ox_pick ho f11 f13) (hK _ _ (Mod.refl _ _) (q _ _ _ rfl) hinv)
  have s8 : S2 ops PP w0 a0 Q 8 := by
    refine E8.stepW fun o hd ho hg hw y w listed hsz hls hun hwt hdown D' R hinv K hK => ?_
    rw [ha0] at hsz
    refine .inl ⟨wanted_none hg, ?_⟩
    have f14 : y.eval (Operand.tmp 14) = .bool true := r _ _ _ (E7.postW D' (hw 7 (by simp)))
    exact wp_value (ox_move ho f14) (hK _ _ (Mod.refl _ _) (q _ _ _ rfl) hinv)
  have s9 : S2 ops PP w0 a0 Q 9 := by
    refine E9.stepW fun o hd ho hg hw y w listed hsz hls hun hwt hdown D' R hinv K hK => ?_
    rw [ha0] at hsz
    refine .inl ⟨wanted_yes E8 hg (by rw [hsz]; decide) (r _ _ _ (E8.postW D' (hw 8 (by simp)))), ?_⟩
    have f1 : y.eval (Operand.tmp 1) = .pointer (some ⟨g, 0, none⟩) := (R 1 (not_of (by rw [hds]; decide))).trans h1
    exact wp_value (ox_field ho f1 (flc0 w)) (hK _ _ (Mod.refl _ _) (q _ _ _ rfl) hinv)
  have s10 : S2 ops PP w0 a0 Q 10 := by
    refine E10.stepW fun o hd ho hg hw y w listed hsz hls hun hwt hdown D' R hinv K hK => ?_
    rw [ha0] at hsz
    refine .inl ⟨wanted_yes E8 hg (by rw [hsz]; decide) (r _ _ _ (E8.postW D' (hw 8 (by simp)))), ?_⟩
    have f16 : y.eval (Operand.tmp 16) = .pointer (some ⟨g, 0, none⟩) := r _ _ _ (E9.postW D' (hw 9 (by simp)))
    exact wp_value (ox_load ho f16 (ld2 (D hinv d0) (D hinv d1))) (hK _ _ (Mod.refl _ _) (q _ _ _ rfl) hinv)
  have s11 : S2 ops PP w0 a0 Q 11 := by
    refine E11.stepW fun o hd ho hg hw y w listed hsz hls hun hwt hdown D' R hinv K hK => ?_
    rw [ha0] at hsz
    refine .inl ⟨wanted_yes E8 hg (by rw [hsz]; decide) (r _ _ _ (E8.postW D' (hw 8 (by simp)))), ?_⟩
    have f17 : y.eval (Operand.tmp 17) = .agg #[.int .i64 rs, .int .i64 rr] := r _ _ _ (E10.postW D' (hw 10 (by simp)))
    refine wp_enter (f := 117) (args := #[.agg #[.int .i64 rs, .int .i64 rr]]) ?_ (H2 w) ?_
    · rw [exec_call1 y.eval (fun args w => by simp [go_sem]) rfl ho, f17]
    · rintro e w' ⟨rfl, hm⟩
      exact ⟨_, rfl, hK _ _ hm (q _ _ _ rfl) (hinv.trans hm (fun _ _ h => h) (fun _ _ h => h))⟩
  have s12 : S2 ops PP w0 a0 Q 12 := by
    refine E12.stepW fun o hd ho hg hw y w listed hsz hls hun hwt hdown D' R hinv K hK => ?_
    rw [ha0] at hsz
    refine .inl ⟨wanted_none hg, ?_⟩
    have f15 : y.eval (Operand.tmp 15) = .bool true := r _ _ _ (E8.postW D' (hw 8 (by simp)))
    have f18 : y.eval (Operand.tmp 18) = .bool true := r _ _ _ (E11.postW D' (hw 11 (by simp)))
    exact wp_value (ox_pick ho f15 f18) (hK _ _ (Mod.refl _ _) (q _ _ _ rfl) hinv)
  have s13 : S2 ops PP w0 a0 Q 13 := by
    refine E13.stepW fun o hd ho hg hw y w listed hsz hls hun hwt hdown D' R hinv K hK => ?_
    rw [ha0] at hsz
    refine .inl ⟨wanted_none hg, ?_⟩
    have f19 : y.eval (Operand.tmp 19) = .bool true := r _ _ _ (E12.postW D' (hw 12 (by simp)))
    exact wp_value (ox_move ho f19) (hK _ _ (Mod.refl _ _) (q _ _ _ rfl) hinv)
  have s14 : S2 ops PP w0 a0 Q 14 := by
    refine E14.stepW fun o hd ho hg hw y w listed hsz hls hun hwt hdown D' R hinv K hK => ?_
    rw [ha0] at hsz
    refine .inl ⟨wanted_yes E13 hg (by rw [hsz]; decide) (r _ _ _ (E13.postW D' (hw 13 (by simp)))), ?_⟩
    have f1 : y.eval (Operand.tmp 1) = .pointer (some ⟨g, 0, none⟩) := (R 1 (not_of (by rw [hds]; decide))).trans h1
    exact wp_value (ox_field ho f1 (flc0 w)) (hK _ _ (Mod.refl _ _) (q _ _ _ rfl) hinv)
  have s15 : S2 ops PP w0 a0 Q 15 := by
    refine E15.stepW fun o hd ho hg hw y w listed hsz hls hun hwt hdown D' R hinv K hK => ?_
    rw [ha0] at hsz
    refine .inl ⟨wanted_yes E13 hg (by rw [hsz]; decide) (r _ _ _ (E13.postW D' (hw 13 (by simp)))), ?_⟩
    have f21 : y.eval (Operand.tmp 21) = .pointer (some ⟨g, 0, none⟩) := r _ _ _ (E14.postW D' (hw 14 (by simp)))
    exact wp_value (ox_field ho f21 (flr1 w)) (hK _ _ (Mod.refl _ _) (q _ _ _ rfl) hinv)
  have s16 : S2 ops PP w0 a0 Q 16 := by
    refine E16.stepW fun o hd ho hg hw y w listed hsz hls hun hwt hdown D' R hinv K hK => ?_
    rw [ha0] at hsz
    refine .inl ⟨wanted_yes E13 hg (by rw [hsz]; decide) (r _ _ _ (E13.postW D' (hw 13 (by simp)))), ?_⟩
    have f22 : y.eval (Operand.tmp 22) = .pointer (some ⟨g, 1, none⟩) := r _ _ _ (E15.postW D' (hw 15 (by simp)))
    exact wp_value (ox_load ho f22 (ld1 (D hinv d1))) (hK _ _ (Mod.refl _ _) (q _ _ _ rfl) hinv)
  have s17 : S2 ops PP w0 a0 Q 17 := by
    refine E17.stepW fun o hd ho hg hw y w listed hsz hls hun hwt hdown D' R hinv K hK => ?_
    rw [ha0] at hsz
    refine .inl ⟨wanted_yes E13 hg (by rw [hsz]; decide) (r _ _ _ (E13.postW D' (hw 13 (by simp)))), ?_⟩
    have f1 : y.eval (Operand.tmp 1) = .pointer (some ⟨g, 0, none⟩) := (R 1 (not_of (by rw [hds]; decide))).trans h1
    exact wp_value (ox_field ho f1 (flc1 w)) (hK _ _ (Mod.refl _ _) (q _ _ _ rfl) hinv)
  have s18 : S2 ops PP w0 a0 Q 18 := by
    refine E18.stepW fun o hd ho hg hw y w listed hsz hls hun hwt hdown D' R hinv K hK => ?_
    rw [ha0] at hsz
    refine .inl ⟨wanted_yes E13 hg (by rw [hsz]; decide) (r _ _ _ (E13.postW D' (hw 13 (by simp)))), ?_⟩
    have f24 : y.eval (Operand.tmp 24) = .pointer (some ⟨g, 2, none⟩) := r _ _ _ (E17.postW D' (hw 17 (by simp)))
    exact wp_value (ox_load ho f24 (ld1 (D hinv d2))) (hK _ _ (Mod.refl _ _) (q _ _ _ rfl) hinv)
  have s19 : S2 ops PP w0 a0 Q 19 := by
    refine E19.stepW fun o hd ho hg hw y w listed hsz hls hun hwt hdown D' R hinv K hK => ?_
    rw [ha0] at hsz
    refine .inl ⟨wanted_yes E13 hg (by rw [hsz]; decide) (r _ _ _ (E13.postW D' (hw 13 (by simp)))), ?_⟩
    have f25 : y.eval (Operand.tmp 25) = .int .i64 mem := r _ _ _ (E18.postW D' (hw 18 (by simp)))
    refine wp_enter (f := 140) (args := #[.int .i64 mem]) ?_ (H3 w) ?_
    · rw [exec_call1 y.eval (fun args w => by simp [go_sem]) rfl ho, f25]
    · rintro e w' ⟨rfl, hm⟩
      exact ⟨_, rfl, hK _ _ hm (q _ _ _ rfl) (hinv.trans hm (fun _ _ h => h) (fun _ _ h => h))⟩
  have s20 : S2 ops PP w0 a0 Q 20 := by
    refine E20.stepW fun o hd ho hg hw y w listed hsz hls hun hwt hdown D' R hinv K hK => ?_
    rw [ha0] at hsz
    refine .inl ⟨wanted_yes E13 hg (by rw [hsz]; decide) (r _ _ _ (E13.postW D' (hw 13 (by simp)))), ?_⟩
    have f23 : y.eval (Operand.tmp 23) = .int .i64 rr := r _ _ _ (E16.postW D' (hw 16 (by simp)))
    have f26 : y.eval (Operand.tmp 26) = .int .i64 ls0 := r _ _ _ (E19.postW D' (hw 19 (by simp)))
    exact wp_value (ox_eql ho f23 f26 hlst) (hK _ _ (Mod.refl _ _) (q _ _ _ rfl) hinv)
  have s21 : S2 ops PP w0 a0 Q 21 := by
    refine E21.stepW fun o hd ho hg hw y w listed hsz hls hun hwt hdown D' R hinv K hK => ?_
    rw [ha0] at hsz
    refine .inl ⟨wanted_none hg, ?_⟩
    have f20 : y.eval (Operand.tmp 20) = .bool true := r _ _ _ (E13.postW D' (hw 13 (by simp)))
    have f27 : y.eval (Operand.tmp 27) = .bool true := r _ _ _ (E20.postW D' (hw 20 (by simp)))
    exact wp_value (ox_pick ho f20 f27) (hK _ _ (Mod.refl _ _) (q _ _ _ rfl) hinv)
  have s22 : S2 ops PP w0 a0 Q 22 := by
    refine E22.stepW fun o hd ho hg hw y w listed hsz hls hun hwt hdown D' R hinv K hK => ?_
    rw [ha0] at hsz
    refine .inl ⟨wanted_none hg, ?_⟩
    have f28 : y.eval (Operand.tmp 28) = .bool true := r _ _ _ (E21.postW D' (hw 21 (by simp)))
    exact wp_value (ox_move ho f28) (hK _ _ (Mod.refl _ _) (q _ _ _ rfl) hinv)
  have s23 : S2 ops PP w0 a0 Q 23 := by
    refine E23.stepW fun o hd ho hg hw y w listed hsz hls hun hwt hdown D' R hinv K hK => ?_
    rw [ha0] at hsz
    refine .inl ⟨wanted_yes E22 hg (by rw [hsz]; decide) (r _ _ _ (E22.postW D' (hw 22 (by simp)))), ?_⟩
    have f1 : y.eval (Operand.tmp 1) = .pointer (some ⟨g, 0, none⟩) := (R 1 (not_of (by rw [hds]; decide))).trans h1
    exact wp_value (ox_field ho f1 (flc2 w)) (hK _ _ (Mod.refl _ _) (q _ _ _ rfl) hinv)
  have s24 : S2 ops PP w0 a0 Q 24 := by
    refine E24.stepW fun o hd ho hg hw y w listed hsz hls hun hwt hdown D' R hinv K hK => ?_
    rw [ha0] at hsz
    refine .inl ⟨wanted_yes E22 hg (by rw [hsz]; decide) (r _ _ _ (E22.postW D' (hw 22 (by simp)))), ?_⟩
    have f30 : y.eval (Operand.tmp 30) = .pointer (some ⟨g, 3, none⟩) := r _ _ _ (E23.postW D' (hw 23 (by simp)))
    exact wp_value (ox_load ho f30 (ld1 (D hinv d3))) (hK _ _ (Mod.refl _ _) (q _ _ _ rfl) hinv)
  have s25 : S2 ops PP w0 a0 Q 25 := by
    refine E25.stepW fun o hd ho hg hw y w listed hsz hls hun hwt hdown D' R hinv K hK => ?_
    rw [ha0] at hsz
    refine .inl ⟨wanted_yes E22 hg (by rw [hsz]; decide) (r _ _ _ (E22.postW D' (hw 22 (by simp)))), ?_⟩
    have f3 : y.eval (Operand.tmp 3) = .int .i64 (N : Int) := (R 3 (not_of (by rw [hds]; decide))).trans h3
    exact wp_value (ox_move ho f3) (hK _ _ (Mod.refl _ _) (q _ _ _ rfl) hinv)
  have s26 : S2 ops PP w0 a0 Q 26 := by
    refine E26.stepW fun o hd ho hg hw y w listed hsz hls hun hwt hdown D' R hinv K hK => ?_
    rw [ha0] at hsz
    refine .inl ⟨wanted_yes E22 hg (by rw [hsz]; decide) (r _ _ _ (E22.postW D' (hw 22 (by simp)))), ?_⟩
    have f32 : y.eval (Operand.tmp 32) = .int .i64 (N : Int) := r _ _ _ (E25.postW D' (hw 25 (by simp)))
    exact wp_value (ox_mul2 ho (fun _ => rfl) f32 hmul) (hK _ _ (Mod.refl _ _) (q _ _ _ rfl) hinv)
  have s27 : S2 ops PP w0 a0 Q 27 := by
    refine E27.stepW fun o hd ho hg hw y w listed hsz hls hun hwt hdown D' R hinv K hK => ?_
    rw [ha0] at hsz
    refine .inl ⟨wanted_yes E22 hg (by rw [hsz]; decide) (r _ _ _ (E22.postW D' (hw 22 (by simp)))), ?_⟩
    have f31 : y.eval (Operand.tmp 31) = .int .i64 hop := r _ _ _ (E24.postW D' (hw 24 (by simp)))
    have f33 : y.eval (Operand.tmp 33) = .int .i64 (2 * (N : Int)) := r _ _ _ (E26.postW D' (hw 26 (by simp)))
    refine wp_enter (f := 135) (args := #[.int .i64 hop, .int .i64 1, .int .i64 (2 * (N : Int))]) ?_ (H4 w) ?_
    · rw [exec_call3 y.eval (fun args w => by simp [go_sem]) rfl ho, f31, f33]; rfl
    · rintro e w' ⟨rfl, hm⟩
      exact ⟨_, rfl, hK _ _ hm (q _ _ _ rfl) (hinv.trans hm (fun _ _ h => h) (fun _ _ h => h))⟩
  have s28 : S2 ops PP w0 a0 Q 28 := by
    refine E28.stepW fun o hd ho hg hw y w listed hsz hls hun hwt hdown D' R hinv K hK => ?_
    rw [ha0] at hsz
    refine .inl ⟨wanted_none hg, ?_⟩
    have f29 : y.eval (Operand.tmp 29) = .bool true := r _ _ _ (E22.postW D' (hw 22 (by simp)))
    have f34 : y.eval (Operand.tmp 34) = .bool false := r _ _ _ (E27.postW D' (hw 27 (by simp)))
    exact wp_value (ox_pick ho f29 f34) (hK _ _ (Mod.refl _ _) (q _ _ _ rfl) hinv)
  have s29 : S2 ops PP w0 a0 Q 29 := by
    refine E29.stepW fun o hd ho hg hw y w listed hsz hls hun hwt hdown D' R hinv K hK => ?_
    rw [ha0] at hsz
    refine .inl ⟨wanted_none hg, ?_⟩
    have f35 : y.eval (Operand.tmp 35) = .bool false := r _ _ _ (E28.postW D' (hw 28 (by simp)))
    exact wp_value (ox_move ho f35) (hK _ _ (Mod.refl _ _) (q _ _ _ rfl) hinv)
  have s30 : S2 ops PP w0 a0 Q 30 := by
    refine E30.stepW fun o hd ho hg hw y w listed hsz hls hun hwt hdown D' R hinv K hK => ?_
    rw [ha0] at hsz
    exact .inr ⟨wanted_no E29 hg (by rw [hsz]; decide) (r _ _ _ (E29.postW D' (hw 29 (by simp)))), hK _ _ (Mod.refl _ _) (q _ _ _ rfl) hinv⟩
  have s31 : S2 ops PP w0 a0 Q 31 := by
    refine E31.stepW fun o hd ho hg hw y w listed hsz hls hun hwt hdown D' R hinv K hK => ?_
    rw [ha0] at hsz
    exact .inr ⟨wanted_no E29 hg (by rw [hsz]; decide) (r _ _ _ (E29.postW D' (hw 29 (by simp)))), hK _ _ (Mod.refl _ _) (q _ _ _ rfl) hinv⟩
  have s32 : S2 ops PP w0 a0 Q 32 := by
    refine E32.stepW fun o hd ho hg hw y w listed hsz hls hun hwt hdown D' R hinv K hK => ?_
    rw [ha0] at hsz
    exact .inr ⟨wanted_no E29 hg (by rw [hsz]; decide) (r _ _ _ (E29.postW D' (hw 29 (by simp)))), hK _ _ (Mod.refl _ _) (q _ _ _ rfl) hinv⟩
  have s33 : S2 ops PP w0 a0 Q 33 := by
    refine E33.stepW fun o hd ho hg hw y w listed hsz hls hun hwt hdown D' R hinv K hK => ?_
    rw [ha0] at hsz
    exact .inr ⟨wanted_no E29 hg (by rw [hsz]; decide) (r _ _ _ (E29.postW D' (hw 29 (by simp)))), hK _ _ (Mod.refl _ _) (q _ _ _ rfl) hinv⟩
  have s34 : S2 ops PP w0 a0 Q 34 := by
    refine E34.stepW fun o hd ho hg hw y w listed hsz hls hun hwt hdown D' R hinv K hK => ?_
    rw [ha0] at hsz
    exact .inr ⟨wanted_no E29 hg (by rw [hsz]; decide) (r _ _ _ (E29.postW D' (hw 29 (by simp)))), hK _ _ (Mod.refl _ _) (q _ _ _ rfl) hinv⟩
  have s35 : S2 ops PP w0 a0 Q 35 := by
    refine E35.stepW fun o hd ho hg hw y w listed hsz hls hun hwt hdown D' R hinv K hK => ?_
    rw [ha0] at hsz
    exact .inr ⟨wanted_no E29 hg (by rw [hsz]; decide) (r _ _ _ (E29.postW D' (hw 29 (by simp)))), hK _ _ (Mod.refl _ _) (q _ _ _ rfl) hinv⟩
  have s36 : S2 ops PP w0 a0 Q 36 := by
    refine E36.stepW fun o hd ho hg hw y w listed hsz hls hun hwt hdown D' R hinv K hK => ?_
    rw [ha0] at hsz
    exact .inr ⟨wanted_no E29 hg (by rw [hsz]; decide) (r _ _ _ (E29.postW D' (hw 29 (by simp)))), hK _ _ (Mod.refl _ _) (q _ _ _ rfl) hinv⟩
  have s37 : S2 ops PP w0 a0 Q 37 := by
    refine E37.stepW fun o hd ho hg hw y w listed hsz hls hun hwt hdown D' R hinv K hK => ?_
    rw [ha0] at hsz
    exact .inr ⟨wanted_no E29 hg (by rw [hsz]; decide) (r _ _ _ (E29.postW D' (hw 29 (by simp)))), hK _ _ (Mod.refl _ _) (q _ _ _ rfl) hinv⟩
  have s38 : S2 ops PP w0 a0 Q 38 := by
    refine E38.stepW fun o hd ho hg hw y w listed hsz hls hun hwt hdown D' R hinv K hK => ?_
    rw [ha0] at hsz
    refine .inl ⟨wanted_none hg, ?_⟩
    have f36 : y.eval (Operand.tmp 36) = .bool false := r _ _ _ (E29.postW D' (hw 29 (by simp)))
    have f44 : y.eval (Operand.tmp 44) = undef := r _ _ _ (E37.postW D' (hw 37 (by simp)))
    exact wp_value (ox_pick ho f36 rfl) (hK _ _ (Mod.refl _ _) (q _ _ _ rfl) hinv)
  have s39 : S2 ops PP w0 a0 Q 39 := by
    refine E39.stepW fun o hd ho hg hw y w listed hsz hls hun hwt hdown D' R hinv K hK => ?_
    rw [ha0] at hsz
    refine .inl ⟨wanted_none hg, ?_⟩
    have f45 : y.eval (Operand.tmp 45) = .bool false := r _ _ _ (E38.postW D' (hw 38 (by simp)))
    exact wp_value (ox_move ho f45) (hK _ _ (Mod.refl _ _) (q _ _ _ rfl) hinv)
  have s40 : S2 ops PP w0 a0 Q 40 := by
    refine E40.stepW fun o hd ho hg hw y w listed hsz hls hun hwt hdown D' R hinv K hK => ?_
    rw [ha0] at hsz
    exact .inr ⟨wanted_no E39 hg (by rw [hsz]; decide) (r _ _ _ (E39.postW D' (hw 39 (by simp)))), hK _ _ (Mod.refl _ _) (q _ _ _ rfl) hinv⟩
  have s41 : S2 ops PP w0 a0 Q 41 := by
    refine E41.stepW fun o hd ho hg hw y w listed hsz hls hun hwt hdown D' R hinv K hK => ?_
    rw [ha0] at hsz
    exact .inr ⟨wanted_no E39 hg (by rw [hsz]; decide) (r _ _ _ (E39.postW D' (hw 39 (by simp)))), hK _ _ (Mod.refl _ _) (q _ _ _ rfl) hinv⟩
  have s42 : S2 ops PP w0 a0 Q 42 := by
    refine E42.stepW fun o hd ho hg hw y w listed hsz hls hun hwt hdown D' R hinv K hK => ?_
    rw [ha0] at hsz
    exact .inr ⟨wanted_no E39 hg (by rw [hsz]; decide) (r _ _ _ (E39.postW D' (hw 39 (by simp)))), hK _ _ (Mod.refl _ _) (q _ _ _ rfl) hinv⟩
  have s43 : S2 ops PP w0 a0 Q 43 := by
    refine E43.stepW fun o hd ho hg hw y w listed hsz hls hun hwt hdown D' R hinv K hK => ?_
    rw [ha0] at hsz
    exact .inr ⟨wanted_no E39 hg (by rw [hsz]; decide) (r _ _ _ (E39.postW D' (hw 39 (by simp)))), hK _ _ (Mod.refl _ _) (q _ _ _ rfl) hinv⟩
  have s44 : S2 ops PP w0 a0 Q 44 := by
    refine E44.stepW fun o hd ho hg hw y w listed hsz hls hun hwt hdown D' R hinv K hK => ?_
    rw [ha0] at hsz
    exact .inr ⟨wanted_no E39 hg (by rw [hsz]; decide) (r _ _ _ (E39.postW D' (hw 39 (by simp)))), hK _ _ (Mod.refl _ _) (q _ _ _ rfl) hinv⟩
  have s45 : S2 ops PP w0 a0 Q 45 := by
    refine E45.stepW fun o hd ho hg hw y w listed hsz hls hun hwt hdown D' R hinv K hK => ?_
    rw [ha0] at hsz
    exact .inr ⟨wanted_no E39 hg (by rw [hsz]; decide) (r _ _ _ (E39.postW D' (hw 39 (by simp)))), hK _ _ (Mod.refl _ _) (q _ _ _ rfl) hinv⟩
  have s46 : S2 ops PP w0 a0 Q 46 := by
    refine E46.stepW fun o hd ho hg hw y w listed hsz hls hun hwt hdown D' R hinv K hK => ?_
    rw [ha0] at hsz
    refine .inl ⟨wanted_none hg, ?_⟩
    have f46 : y.eval (Operand.tmp 46) = .bool false := r _ _ _ (E39.postW D' (hw 39 (by simp)))
    have f52 : y.eval (Operand.tmp 52) = undef := r _ _ _ (E45.postW D' (hw 45 (by simp)))
    exact wp_value (ox_pick ho f46 rfl) (hK _ _ (Mod.refl _ _) (q _ _ _ rfl) hinv)
  have s47 : S2 ops PP w0 a0 Q 47 := by
    refine E47.stepW fun o hd ho hg hw y w listed hsz hls hun hwt hdown D' R hinv K hK => ?_
    rw [ha0] at hsz
    refine .inl ⟨wanted_none hg, ?_⟩
    have f53 : y.eval (Operand.tmp 53) = .bool false := r _ _ _ (E46.postW D' (hw 46 (by simp)))
    exact wp_value (ox_assign ho f53) (hK _ _ (Mod.refl _ _) (q _ _ _ rfl) hinv)
  have stab : ∀ i v w w', Mod (fun _ => False) w w' → PP i v w → PP i v w' := fun _ _ _ _ _ h => q _ _ _ (r _ _ _ h)
  refine region_freeW (Post := PP) (Inv := M0 w0) hmx (low_of hlow) (fun i o ho => by rw [ha0]; exact dst_of (by rw [hds]; decide) i o ho) (inj_of hnd) (Mod.refl _ _) stab ?_ ?_
  · intro i o ho
    have hi : i < 48 := by
      rw [← hN]
      rcases Nat.lt_or_ge i ops.size with h | h
      · exact h
      · rw [Array.getElem?_eq_none h] at ho; cases ho
    clear hend
    match i, hi with
    | 0, _ => exact s0 o ho
    | 1, _ => exact s1 o ho
    | 2, _ => exact s2 o ho
    | 3, _ => exact s3 o ho
    | 4, _ => exact s4 o ho
    | 5, _ => exact s5 o ho
    | 6, _ => exact s6 o ho
    | 7, _ => exact s7 o ho
    | 8, _ => exact s8 o ho
    | 9, _ => exact s9 o ho
    | 10, _ => exact s10 o ho
    | 11, _ => exact s11 o ho
    | 12, _ => exact s12 o ho
    | 13, _ => exact s13 o ho
    | 14, _ => exact s14 o ho
    | 15, _ => exact s15 o ho
    | 16, _ => exact s16 o ho
    | 17, _ => exact s17 o ho
    | 18, _ => exact s18 o ho
    | 19, _ => exact s19 o ho
    | 20, _ => exact s20 o ho
    | 21, _ => exact s21 o ho
    | 22, _ => exact s22 o ho
    | 23, _ => exact s23 o ho
    | 24, _ => exact s24 o ho
    | 25, _ => exact s25 o ho
    | 26, _ => exact s26 o ho
    | 27, _ => exact s27 o ho
    | 28, _ => exact s28 o ho
    | 29, _ => exact s29 o ho
    | 30, _ => exact s30 o ho
    | 31, _ => exact s31 o ho
    | 32, _ => exact s32 o ho
    | 33, _ => exact s33 o ho
    | 34, _ => exact s34 o ho
    | 35, _ => exact s35 o ho
    | 36, _ => exact s36 o ho
    | 37, _ => exact s37 o ho
    | 38, _ => exact s38 o ho
    | 39, _ => exact s39 o ho
    | 40, _ => exact s40 o ho
    | 41, _ => exact s41 o ho
    | 42, _ => exact s42 o ho
    | 43, _ => exact s43 o ho
    | 44, _ => exact s44 o ho
    | 45, _ => exact s45 o ho
    | 46, _ => exact s46 o ho
    | 47, _ => exact s47 o ho
    | i + 48, hi => omega
  · intro y w listed hsz hdf hls hall hinv hp hr
    have e : y = puts a0 [(7, .pointer (some ⟨g, 2, none⟩)), (8, .int .i64 mem), (9, .int .i64 0), (10, .bool true), (11, .bool true), (12, .int .i64 (N : Int)), (13, .bool true), (14, .bool true), (15, .bool true), (16, .pointer (some ⟨g, 0, none⟩)), (17, .agg #[.int .i64 rs, .int .i64 rr]), (18, .bool true), (19, .bool true), (20, .bool true), (21, .pointer (some ⟨g, 0, none⟩)), (22, .pointer (some ⟨g, 1, none⟩)), (23, .int .i64 rr), (24, .pointer (some ⟨g, 2, none⟩)), (25, .int .i64 mem), (26, .int .i64 ls0), (27, .bool true), (28, .bool true), (29, .bool true), (30, .pointer (some ⟨g, 3, none⟩)), (31, .int .i64 hop), (32, .int .i64 (N : Int)), (33, .int .i64 (2 * (N : Int))), (34, .bool false), (35, .bool false), (36, .bool false), (37, undef), (38, undef), (39, undef), (40, undef), (41, undef), (42, undef), (43, undef), (44, undef), (45, .bool false), (46, .bool false), (47, undef), (48, undef), (49, undef), (50, undef), (51, undef), (52, undef), (53, .bool false), (2, .bool false)] := by
      refine eq_puts hsz hdf (nodup_of (D := [some 7, some 8, some 9, some 10, some 11, some 12, some 13, some 14, some 15, some 16, some 17, some 18, some 19, some 20, some 21, some 22, some 23, some 24, some 25, some 26, some 27, some 28, some 29, some 30, some 31, some 32, some 33, some 34, some 35, some 36, some 37, some 38, some 39, some 40, some 41, some 42, some 43, some 44, some 45, some 46, some 47, some 48, some 49, some 50, some 51, some 52, some 53, some 2]) rfl (by decide)) (by rw [ha0]; simp) ?_ ?_
      · intro q hq
        simp only [List.mem_cons, List.not_mem_nil, or_false] at hq
        rcases hq with rfl | rfl | rfl | rfl | rfl | rfl | rfl | rfl | rfl | rfl | rfl | rfl | rfl | rfl | rfl | rfl | rfl | rfl | rfl | rfl | rfl | rfl | rfl | rfl | rfl | rfl | rfl | rfl | rfl | rfl | rfl | rfl | rfl | rfl | rfl | rfl | rfl | rfl | rfl | rfl | rfl | rfl | rfl | rfl | rfl | rfl | rfl | rfl
        · obtain ⟨o, h1, h2, _⟩ := E0.ex; exact r _ _ _ (hp 0 o _ h1 h2)
        · obtain ⟨o, h1, h2, _⟩ := E1.ex; exact r _ _ _ (hp 1 o _ h1 h2)
        · obtain ⟨o, h1, h2, _⟩ := E2.ex; exact r _ _ _ (hp 2 o _ h1 h2)
        · obtain ⟨o, h1, h2, _⟩ := E3.ex; exact r _ _ _ (hp 3 o _ h1 h2)
        · obtain ⟨o, h1, h2, _⟩ := E4.ex; exact r _ _ _ (hp 4 o _ h1 h2)
        · obtain ⟨o, h1, h2, _⟩ := E5.ex; exact r _ _ _ (hp 5 o _ h1 h2)
        · obtain ⟨o, h1, h2, _⟩ := E6.ex; exact r _ _ _ (hp 6 o _ h1 h2)
        · obtain ⟨o, h1, h2, _⟩ := E7.ex; exact r _ _ _ (hp 7 o _ h1 h2)
        · obtain ⟨o, h1, h2, _⟩ := E8.ex; exact r _ _ _ (hp 8 o _ h1 h2)
        · obtain ⟨o, h1, h2, _⟩ := E9.ex; exact r _ _ _ (hp 9 o _ h1 h2)
        · obtain ⟨o, h1, h2, _⟩ := E10.ex; exact r _ _ _ (hp 10 o _ h1 h2)
        · obtain ⟨o, h1, h2, _⟩ := E11.ex; exact r _ _ _ (hp 11 o _ h1 h2)
        · obtain ⟨o, h1, h2, _⟩ := E12.ex; exact r _ _ _ (hp 12 o _ h1 h2)
        · obtain ⟨o, h1, h2, _⟩ := E13.ex; exact r _ _ _ (hp 13 o _ h1 h2)
        · obtain ⟨o, h1, h2, _⟩ := E14.ex; exact r _ _ _ (hp 14 o _ h1 h2)
        · obtain ⟨o, h1, h2, _⟩ := E15.ex; exact r _ _ _ (hp 15 o _ h1 h2)
        · obtain ⟨o, h1, h2, _⟩ := E16.ex; exact r _ _ _ (hp 16 o _ h1 h2)
        · obtain ⟨o, h1, h2, _⟩ := E17.ex; exact r _ _ _ (hp 17 o _ h1 h2)
        · obtain ⟨o, h1, h2, _⟩ := E18.ex; exact r _ _ _ (hp 18 o _ h1 h2)
        · obtain ⟨o, h1, h2, _⟩ := E19.ex; exact r _ _ _ (hp 19 o _ h1 h2)
        · obtain ⟨o, h1, h2, _⟩ := E20.ex; exact r _ _ _ (hp 20 o _ h1 h2)
        · obtain ⟨o, h1, h2, _⟩ := E21.ex; exact r _ _ _ (hp 21 o _ h1 h2)
        · obtain ⟨o, h1, h2, _⟩ := E22.ex; exact r _ _ _ (hp 22 o _ h1 h2)
        · obtain ⟨o, h1, h2, _⟩ := E23.ex; exact r _ _ _ (hp 23 o _ h1 h2)
        · obtain ⟨o, h1, h2, _⟩ := E24.ex; exact r _ _ _ (hp 24 o _ h1 h2)
        · obtain ⟨o, h1, h2, _⟩ := E25.ex; exact r _ _ _ (hp 25 o _ h1 h2)
        · obtain ⟨o, h1, h2, _⟩ := E26.ex; exact r _ _ _ (hp 26 o _ h1 h2)
        · obtain ⟨o, h1, h2, _⟩ := E27.ex; exact r _ _ _ (hp 27 o _ h1 h2)
        · obtain ⟨o, h1, h2, _⟩ := E28.ex; exact r _ _ _ (hp 28 o _ h1 h2)
        · obtain ⟨o, h1, h2, _⟩ := E29.ex; exact r _ _ _ (hp 29 o _ h1 h2)
        · obtain ⟨o, h1, h2, _⟩ := E30.ex; exact r _ _ _ (hp 30 o _ h1 h2)
        · obtain ⟨o, h1, h2, _⟩ := E31.ex; exact r _ _ _ (hp 31 o _ h1 h2)
        · obtain ⟨o, h1, h2, _⟩ := E32.ex; exact r _ _ _ (hp 32 o _ h1 h2)
        · obtain ⟨o, h1, h2, _⟩ := E33.ex; exact r _ _ _ (hp 33 o _ h1 h2)
        · obtain ⟨o, h1, h2, _⟩ := E34.ex; exact r _ _ _ (hp 34 o _ h1 h2)
        · obtain ⟨o, h1, h2, _⟩ := E35.ex; exact r _ _ _ (hp 35 o _ h1 h2)
        · obtain ⟨o, h1, h2, _⟩ := E36.ex; exact r _ _ _ (hp 36 o _ h1 h2)
        · obtain ⟨o, h1, h2, _⟩ := E37.ex; exact r _ _ _ (hp 37 o _ h1 h2)
        · obtain ⟨o, h1, h2, _⟩ := E38.ex; exact r _ _ _ (hp 38 o _ h1 h2)
        · obtain ⟨o, h1, h2, _⟩ := E39.ex; exact r _ _ _ (hp 39 o _ h1 h2)
        · obtain ⟨o, h1, h2, _⟩ := E40.ex; exact r _ _ _ (hp 40 o _ h1 h2)
        · obtain ⟨o, h1, h2, _⟩ := E41.ex; exact r _ _ _ (hp 41 o _ h1 h2)
        · obtain ⟨o, h1, h2, _⟩ := E42.ex; exact r _ _ _ (hp 42 o _ h1 h2)
        · obtain ⟨o, h1, h2, _⟩ := E43.ex; exact r _ _ _ (hp 43 o _ h1 h2)
        · obtain ⟨o, h1, h2, _⟩ := E44.ex; exact r _ _ _ (hp 44 o _ h1 h2)
        · obtain ⟨o, h1, h2, _⟩ := E45.ex; exact r _ _ _ (hp 45 o _ h1 h2)
        · obtain ⟨o, h1, h2, _⟩ := E46.ex; exact r _ _ _ (hp 46 o _ h1 h2)
        · obtain ⟨o, h1, h2, _⟩ := E47.ex; exact r _ _ _ (hp 47 o _ h1 h2)
      · intro t ht
        refine hr t (not_of ?_)
        rw [hds]
        simp only [List.mem_cons, List.not_mem_nil, or_false, forall_eq_or_imp, forall_eq] at ht
        simp only [List.contains_cons, List.contains_nil, Bool.or_eq_false_iff, beq_eq_false_iff_ne, ne_eq, Option.some.injEq, Bool.or_false]
        simp only [eq_comm (a := t)]
        simp [ht]
    rw [e]
    exact hend w hinv
def v25 (g N EL ccap : Nat) (cao : Option Addr) (_ec mem rs rr hop ls0 mn : Int) : Nat → Value
  | 0 => .pointer (some ⟨g, 2, none⟩)
  | 1 => .int .i64 mem
  | 2 => .int .i64 0
  | 3 => .bool true
  | 4 => .bool true
  | 5 => .int .i64 (N : Int)
  | 6 => .bool true
  | 7 => .bool true
  | 8 => .bool true
  | 9 => .pointer (some ⟨g, 0, none⟩)
  | 10 => .agg #[.int .i64 rs, .int .i64 rr]
  | 11 => .bool true
  | 12 => .bool true
  | 13 => .bool true
  | 14 => .pointer (some ⟨g, 0, none⟩)
  | 15 => .pointer (some ⟨g, 1, none⟩)
  | 16 => .int .i64 rr
  | 17 => .pointer (some ⟨g, 2, none⟩)
  | 18 => .int .i64 mem
  | 19 => .int .i64 ls0
  | 20 => .bool true
  | 21 => .bool true
  | 22 => .bool true
  | 23 => .pointer (some ⟨g, 3, none⟩)
  | 24 => .int .i64 hop
  | 25 => .int .i64 (N : Int)
  | 26 => .int .i64 (2 * (N : Int))
  | 27 => .bool true
  | 28 => .bool true
  | 29 => .bool true
  | 30 => .pointer (some ⟨g, 4, none⟩)
  | 31 => .slice cao EL ccap
  | 32 => .int .i64 (EL : Int)
  | 33 => .pointer (some ⟨g, 3, none⟩)
  | 34 => .int .i64 hop
  | 35 => .int .i64 (N : Int)
  | 36 => .int .i64 mn
  | 37 => .bool false
  | 38 => .bool false
  | 39 => .bool false
  | 46 => .bool false
  | 47 => .bool false
  | _ => undef
set_option maxRecDepth 100000 in
set_option maxHeartbeats 4000000 in
theorem region25 {ops : Array Oper} {id : Nat} {a0 : Act} {w0 : World} {Q : Exit → Act → World → Prop} (g N EL ccap : Nat) (cao : Option Addr) (ec mem rs rr hop ls0 mn : Int)
    (EE : Ops20 ops)
    (hN : ops.size = 48) (hlow : lowB ops = true) (hds : dsts ops = [some 7, some 8, some 9, some 10, some 11, some 12, some 13, some 14, some 15, some 16, some 17, some 18, some 19, some 20, some 21, some 22, some 23, some 24, some 25, some 26, some 27, some 28, some 29, some 30, some 31, some 32, some 33, some 34, some 35, some 36, some 37, some 38, some 39, some 40, some 41, some 42, some 43, some 44, some 45, some 46, some 47, some 48, some 49, some 50, some 51, some 52, some 53, some 2]) (hnd : injB ops = true)
    (hmx : Try.prog.follows .mixedOrders = true) (ha0 : a0.tmps.size = 54) (h1 : a0.tmps.getD 1 undef = .pointer (some ⟨g, 0, none⟩)) (h3 : a0.tmps.getD 3 undef = .int .i64 (N : Int))
    (d0 : w0.cell? ⟨g, 0, none⟩ = some (.int .i64 rs)) (d1 : w0.cell? ⟨g, 1, none⟩ = some (.int .i64 rr)) (d2 : w0.cell? ⟨g, 2, none⟩ = some (.int .i64 mem)) (d3 : w0.cell? ⟨g, 3, none⟩ = some (.int .i64 hop)) (d4 : w0.cell? ⟨g, 4, none⟩ = some (.slice cao EL ccap))
    (H0 : ∀ W, Calls Try.prog 137 #[.int .i64 mem] W fun e w' => e = .returned (.int .i64 0) ∧ Mod (fun _ => False) W w')
    (hN0 : decide (0 < (N : Int)) = true)
    (H2 : ∀ W, Calls Try.prog 117 #[.agg #[.int .i64 rs, .int .i64 rr]] W fun e w' => e = .returned (.bool true) ∧ Mod (fun _ => False) W w')
    (H3 : ∀ W, Calls Try.prog 140 #[.int .i64 mem] W fun e w' => e = .returned (.int .i64 ls0) ∧ Mod (fun _ => False) W w') (hlst : (rr == ls0) = true)
    (hmul : IntKind.i64.wrap (2 * (N : Int)) = 2 * (N : Int)) (H4 : ∀ W, Calls Try.prog 135 #[.int .i64 hop, .int .i64 1, .int .i64 (2 * (N : Int))] W fun e w' => e = .returned (.bool true) ∧ Mod (fun _ => False) W w')
    (hmn : (if (N : Int) < hop then (N : Int) else hop) = mn) (hel : ((EL : Int) == mn) = false)
    (hend : ∀ w, Mod (fun _ => False) w0.drew w → Q .normal (puts a0 [(7, .pointer (some ⟨g, 2, none⟩)), (8, .int .i64 mem), (9, .int .i64 0), (10, .bool true), (11, .bool true), (12, .int .i64 (N : Int)), (13, .bool true), (14, .bool true), (15, .bool true), (16, .pointer (some ⟨g, 0, none⟩)), (17, .agg #[.int .i64 rs, .int .i64 rr]), (18, .bool true), (19, .bool true), (20, .bool true), (21, .pointer (some ⟨g, 0, none⟩)), (22, .pointer (some ⟨g, 1, none⟩)), (23, .int .i64 rr), (24, .pointer (some ⟨g, 2, none⟩)), (25, .int .i64 mem), (26, .int .i64 ls0), (27, .bool true), (28, .bool true), (29, .bool true), (30, .pointer (some ⟨g, 3, none⟩)), (31, .int .i64 hop), (32, .int .i64 (N : Int)), (33, .int .i64 (2 * (N : Int))), (34, .bool true), (35, .bool true), (36, .bool true), (37, .pointer (some ⟨g, 4, none⟩)), (38, .slice cao EL ccap), (39, .int .i64 (EL : Int)), (40, .pointer (some ⟨g, 3, none⟩)), (41, .int .i64 hop), (42, .int .i64 (N : Int)), (43, .int .i64 mn), (44, .bool false), (45, .bool false), (46, .bool false), (47, undef), (48, undef), (49, undef), (50, undef), (51, undef), (52, undef), (53, .bool false), (2, .bool false)]) w) :
    (Code.region id ops true).wp Try.prog Q a0 w0 := by
  obtain ⟨E0, E1, E2, E3, E4, E5, E6, E7, E8, E9, E10, E11, E12, E13, E14, E15, E16, E17, E18, E19, E20, E21, E22, E23, E24, E25, E26, E27, E28, E29, E30, E31, E32, E33, E34, E35, E36, E37, E38, E39, E40, E41, E42, E43, E44, E45, E46, E47⟩ := EE
  obtain ⟨PP, q, r⟩ : ∃ PP : Nat → Value → World → Prop, (∀ i v w, (fun i' v _ => v = v25 g N EL ccap cao ec mem rs rr hop ls0 mn i') i v w → PP i v w) ∧ (∀ i v w, PP i v w → (fun i' v _ => v = v25 g N EL ccap cao ec mem rs rr hop ls0 mn i') i v w) := ⟨(fun i' v _ => v = v25 g N EL ccap cao ec mem rs rr hop ls0 mn i'), fun _ _ _ h => h, fun _ _ _ h => h⟩
  have D : ∀ {W : World} {a : Addr} {v : Value}, Mod (fun _ => False) w0.drew W → w0.cell? a = some v → W.cell? a = some v := fun hW hc => hW.cell (by simpa using hc) (fun h => h)
  have s0 : S2 ops PP w0 a0 Q 0 := by
    refine E0.stepW fun o hd ho hg hw y w listed hsz hls hun hwt hdown D' R hinv K hK => ?_
    rw [ha0] at hsz
    refine .inl ⟨wanted_none hg, ?_⟩
    have f1 : y.eval (Operand.tmp 1) = .pointer (some ⟨g, 0, none⟩) := (R 1 (not_of (by rw [hds]; decide))).trans h1
    exact wp_value (ox_field ho f1 (flc1 w)) (hK _ _ (Mod.refl _ _) (q _ _ _ rfl) hinv)
  have s1 : S2 ops PP w0 a0 Q 1 := by
    refine E1.stepW fun o hd ho hg hw y w listed hsz hls hun hwt hdown D' R hinv K hK => ?_
    rw [ha0] at hsz
    refine .inl ⟨wanted_none hg, ?_⟩
    have f7 : y.eval (Operand.tmp 7) = .pointer (some ⟨g, 2, none⟩) := r _ _ _ (E0.postW D' (hw 0 (by simp)))
    exact wp_value (ox_load ho f7 (ld1 (D hinv d2))) (hK _ _ (Mod.refl _ _) (q _ _ _ rfl) hinv)
  have s2 : S2 ops PP w0 a0 Q 2 := by
    refine E2.stepW fun o hd ho hg hw y w listed hsz hls hun hwt hdown D' R hinv K hK => ?_
    rw [ha0] at hsz
    refine .inl ⟨wanted_none hg, ?_⟩
    have f8 : y.eval (Operand.tmp 8) = .int .i64 mem := r _ _ _ (E1.postW D' (hw 1 (by simp)))
    refine wp_enter (f := 137) (args := #[.int .i64 mem]) ?_ (H0 w) ?_
    · rw [exec_call1 y.eval (fun args w => by simp [go_sem]) rfl ho, f8]
    · rintro e w' ⟨rfl, hm⟩
      exact ⟨_, rfl, hK _ _ hm (q _ _ _ rfl) (hinv.trans hm (fun _ _ h => h) (fun _ _ h => h))⟩
  have s3 : S2 ops PP w0 a0 Q 3 := by
    refine E3.stepW fun o hd ho hg hw y w listed hsz hls hun hwt hdown D' R hinv K hK => ?_
    rw [ha0] at hsz
    refine .inl ⟨wanted_none hg, ?_⟩
    have f9 : y.eval (Operand.tmp 9) = .int .i64 0 := r _ _ _ (E2.postW D' (hw 2 (by simp)))
    exact wp_value (ox_eql0 ho (fun _ => rfl) f9 rfl) (hK _ _ (Mod.refl _ _) (q _ _ _ rfl) hinv)
  have s4 : S2 ops PP w0 a0 Q 4 := by
    refine E4.stepW fun o hd ho hg hw y w listed hsz hls hun hwt hdown D' R hinv K hK => ?_
    rw [ha0] at hsz
    refine .inl ⟨wanted_none hg, ?_⟩
    have f10 : y.eval (Operand.tmp 10) = .bool true := r _ _ _ (E3.postW D' (hw 3 (by simp)))
    exact wp_value (ox_move ho f10) (hK _ _ (Mod.refl _ _) (q _ _ _ rfl) hinv)
  have s5 : S2 ops PP w0 a0 Q 5 := by
    refine E5.stepW fun o hd ho hg hw y w listed hsz hls hun hwt hdown D' R hinv K hK => ?_
    rw [ha0] at hsz
    refine .inl ⟨wanted_yes E4 hg (by rw [hsz]; decide) (r _ _ _ (E4.postW D' (hw 4 (by simp)))), ?_⟩
    have f3 : y.eval (Operand.tmp 3) = .int .i64 (N : Int) := (R 3 (not_of (by rw [hds]; decide))).trans h3
    exact wp_value (ox_move ho f3) (hK _ _ (Mod.refl _ _) (q _ _ _ rfl) hinv)
  have s6 : S2 ops PP w0 a0 Q 6 := by
    refine E6.stepW fun o hd ho hg hw y w listed hsz hls hun hwt hdown D' R hinv K hK => ?_
    rw [ha0] at hsz
    refine .inl ⟨wanted_yes E4 hg (by rw [hsz]; decide) (r _ _ _ (E4.postW D' (hw 4 (by simp)))), ?_⟩
    have f12 : y.eval (Operand.tmp 12) = .int .i64 (N : Int) := r _ _ _ (E5.postW D' (hw 5 (by simp)))
    exact wp_value (ox_gtr0 ho (fun _ => rfl) f12 hN0) (hK _ _ (Mod.refl _ _) (q _ _ _ rfl) hinv)
  have s7 : S2 ops PP w0 a0 Q 7 := by
    refine E7.stepW fun o hd ho hg hw y w listed hsz hls hun hwt hdown D' R hinv K hK => ?_
    rw [ha0] at hsz
    refine .inl ⟨wanted_none hg, ?_⟩
    have f11 : y.eval (Operand.tmp 11) = .bool true := r _ _ _ (E4.postW D' (hw 4 (by simp)))
    have f13 : y.eval (Operand.tmp 13) = .bool true := r _ _ _ (E6.postW D' (hw 6 (by simp)))
    exact wp_value (ox_pick ho f11 f13) (hK _ _ (Mod.refl _ _) (q _ _ _ rfl) hinv)
  have s8 : S2 ops PP w0 a0 Q 8 := by
    refine E8.stepW fun o hd ho hg hw y w listed hsz hls hun hwt hdown D' R hinv K hK => ?_
    rw [ha0] at hsz
    refine .inl ⟨wanted_none hg, ?_⟩
    have f14 : y.eval (Operand.tmp 14) = .bool true := r _ _ _ (E7.postW D' (hw 7 (by simp)))
    exact wp_value (ox_move ho f14) (hK _ _ (Mod.refl _ _) (q _ _ _ rfl) hinv)
  have s9 : S2 ops PP w0 a0 Q 9 := by
    refine E9.stepW fun o hd ho hg hw y w listed hsz hls hun hwt hdown D' R hinv K hK => ?_
    rw [ha0] at hsz
    refine .inl ⟨wanted_yes E8 hg (by rw [hsz]; decide) (r _ _ _ (E8.postW D' (hw 8 (by simp)))), ?_⟩
    have f1 : y.eval (Operand.tmp 1) = .pointer (some ⟨g, 0, none⟩) := (R 1 (not_of (by rw [hds]; decide))).trans h1
    exact wp_value (ox_field ho f1 (flc0 w)) (hK _ _ (Mod.refl _ _) (q _ _ _ rfl) hinv)
  have s10 : S2 ops PP w0 a0 Q 10 := by
    refine E10.stepW fun o hd ho hg hw y w listed hsz hls hun hwt hdown D' R hinv K hK => ?_
    rw [ha0] at hsz
    refine .inl ⟨wanted_yes E8 hg (by rw [hsz]; decide) (r _ _ _ (E8.postW D' (hw 8 (by simp)))), ?_⟩
    have f16 : y.eval (Operand.tmp 16) = .pointer (some ⟨g, 0, none⟩) := r _ _ _ (E9.postW D' (hw 9 (by simp)))
    exact wp_value (ox_load ho f16 (ld2 (D hinv d0) (D hinv d1))) (hK _ _ (Mod.refl _ _) (q _ _ _ rfl) hinv)
  have s11 : S2 ops PP w0 a0 Q 11 := by
    refine E11.stepW fun o hd ho hg hw y w listed hsz hls hun hwt hdown D' R hinv K hK => ?_
    rw [ha0] at hsz
    refine .inl ⟨wanted_yes E8 hg (by rw [hsz]; decide) (r _ _ _ (E8.postW D' (hw 8 (by simp)))), ?_⟩
    have f17 : y.eval (Operand.tmp 17) = .agg #[.int .i64 rs, .int .i64 rr] := r _ _ _ (E10.postW D' (hw 10 (by simp)))
    refine wp_enter (f := 117) (args := #[.agg #[.int .i64 rs, .int .i64 rr]]) ?_ (H2 w) ?_
    · rw [exec_call1 y.eval (fun args w => by simp [go_sem]) rfl ho, f17]
    · rintro e w' ⟨rfl, hm⟩
      exact ⟨_, rfl, hK _ _ hm (q _ _ _ rfl) (hinv.trans hm (fun _ _ h => h) (fun _ _ h => h))⟩
  have s12 : S2 ops PP w0 a0 Q 12 := by
    refine E12.stepW fun o hd ho hg hw y w listed hsz hls hun hwt hdown D' R hinv K hK => ?_
    rw [ha0] at hsz
    refine .inl ⟨wanted_none hg, ?_⟩
    have f15 : y.eval (Operand.tmp 15) = .bool true := r _ _ _ (E8.postW D' (hw 8 (by simp)))
    have f18 : y.eval (Operand.tmp 18) = .bool true := r _ _ _ (E11.postW D' (hw 11 (by simp)))
    exact wp_value (ox_pick ho f15 f18) (hK _ _ (Mod.refl _ _) (q _ _ _ rfl) hinv)
  have s13 : S2 ops PP w0 a0 Q 13 := by
    refine E13.stepW fun o hd ho hg hw y w listed hsz hls hun hwt hdown D' R hinv K hK => ?_
    rw [ha0] at hsz
    refine .inl ⟨wanted_none hg, ?_⟩
    have f19 : y.eval (Operand.tmp 19) = .bool true := r _ _ _ (E12.postW D' (hw 12 (by simp)))
    exact wp_value (ox_move ho f19) (hK _ _ (Mod.refl _ _) (q _ _ _ rfl) hinv)
  have s14 : S2 ops PP w0 a0 Q 14 := by
    refine E14.stepW fun o hd ho hg hw y w listed hsz hls hun hwt hdown D' R hinv K hK => ?_
    rw [ha0] at hsz
    refine .inl ⟨wanted_yes E13 hg (by rw [hsz]; decide) (r _ _ _ (E13.postW D' (hw 13 (by simp)))), ?_⟩
    have f1 : y.eval (Operand.tmp 1) = .pointer (some ⟨g, 0, none⟩) := (R 1 (not_of (by rw [hds]; decide))).trans h1
    exact wp_value (ox_field ho f1 (flc0 w)) (hK _ _ (Mod.refl _ _) (q _ _ _ rfl) hinv)
  have s15 : S2 ops PP w0 a0 Q 15 := by
    refine E15.stepW fun o hd ho hg hw y w listed hsz hls hun hwt hdown D' R hinv K hK => ?_
    rw [ha0] at hsz
    refine .inl ⟨wanted_yes E13 hg (by rw [hsz]; decide) (r _ _ _ (E13.postW D' (hw 13 (by simp)))), ?_⟩
    have f21 : y.eval (Operand.tmp 21) = .pointer (some ⟨g, 0, none⟩) := r _ _ _ (E14.postW D' (hw 14 (by simp)))
    exact wp_value (ox_field ho f21 (flr1 w)) (hK _ _ (Mod.refl _ _) (q _ _ _ rfl) hinv)
  have s16 : S2 ops PP w0 a0 Q 16 := by
    refine E16.stepW fun o hd ho hg hw y w listed hsz hls hun hwt hdown D' R hinv K hK => ?_
    rw [ha0] at hsz
    refine .inl ⟨wanted_yes E13 hg (by rw [hsz]; decide) (r _ _ _ (E13.postW D' (hw 13 (by simp)))), ?_⟩
    have f22 : y.eval (Operand.tmp 22) = .pointer (some ⟨g, 1, none⟩) := r _ _ _ (E15.postW D' (hw 15 (by simp)))
    exact wp_value (ox_load ho f22 (ld1 (D hinv d1))) (hK _ _ (Mod.refl _ _) (q _ _ _ rfl) hinv)
  have s17 : S2 ops PP w0 a0 Q 17 := by
    refine E17.stepW fun o hd ho hg hw y w listed hsz hls hun hwt hdown D' R hinv K hK => ?_
    rw [ha0] at hsz
    refine .inl ⟨wanted_yes E13 hg (by rw [hsz]; decide) (r _ _ _ (E13.postW D' (hw 13 (by simp)))), ?_⟩
    have f1 : y.eval (Operand.tmp 1) = .pointer (some ⟨g, 0, none⟩) := (R 1 (not_of (by rw [hds]; decide))).trans h1
    exact wp_value (ox_field ho f1 (flc1 w)) (hK _ _ (Mod.refl _ _) (q _ _ _ rfl) hinv)
  have s18 : S2 ops PP w0 a0 Q 18 := by
    refine E18.stepW fun o hd ho hg hw y w listed hsz hls hun hwt hdown D' R hinv K hK => ?_
    rw [ha0] at hsz
    refine .inl ⟨wanted_yes E13 hg (by rw [hsz]; decide) (r _ _ _ (E13.postW D' (hw 13 (by simp)))), ?_⟩
    have f24 : y.eval (Operand.tmp 24) = .pointer (some ⟨g, 2, none⟩) := r _ _ _ (E17.postW D' (hw 17 (by simp)))
    exact wp_value (ox_load ho f24 (ld1 (D hinv d2))) (hK _ _ (Mod.refl _ _) (q _ _ _ rfl) hinv)
  have s19 : S2 ops PP w0 a0 Q 19 := by
    refine E19.stepW fun o hd ho hg hw y w listed hsz hls hun hwt hdown D' R hinv K hK => ?_
    rw [ha0] at hsz
    refine .inl ⟨wanted_yes E13 hg (by rw [hsz]; decide) (r _ _ _ (E13.postW D' (hw 13 (by simp)))), ?_⟩
    have f25 : y.eval (Operand.tmp 25) = .int .i64 mem := r _ _ _ (E18.postW D' (hw 18 (by simp)))
    refine wp_enter (f := 140) (args := #[.int .i64 mem]) ?_ (H3 w) ?_
    · rw [exec_call1 y.eval (fun args w => by simp [go_sem]) rfl ho, f25]
    · rintro e w' ⟨rfl, hm⟩
      exact ⟨_, rfl, hK _ _ hm (q _ _ _ rfl) (hinv.trans hm (fun _ _ h => h) (fun _ _ h => h))⟩
  have s20 : S2 ops PP w0 a0 Q 20 := by
    refine E20.stepW fun o hd ho hg hw y w listed hsz hls hun hwt hdown D' R hinv K hK => ?_
    rw [ha0] at hsz
    refine .inl ⟨wanted_yes E13 hg (by rw [hsz]; decide) (r _ _ _ (E13.postW D' (hw 13 (by simp)))), ?_⟩
    have f23 : y.eval (Operand.tmp 23) = .int .i64 rr := r _ _ _ (E16.postW D' (hw 16 (by simp)))
    have f26 : y.eval (Operand.tmp 26) = .int .i64 ls0 := r _ _ _ (E19.postW D' (hw 19 (by simp)))
    exact wp_value (ox_eql ho f23 f26 hlst) (hK _ _ (Mod.refl _ _) (q _ _ _ rfl) hinv)
  have s21 : S2 ops PP w0 a0 Q 21 := by
    refine E21.stepW fun o hd ho hg hw y w listed hsz hls hun hwt hdown D' R hinv K hK => ?_
    rw [ha0] at hsz
    refine .inl ⟨wanted_none hg, ?_⟩
    have f20 : y.eval (Operand.tmp 20) = .bool true := r _ _ _ (E13.postW D' (hw 13 (by simp)))
    have f27 : y.eval (Operand.tmp 27) = .bool true := r _ _ _ (E20.postW D' (hw 20 (by simp)))
    exact wp_value (ox_pick ho f20 f27) (hK _ _ (Mod.refl _ _) (q _ _ _ rfl) hinv)
  have s22 : S2 ops PP w0 a0 Q 22 := by
    refine E22.stepW fun o hd ho hg hw y w listed hsz hls hun hwt hdown D' R hinv K hK => ?_
    rw [ha0] at hsz
    refine .inl ⟨wanted_none hg, ?_⟩
    have f28 : y.eval (Operand.tmp 28) = .bool true := r _ _ _ (E21.postW D' (hw 21 (by simp)))
    exact wp_value (ox_move ho f28) (hK _ _ (Mod.refl _ _) (q _ _ _ rfl) hinv)
  have s23 : S2 ops PP w0 a0 Q 23 := by
    refine E23.stepW fun o hd ho hg hw y w listed hsz hls hun hwt hdown D' R hinv K hK => ?_
    rw [ha0] at hsz
    refine .inl ⟨wanted_yes E22 hg (by rw [hsz]; decide) (r _ _ _ (E22.postW D' (hw 22 (by simp)))), ?_⟩
    have f1 : y.eval (Operand.tmp 1) = .pointer (some ⟨g, 0, none⟩) := (R 1 (not_of (by rw [hds]; decide))).trans h1
    exact wp_value (ox_field ho f1 (flc2 w)) (hK _ _ (Mod.refl _ _) (q _ _ _ rfl) hinv)
  have s24 : S2 ops PP w0 a0 Q 24 := by
    refine E24.stepW fun o hd ho hg hw y w listed hsz hls hun hwt hdown D' R hinv K hK => ?_
    rw [ha0] at hsz
    refine .inl ⟨wanted_yes E22 hg (by rw [hsz]; decide) (r _ _ _ (E22.postW D' (hw 22 (by simp)))), ?_⟩
    have f30 : y.eval (Operand.tmp 30) = .pointer (some ⟨g, 3, none⟩) := r _ _ _ (E23.postW D' (hw 23 (by simp)))
    exact wp_value (ox_load ho f30 (ld1 (D hinv d3))) (hK _ _ (Mod.refl _ _) (q _ _ _ rfl) hinv)
  have s25 : S2 ops PP w0 a0 Q 25 := by
    refine E25.stepW fun o hd ho hg hw y w listed hsz hls hun hwt hdown D' R hinv K hK => ?_
    rw [ha0] at hsz
    refine .inl ⟨wanted_yes E22 hg (by rw [hsz]; decide) (r _ _ _ (E22.postW D' (hw 22 (by simp)))), ?_⟩
    have f3 : y.eval (Operand.tmp 3) = .int .i64 (N : Int) := (R 3 (not_of (by rw [hds]; decide))).trans h3
    exact wp_value (ox_move ho f3) (hK _ _ (Mod.refl _ _) (q _ _ _ rfl) hinv)
  have s26 : S2 ops PP w0 a0 Q 26 := by
    refine E26.stepW fun o hd ho hg hw y w listed hsz hls hun hwt hdown D' R hinv K hK => ?_
    rw [ha0] at hsz
    refine .inl ⟨wanted_yes E22 hg (by rw [hsz]; decide) (r _ _ _ (E22.postW D' (hw 22 (by simp)))), ?_⟩
    have f32 : y.eval (Operand.tmp 32) = .int .i64 (N : Int) := r _ _ _ (E25.postW D' (hw 25 (by simp)))
    exact wp_value (ox_mul2 ho (fun _ => rfl) f32 hmul) (hK _ _ (Mod.refl _ _) (q _ _ _ rfl) hinv)
  have s27 : S2 ops PP w0 a0 Q 27 := by
    refine E27.stepW fun o hd ho hg hw y w listed hsz hls hun hwt hdown D' R hinv K hK => ?_
    rw [ha0] at hsz
    refine .inl ⟨wanted_yes E22 hg (by rw [hsz]; decide) (r _ _ _ (E22.postW D' (hw 22 (by simp)))), ?_⟩
    have f31 : y.eval (Operand.tmp 31) = .int .i64 hop := r _ _ _ (E24.postW D' (hw 24 (by simp)))
    have f33 : y.eval (Operand.tmp 33) = .int .i64 (2 * (N : Int)) := r _ _ _ (E26.postW D' (hw 26 (by simp)))
    refine wp_enter (f := 135) (args := #[.int .i64 hop, .int .i64 1, .int .i64 (2 * (N : Int))]) ?_ (H4 w) ?_
    · rw [exec_call3 y.eval (fun args w => by simp [go_sem]) rfl ho, f31, f33]; rfl
    · rintro e w' ⟨rfl, hm⟩
      exact ⟨_, rfl, hK _ _ hm (q _ _ _ rfl) (hinv.trans hm (fun _ _ h => h) (fun _ _ h => h))⟩
  have s28 : S2 ops PP w0 a0 Q 28 := by
    refine E28.stepW fun o hd ho hg hw y w listed hsz hls hun hwt hdown D' R hinv K hK => ?_
    rw [ha0] at hsz
    refine .inl ⟨wanted_none hg, ?_⟩
    have f29 : y.eval (Operand.tmp 29) = .bool true := r _ _ _ (E22.postW D' (hw 22 (by simp)))
    have f34 : y.eval (Operand.tmp 34) = .bool true := r _ _ _ (E27.postW D' (hw 27 (by simp)))
    exact wp_value (ox_pick ho f29 f34) (hK _ _ (Mod.refl _ _) (q _ _ _ rfl) hinv)
  have s29 : S2 ops PP w0 a0 Q 29 := by
    refine E29.stepW fun o hd ho hg hw y w listed hsz hls hun hwt hdown D' R hinv K hK => ?_
    rw [ha0] at hsz
    refine .inl ⟨wanted_none hg, ?_⟩
    have f35 : y.eval (Operand.tmp 35) = .bool true := r _ _ _ (E28.postW D' (hw 28 (by simp)))
    exact wp_value (ox_move ho f35) (hK _ _ (Mod.refl _ _) (q _ _ _ rfl) hinv)
  have s30 : S2 ops PP w0 a0 Q 30 := by
    refine E30.stepW fun o hd ho hg hw y w listed hsz hls hun hwt hdown D' R hinv K hK => ?_
    rw [ha0] at hsz
    refine .inl ⟨wanted_yes E29 hg (by rw [hsz]; decide) (r _ _ _ (E29.postW D' (hw 29 (by simp)))), ?_⟩
    have f1 : y.eval (Operand.tmp 1) = .pointer (some ⟨g, 0, none⟩) := (R 1 (not_of (by rw [hds]; decide))).trans h1
    exact wp_value (ox_field ho f1 (flc3 w)) (hK _ _ (Mod.refl _ _) (q _ _ _ rfl) hinv)
  have s31 : S2 ops PP w0 a0 Q 31 := by
    refine E31.stepW fun o hd ho hg hw y w listed hsz hls hun hwt hdown D' R hinv K hK => ?_
    rw [ha0] at hsz
    refine .inl ⟨wanted_yes E29 hg (by rw [hsz]; decide) (r _ _ _ (E29.postW D' (hw 29 (by simp)))), ?_⟩
    have f37 : y.eval (Operand.tmp 37) = .pointer (some ⟨g, 4, none⟩) := r _ _ _ (E30.postW D' (hw 30 (by simp)))
    exact wp_value (ox_load ho f37 (lde (D hinv d4))) (hK _ _ (Mod.refl _ _) (q _ _ _ rfl) hinv)
  have s32 : S2 ops PP w0 a0 Q 32 := by
    refine E32.stepW fun o hd ho hg hw y w listed hsz hls hun hwt hdown D' R hinv K hK => ?_
    rw [ha0] at hsz
    refine .inl ⟨wanted_yes E29 hg (by rw [hsz]; decide) (r _ _ _ (E29.postW D' (hw 29 (by simp)))), ?_⟩
    have f38 : y.eval (Operand.tmp 38) = .slice cao EL ccap := r _ _ _ (E31.postW D' (hw 31 (by simp)))
    exact wp_value (ox_len ho f38) (hK _ _ (Mod.refl _ _) (q _ _ _ rfl) hinv)
  have s33 : S2 ops PP w0 a0 Q 33 := by
    refine E33.stepW fun o hd ho hg hw y w listed hsz hls hun hwt hdown D' R hinv K hK => ?_
    rw [ha0] at hsz
    refine .inl ⟨wanted_yes E29 hg (by rw [hsz]; decide) (r _ _ _ (E29.postW D' (hw 29 (by simp)))), ?_⟩
    have f1 : y.eval (Operand.tmp 1) = .pointer (some ⟨g, 0, none⟩) := (R 1 (not_of (by rw [hds]; decide))).trans h1
    exact wp_value (ox_field ho f1 (flc2 w)) (hK _ _ (Mod.refl _ _) (q _ _ _ rfl) hinv)
  have s34 : S2 ops PP w0 a0 Q 34 := by
    refine E34.stepW fun o hd ho hg hw y w listed hsz hls hun hwt hdown D' R hinv K hK => ?_
    rw [ha0] at hsz
    refine .inl ⟨wanted_yes E29 hg (by rw [hsz]; decide) (r _ _ _ (E29.postW D' (hw 29 (by simp)))), ?_⟩
    have f40 : y.eval (Operand.tmp 40) = .pointer (some ⟨g, 3, none⟩) := r _ _ _ (E33.postW D' (hw 33 (by simp)))
    exact wp_value (ox_load ho f40 (ld1 (D hinv d3))) (hK _ _ (Mod.refl _ _) (q _ _ _ rfl) hinv)
  have s35 : S2 ops PP w0 a0 Q 35 := by
    refine E35.stepW fun o hd ho hg hw y w listed hsz hls hun hwt hdown D' R hinv K hK => ?_
    rw [ha0] at hsz
    refine .inl ⟨wanted_yes E29 hg (by rw [hsz]; decide) (r _ _ _ (E29.postW D' (hw 29 (by simp)))), ?_⟩
    have f3 : y.eval (Operand.tmp 3) = .int .i64 (N : Int) := (R 3 (not_of (by rw [hds]; decide))).trans h3
    exact wp_value (ox_move ho f3) (hK _ _ (Mod.refl _ _) (q _ _ _ rfl) hinv)
  have s36 : S2 ops PP w0 a0 Q 36 := by
    refine E36.stepW fun o hd ho hg hw y w listed hsz hls hun hwt hdown D' R hinv K hK => ?_
    rw [ha0] at hsz
    refine .inl ⟨wanted_yes E29 hg (by rw [hsz]; decide) (r _ _ _ (E29.postW D' (hw 29 (by simp)))), ?_⟩
    have f41 : y.eval (Operand.tmp 41) = .int .i64 hop := r _ _ _ (E34.postW D' (hw 34 (by simp)))
    have f42 : y.eval (Operand.tmp 42) = .int .i64 (N : Int) := r _ _ _ (E35.postW D' (hw 35 (by simp)))
    exact wp_value (ox_min ho f41 f42 hmn) (hK _ _ (Mod.refl _ _) (q _ _ _ rfl) hinv)
  have s37 : S2 ops PP w0 a0 Q 37 := by
    refine E37.stepW fun o hd ho hg hw y w listed hsz hls hun hwt hdown D' R hinv K hK => ?_
    rw [ha0] at hsz
    refine .inl ⟨wanted_yes E29 hg (by rw [hsz]; decide) (r _ _ _ (E29.postW D' (hw 29 (by simp)))), ?_⟩
    have f39 : y.eval (Operand.tmp 39) = .int .i64 (EL : Int) := r _ _ _ (E32.postW D' (hw 32 (by simp)))
    have f43 : y.eval (Operand.tmp 43) = .int .i64 mn := r _ _ _ (E36.postW D' (hw 36 (by simp)))
    exact wp_value (ox_eql ho f39 f43 hel) (hK _ _ (Mod.refl _ _) (q _ _ _ rfl) hinv)
  have s38 : S2 ops PP w0 a0 Q 38 := by
    refine E38.stepW fun o hd ho hg hw y w listed hsz hls hun hwt hdown D' R hinv K hK => ?_
    rw [ha0] at hsz
    refine .inl ⟨wanted_none hg, ?_⟩
    have f36 : y.eval (Operand.tmp 36) = .bool true := r _ _ _ (E29.postW D' (hw 29 (by simp)))
    have f44 : y.eval (Operand.tmp 44) = .bool false := r _ _ _ (E37.postW D' (hw 37 (by simp)))
    exact wp_value (ox_pick ho f36 f44) (hK _ _ (Mod.refl _ _) (q _ _ _ rfl) hinv)
  have s39 : S2 ops PP w0 a0 Q 39 := by
    refine E39.stepW fun o hd ho hg hw y w listed hsz hls hun hwt hdown D' R hinv K hK => ?_
    rw [ha0] at hsz
    refine .inl ⟨wanted_none hg, ?_⟩
    have f45 : y.eval (Operand.tmp 45) = .bool false := r _ _ _ (E38.postW D' (hw 38 (by simp)))
    exact wp_value (ox_move ho f45) (hK _ _ (Mod.refl _ _) (q _ _ _ rfl) hinv)
  have s40 : S2 ops PP w0 a0 Q 40 := by
    refine E40.stepW fun o hd ho hg hw y w listed hsz hls hun hwt hdown D' R hinv K hK => ?_
    rw [ha0] at hsz
    exact .inr ⟨wanted_no E39 hg (by rw [hsz]; decide) (r _ _ _ (E39.postW D' (hw 39 (by simp)))), hK _ _ (Mod.refl _ _) (q _ _ _ rfl) hinv⟩
  have s41 : S2 ops PP w0 a0 Q 41 := by
    refine E41.stepW fun o hd ho hg hw y w listed hsz hls hun hwt hdown D' R hinv K hK => ?_
    rw [ha0] at hsz
    exact .inr ⟨wanted_no E39 hg (by rw [hsz]; decide) (r _ _ _ (E39.postW D' (hw 39 (by simp)))), hK _ _ (Mod.refl _ _) (q _ _ _ rfl) hinv⟩
  have s42 : S2 ops PP w0 a0 Q 42 := by
    refine E42.stepW fun o hd ho hg hw y w listed hsz hls hun hwt hdown D' R hinv K hK => ?_
    rw [ha0] at hsz
    exact .inr ⟨wanted_no E39 hg (by rw [hsz]; decide) (r _ _ _ (E39.postW D' (hw 39 (by simp)))), hK _ _ (Mod.refl _ _) (q _ _ _ rfl) hinv⟩
  have s43 : S2 ops PP w0 a0 Q 43 := by
    refine E43.stepW fun o hd ho hg hw y w listed hsz hls hun hwt hdown D' R hinv K hK => ?_
    rw [ha0] at hsz
    exact .inr ⟨wanted_no E39 hg (by rw [hsz]; decide) (r _ _ _ (E39.postW D' (hw 39 (by simp)))), hK _ _ (Mod.refl _ _) (q _ _ _ rfl) hinv⟩
  have s44 : S2 ops PP w0 a0 Q 44 := by
    refine E44.stepW fun o hd ho hg hw y w listed hsz hls hun hwt hdown D' R hinv K hK => ?_
    rw [ha0] at hsz
    exact .inr ⟨wanted_no E39 hg (by rw [hsz]; decide) (r _ _ _ (E39.postW D' (hw 39 (by simp)))), hK _ _ (Mod.refl _ _) (q _ _ _ rfl) hinv⟩
  have s45 : S2 ops PP w0 a0 Q 45 := by
    refine E45.stepW fun o hd ho hg hw y w listed hsz hls hun hwt hdown D' R hinv K hK => ?_
    rw [ha0] at hsz
    exact .inr ⟨wanted_no E39 hg (by rw [hsz]; decide) (r _ _ _ (E39.postW D' (hw 39 (by simp)))), hK _ _ (Mod.refl _ _) (q _ _ _ rfl) hinv⟩
  have s46 : S2 ops PP w0 a0 Q 46 := by
    refine E46.stepW fun o hd ho hg hw y w listed hsz hls hun hwt hdown D' R hinv K hK => ?_
    rw [ha0] at hsz
    refine .inl ⟨wanted_none hg, ?_⟩
    have f46 : y.eval (Operand.tmp 46) = .bool false := r _ _ _ (E39.postW D' (hw 39 (by simp)))
    have f52 : y.eval (Operand.tmp 52) = undef := r _ _ _ (E45.postW D' (hw 45 (by simp)))
    exact wp_value (ox_pick ho f46 rfl) (hK _ _ (Mod.refl _ _) (q _ _ _ rfl) hinv)
  have s47 : S2 ops PP w0 a0 Q 47 := by
    refine E47.stepW fun o hd ho hg hw y w listed hsz hls hun hwt hdown D' R hinv K hK => ?_
    rw [ha0] at hsz
    refine .inl ⟨wanted_none hg, ?_⟩
    have f53 : y.eval (Operand.tmp 53) = .bool false := r _ _ _ (E46.postW D' (hw 46 (by simp)))
    exact wp_value (ox_assign ho f53) (hK _ _ (Mod.refl _ _) (q _ _ _ rfl) hinv)
  have stab : ∀ i v w w', Mod (fun _ => False) w w' → PP i v w → PP i v w' := fun _ _ _ _ _ h => q _ _ _ (r _ _ _ h)
  refine region_freeW (Post := PP) (Inv := M0 w0) hmx (low_of hlow) (fun i o ho => by rw [ha0]; exact dst_of (by rw [hds]; decide) i o ho) (inj_of hnd) (Mod.refl _ _) stab ?_ ?_
  · intro i o ho
    have hi : i < 48 := by
      rw [← hN]
      rcases Nat.lt_or_ge i ops.size with h | h
      · exact h
      · rw [Array.getElem?_eq_none h] at ho; cases ho
    clear hend
    match i, hi with
    | 0, _ => exact s0 o ho
    | 1, _ => exact s1 o ho
    | 2, _ => exact s2 o ho
    | 3, _ => exact s3 o ho
    | 4, _ => exact s4 o ho
    | 5, _ => exact s5 o ho
    | 6, _ => exact s6 o ho
    | 7, _ => exact s7 o ho
    | 8, _ => exact s8 o ho
    | 9, _ => exact s9 o ho
    | 10, _ => exact s10 o ho
    | 11, _ => exact s11 o ho
    | 12, _ => exact s12 o ho
    | 13, _ => exact s13 o ho
    | 14, _ => exact s14 o ho
    | 15, _ => exact s15 o ho
    | 16, _ => exact s16 o ho
    | 17, _ => exact s17 o ho
    | 18, _ => exact s18 o ho
    | 19, _ => exact s19 o ho
    | 20, _ => exact s20 o ho
    | 21, _ => exact s21 o ho
    | 22, _ => exact s22 o ho
    | 23, _ => exact s23 o ho
    | 24, _ => exact s24 o ho
    | 25, _ => exact s25 o ho
    | 26, _ => exact s26 o ho
    | 27, _ => exact s27 o ho
    | 28, _ => exact s28 o ho
    | 29, _ => exact s29 o ho
    | 30, _ => exact s30 o ho
    | 31, _ => exact s31 o ho
    | 32, _ => exact s32 o ho
    | 33, _ => exact s33 o ho
    | 34, _ => exact s34 o ho
    | 35, _ => exact s35 o ho
    | 36, _ => exact s36 o ho
    | 37, _ => exact s37 o ho
    | 38, _ => exact s38 o ho
    | 39, _ => exact s39 o ho
    | 40, _ => exact s40 o ho
    | 41, _ => exact s41 o ho
    | 42, _ => exact s42 o ho
    | 43, _ => exact s43 o ho
    | 44, _ => exact s44 o ho
    | 45, _ => exact s45 o ho
    | 46, _ => exact s46 o ho
    | 47, _ => exact s47 o ho
    | i + 48, hi => omega
  · intro y w listed hsz hdf hls hall hinv hp hr
    have e : y = puts a0 [(7, .pointer (some ⟨g, 2, none⟩)), (8, .int .i64 mem), (9, .int .i64 0), (10, .bool true), (11, .bool true), (12, .int .i64 (N : Int)), (13, .bool true), (14, .bool true), (15, .bool true), (16, .pointer (some ⟨g, 0, none⟩)), (17, .agg #[.int .i64 rs, .int .i64 rr]), (18, .bool true), (19, .bool true), (20, .bool true), (21, .pointer (some ⟨g, 0, none⟩)), (22, .pointer (some ⟨g, 1, none⟩)), (23, .int .i64 rr), (24, .pointer (some ⟨g, 2, none⟩)), (25, .int .i64 mem), (26, .int .i64 ls0), (27, .bool true), (28, .bool true), (29, .bool true), (30, .pointer (some ⟨g, 3, none⟩)), (31, .int .i64 hop), (32, .int .i64 (N : Int)), (33, .int .i64 (2 * (N : Int))), (34, .bool true), (35, .bool true), (36, .bool true), (37, .pointer (some ⟨g, 4, none⟩)), (38, .slice cao EL ccap), (39, .int .i64 (EL : Int)), (40, .pointer (some ⟨g, 3, none⟩)), (41, .int .i64 hop), (42, .int .i64 (N : Int)), (43, .int .i64 mn), (44, .bool false), (45, .bool false), (46, .bool false), (47, undef), (48, undef), (49, undef), (50, undef), (51, undef), (52, undef), (53, .bool false), (2, .bool false)] := by
      refine eq_puts hsz hdf (nodup_of (D := [some 7, some 8, some 9, some 10, some 11, some 12, some 13, some 14, some 15, some 16, some 17, some 18, some 19, some 20, some 21, some 22, some 23, some 24, some 25, some 26, some 27, some 28, some 29, some 30, some 31, some 32, some 33, some 34, some 35, some 36, some 37, some 38, some 39, some 40, some 41, some 42, some 43, some 44, some 45, some 46, some 47, some 48, some 49, some 50, some 51, some 52, some 53, some 2]) rfl (by decide)) (by rw [ha0]; simp) ?_ ?_
      · intro q hq
        simp only [List.mem_cons, List.not_mem_nil, or_false] at hq
        rcases hq with rfl | rfl | rfl | rfl | rfl | rfl | rfl | rfl | rfl | rfl | rfl | rfl | rfl | rfl | rfl | rfl | rfl | rfl | rfl | rfl | rfl | rfl | rfl | rfl | rfl | rfl | rfl | rfl | rfl | rfl | rfl | rfl | rfl | rfl | rfl | rfl | rfl | rfl | rfl | rfl | rfl | rfl | rfl | rfl | rfl | rfl | rfl | rfl
        · obtain ⟨o, h1, h2, _⟩ := E0.ex; exact r _ _ _ (hp 0 o _ h1 h2)
        · obtain ⟨o, h1, h2, _⟩ := E1.ex; exact r _ _ _ (hp 1 o _ h1 h2)
        · obtain ⟨o, h1, h2, _⟩ := E2.ex; exact r _ _ _ (hp 2 o _ h1 h2)
        · obtain ⟨o, h1, h2, _⟩ := E3.ex; exact r _ _ _ (hp 3 o _ h1 h2)
        · obtain ⟨o, h1, h2, _⟩ := E4.ex; exact r _ _ _ (hp 4 o _ h1 h2)
        · obtain ⟨o, h1, h2, _⟩ := E5.ex; exact r _ _ _ (hp 5 o _ h1 h2)
        · obtain ⟨o, h1, h2, _⟩ := E6.ex; exact r _ _ _ (hp 6 o _ h1 h2)
        · obtain ⟨o, h1, h2, _⟩ := E7.ex; exact r _ _ _ (hp 7 o _ h1 h2)
        · obtain ⟨o, h1, h2, _⟩ := E8.ex; exact r _ _ _ (hp 8 o _ h1 h2)
        · obtain ⟨o, h1, h2, _⟩ := E9.ex; exact r _ _ _ (hp 9 o _ h1 h2)
        · obtain ⟨o, h1, h2, _⟩ := E10.ex; exact r _ _ _ (hp 10 o _ h1 h2)
        · obtain ⟨o, h1, h2, _⟩ := E11.ex; exact r _ _ _ (hp 11 o _ h1 h2)
        · obtain ⟨o, h1, h2, _⟩ := E12.ex; exact r _ _ _ (hp 12 o _ h1 h2)
        · obtain ⟨o, h1, h2, _⟩ := E13.ex; exact r _ _ _ (hp 13 o _ h1 h2)
        · obtain ⟨o, h1, h2, _⟩ := E14.ex; exact r _ _ _ (hp 14 o _ h1 h2)
        · obtain ⟨o, h1, h2, _⟩ := E15.ex; exact r _ _ _ (hp 15 o _ h1 h2)
        · obtain ⟨o, h1, h2, _⟩ := E16.ex; exact r _ _ _ (hp 16 o _ h1 h2)
        · obtain ⟨o, h1, h2, _⟩ := E17.ex; exact r _ _ _ (hp 17 o _ h1 h2)
        · obtain ⟨o, h1, h2, _⟩ := E18.ex; exact r _ _ _ (hp 18 o _ h1 h2)
        · obtain ⟨o, h1, h2, _⟩ := E19.ex; exact r _ _ _ (hp 19 o _ h1 h2)
        · obtain ⟨o, h1, h2, _⟩ := E20.ex; exact r _ _ _ (hp 20 o _ h1 h2)
        · obtain ⟨o, h1, h2, _⟩ := E21.ex; exact r _ _ _ (hp 21 o _ h1 h2)
        · obtain ⟨o, h1, h2, _⟩ := E22.ex; exact r _ _ _ (hp 22 o _ h1 h2)
        · obtain ⟨o, h1, h2, _⟩ := E23.ex; exact r _ _ _ (hp 23 o _ h1 h2)
        · obtain ⟨o, h1, h2, _⟩ := E24.ex; exact r _ _ _ (hp 24 o _ h1 h2)
        · obtain ⟨o, h1, h2, _⟩ := E25.ex; exact r _ _ _ (hp 25 o _ h1 h2)
        · obtain ⟨o, h1, h2, _⟩ := E26.ex; exact r _ _ _ (hp 26 o _ h1 h2)
        · obtain ⟨o, h1, h2, _⟩ := E27.ex; exact r _ _ _ (hp 27 o _ h1 h2)
        · obtain ⟨o, h1, h2, _⟩ := E28.ex; exact r _ _ _ (hp 28 o _ h1 h2)
        · obtain ⟨o, h1, h2, _⟩ := E29.ex; exact r _ _ _ (hp 29 o _ h1 h2)
        · obtain ⟨o, h1, h2, _⟩ := E30.ex; exact r _ _ _ (hp 30 o _ h1 h2)
        · obtain ⟨o, h1, h2, _⟩ := E31.ex; exact r _ _ _ (hp 31 o _ h1 h2)
        · obtain ⟨o, h1, h2, _⟩ := E32.ex; exact r _ _ _ (hp 32 o _ h1 h2)
        · obtain ⟨o, h1, h2, _⟩ := E33.ex; exact r _ _ _ (hp 33 o _ h1 h2)
        · obtain ⟨o, h1, h2, _⟩ := E34.ex; exact r _ _ _ (hp 34 o _ h1 h2)
        · obtain ⟨o, h1, h2, _⟩ := E35.ex; exact r _ _ _ (hp 35 o _ h1 h2)
        · obtain ⟨o, h1, h2, _⟩ := E36.ex; exact r _ _ _ (hp 36 o _ h1 h2)
        · obtain ⟨o, h1, h2, _⟩ := E37.ex; exact r _ _ _ (hp 37 o _ h1 h2)
        · obtain ⟨o, h1, h2, _⟩ := E38.ex; exact r _ _ _ (hp 38 o _ h1 h2)
        · obtain ⟨o, h1, h2, _⟩ := E39.ex; exact r _ _ _ (hp 39 o _ h1 h2)
        · obtain ⟨o, h1, h2, _⟩ := E40.ex; exact r _ _ _ (hp 40 o _ h1 h2)
        · obtain ⟨o, h1, h2, _⟩ := E41.ex; exact r _ _ _ (hp 41 o _ h1 h2)
        · obtain ⟨o, h1, h2, _⟩ := E42.ex; exact r _ _ _ (hp 42 o _ h1 h2)
        · obtain ⟨o, h1, h2, _⟩ := E43.ex; exact r _ _ _ (hp 43 o _ h1 h2)
        · obtain ⟨o, h1, h2, _⟩ := E44.ex; exact r _ _ _ (hp 44 o _ h1 h2)
        · obtain ⟨o, h1, h2, _⟩ := E45.ex; exact r _ _ _ (hp 45 o _ h1 h2)
        · obtain ⟨o, h1, h2, _⟩ := E46.ex; exact r _ _ _ (hp 46 o _ h1 h2)
        · obtain ⟨o, h1, h2, _⟩ := E47.ex; exact r _ _ _ (hp 47 o _ h1 h2)
      · intro t ht
        refine hr t (not_of ?_)
        rw [hds]
        simp only [List.mem_cons, List.not_mem_nil, or_false, forall_eq_or_imp, forall_eq] at ht
        simp only [List.contains_cons, List.contains_nil, Bool.or_eq_false_iff, beq_eq_false_iff_ne, ne_eq, Option.some.injEq, Bool.or_false]
        simp only [eq_comm (a := t)]
        simp [ht]
    rw [e]
    exact hend w hinv
def v26 (g N EL ccap : Nat) (cao : Option Addr) (_ec mem rs rr hop ls0 mn : Int) : Nat → Value
  | 0 => .pointer (some ⟨g, 2, none⟩)
  | 1 => .int .i64 mem
  | 2 => .int .i64 0
  | 3 => .bool true
  | 4 => .bool true
  | 5 => .int .i64 (N : Int)
  | 6 => .bool true
  | 7 => .bool true
  | 8 => .bool true
  | 9 => .pointer (some ⟨g, 0, none⟩)
  | 10 => .agg #[.int .i64 rs, .int .i64 rr]
  | 11 => .bool true
  | 12 => .bool true
  | 13 => .bool true
  | 14 => .pointer (some ⟨g, 0, none⟩)
  | 15 => .pointer (some ⟨g, 1, none⟩)
  | 16 => .int .i64 rr
  | 17 => .pointer (some ⟨g, 2, none⟩)
  | 18 => .int .i64 mem
  | 19 => .int .i64 ls0
  | 20 => .bool true
  | 21 => .bool true
  | 22 => .bool true
  | 23 => .pointer (some ⟨g, 3, none⟩)
  | 24 => .int .i64 hop
  | 25 => .int .i64 (N : Int)
  | 26 => .int .i64 (2 * (N : Int))
  | 27 => .bool true
  | 28 => .bool true
  | 29 => .bool true
  | 30 => .pointer (some ⟨g, 4, none⟩)
  | 31 => .slice cao EL ccap
  | 32 => .int .i64 (EL : Int)
  | 33 => .pointer (some ⟨g, 3, none⟩)
  | 34 => .int .i64 hop
  | 35 => .int .i64 (N : Int)
  | 36 => .int .i64 mn
  | 37 => .bool true
  | 38 => .bool true
  | 39 => .bool true
  | 40 => .pointer (some ⟨g, 4, none⟩)
  | 41 => .slice cao EL ccap
  | 42 => .pointer (some ⟨g, 2, none⟩)
  | 43 => .int .i64 mem
  | 45 => .bool false
  | 46 => .bool false
  | 47 => .bool false
  | _ => undef
set_option maxRecDepth 100000 in
set_option maxHeartbeats 4000000 in
theorem region26 {ops : Array Oper} {id : Nat} {a0 : Act} {w0 : World} {Q : Exit → Act → World → Prop} (g N EL ccap : Nat) (cao : Option Addr) (ec mem rs rr hop ls0 mn : Int) (LS : List Int)
    (EE : Ops20 ops)
    (hN : ops.size = 48) (hlow : lowB ops = true) (hds : dsts ops = [some 7, some 8, some 9, some 10, some 11, some 12, some 13, some 14, some 15, some 16, some 17, some 18, some 19, some 20, some 21, some 22, some 23, some 24, some 25, some 26, some 27, some 28, some 29, some 30, some 31, some 32, some 33, some 34, some 35, some 36, some 37, some 38, some 39, some 40, some 41, some 42, some 43, some 44, some 45, some 46, some 47, some 48, some 49, some 50, some 51, some 52, some 53, some 2]) (hnd : injB ops = true)
    (hmx : Try.prog.follows .mixedOrders = true) (ha0 : a0.tmps.size = 54) (h1 : a0.tmps.getD 1 undef = .pointer (some ⟨g, 0, none⟩)) (h3 : a0.tmps.getD 3 undef = .int .i64 (N : Int))
    (d0 : w0.cell? ⟨g, 0, none⟩ = some (.int .i64 rs)) (d1 : w0.cell? ⟨g, 1, none⟩ = some (.int .i64 rr)) (d2 : w0.cell? ⟨g, 2, none⟩ = some (.int .i64 mem)) (d3 : w0.cell? ⟨g, 3, none⟩ = some (.int .i64 hop)) (d4 : w0.cell? ⟨g, 4, none⟩ = some (.slice cao EL ccap))
    (H0 : ∀ W, Calls Try.prog 137 #[.int .i64 mem] W fun e w' => e = .returned (.int .i64 0) ∧ Mod (fun _ => False) W w')
    (hN0 : decide (0 < (N : Int)) = true)
    (H2 : ∀ W, Calls Try.prog 117 #[.agg #[.int .i64 rs, .int .i64 rr]] W fun e w' => e = .returned (.bool true) ∧ Mod (fun _ => False) W w')
    (H3 : ∀ W, Calls Try.prog 140 #[.int .i64 mem] W fun e w' => e = .returned (.int .i64 ls0) ∧ Mod (fun _ => False) W w') (hlst : (rr == ls0) = true)
    (hmul : IntKind.i64.wrap (2 * (N : Int)) = 2 * (N : Int)) (H4 : ∀ W, Calls Try.prog 135 #[.int .i64 hop, .int .i64 1, .int .i64 (2 * (N : Int))] W fun e w' => e = .returned (.bool true) ∧ Mod (fun _ => False) W w')
    (hmn : (if (N : Int) < hop then (N : Int) else hop) = mn) (hel : ((EL : Int) == mn) = true)
    (H5 : ∀ W, Calls Try.prog 142 #[.int .i64 mem] W fun e w' => ∃ v, e = .returned v ∧ Cr.Sl w' v LS ∧ Mod (fun _ => False) W w') (H6 : ∀ W v, Mod (fun _ => False) w0.drew W → Cr.Sl W v LS → Calls Try.prog 141 #[.slice cao EL ccap, v] W fun e w' => e = .returned (.bool false) ∧ Mod (fun _ => False) W w')
    (hend : ∀ u w, Mod (fun _ => False) w0.drew w → Q .normal (puts a0 [(7, .pointer (some ⟨g, 2, none⟩)), (8, .int .i64 mem), (9, .int .i64 0), (10, .bool true), (11, .bool true), (12, .int .i64 (N : Int)), (13, .bool true), (14, .bool true), (15, .bool true), (16, .pointer (some ⟨g, 0, none⟩)), (17, .agg #[.int .i64 rs, .int .i64 rr]), (18, .bool true), (19, .bool true), (20, .bool true), (21, .pointer (some ⟨g, 0, none⟩)), (22, .pointer (some ⟨g, 1, none⟩)), (23, .int .i64 rr), (24, .pointer (some ⟨g, 2, none⟩)), (25, .int .i64 mem), (26, .int .i64 ls0), (27, .bool true), (28, .bool true), (29, .bool true), (30, .pointer (some ⟨g, 3, none⟩)), (31, .int .i64 hop), (32, .int .i64 (N : Int)), (33, .int .i64 (2 * (N : Int))), (34, .bool true), (35, .bool true), (36, .bool true), (37, .pointer (some ⟨g, 4, none⟩)), (38, .slice cao EL ccap), (39, .int .i64 (EL : Int)), (40, .pointer (some ⟨g, 3, none⟩)), (41, .int .i64 hop), (42, .int .i64 (N : Int)), (43, .int .i64 mn), (44, .bool true), (45, .bool true), (46, .bool true), (47, .pointer (some ⟨g, 4, none⟩)), (48, .slice cao EL ccap), (49, .pointer (some ⟨g, 2, none⟩)), (50, .int .i64 mem), (51, u), (52, .bool false), (53, .bool false), (2, .bool false)]) w) :
    (Code.region id ops true).wp Try.prog Q a0 w0 := by
  obtain ⟨E0, E1, E2, E3, E4, E5, E6, E7, E8, E9, E10, E11, E12, E13, E14, E15, E16, E17, E18, E19, E20, E21, E22, E23, E24, E25, E26, E27, E28, E29, E30, E31, E32, E33, E34, E35, E36, E37, E38, E39, E40, E41, E42, E43, E44, E45, E46, E47⟩ := EE
  obtain ⟨PP, q, r⟩ : ∃ PP : Nat → Value → World → Prop, (∀ i v w, (fun i' v W => if i' = 44 then Cr.Sl W v LS else v = v26 g N EL ccap cao ec mem rs rr hop ls0 mn i') i v w → PP i v w) ∧ (∀ i v w, PP i v w → (fun i' v W => if i' = 44 then Cr.Sl W v LS else v = v26 g N EL ccap cao ec mem rs rr hop ls0 mn i') i v w) := ⟨(fun i' v W => if i' = 44 then Cr.Sl W v LS else v = v26 g N EL ccap cao ec mem rs rr hop ls0 mn i'), fun _ _ _ h => h, fun _ _ _ h => h⟩
  have D : ∀ {W : World} {a : Addr} {v : Value}, Mod (fun _ => False) w0.drew W → w0.cell? a = some v → W.cell? a = some v := fun hW hc => hW.cell (by simpa using hc) (fun h => h)
  have s0 : S2 ops PP w0 a0 Q 0 := by
    refine E0.stepW fun o hd ho hg hw y w listed hsz hls hun hwt hdown D' R hinv K hK => ?_
    rw [ha0] at hsz
    refine .inl ⟨wanted_none hg, ?_⟩
    have f1 : y.eval (Operand.tmp 1) = .pointer (some ⟨g, 0, none⟩) := (R 1 (not_of (by rw [hds]; decide))).trans h1
    exact wp_value (ox_field ho f1 (flc1 w)) (hK _ _ (Mod.refl _ _) (q _ _ _ rfl) hinv)
  have s1 : S2 ops PP w0 a0 Q 1 := by
    refine E1.stepW fun o hd ho hg hw y w listed hsz hls hun hwt hdown D' R hinv K hK => ?_
    rw [ha0] at hsz
    refine .inl ⟨wanted_none hg, ?_⟩
    have f7 : y.eval (Operand.tmp 7) = .pointer (some ⟨g, 2, none⟩) := r _ _ _ (E0.postW D' (hw 0 (by simp)))
    exact wp_value (ox_load ho f7 (ld1 (D hinv d2))) (hK _ _ (Mod.refl _ _) (q _ _ _ rfl) hinv)
  have s2 : S2 ops PP w0 a0 Q 2 := by
    refine E2.stepW fun o hd ho hg hw y w listed hsz hls hun hwt hdown D' R hinv K hK => ?_
    rw [ha0] at hsz
    refine .inl ⟨wanted_none hg, ?_⟩
    have f8 : y.eval (Operand.tmp 8) = .int .i64 mem := r _ _ _ (E1.postW D' (hw 1 (by simp)))
    refine wp_enter (f := 137) (args := #[.int .i64 mem]) ?_ (H0 w) ?_
    · rw [exec_call1 y.eval (fun args w => by simp [go_sem]) rfl ho, f8]
    · rintro e w' ⟨rfl, hm⟩
      exact ⟨_, rfl, hK _ _ hm (q _ _ _ rfl) (hinv.trans hm (fun _ _ h => h) (fun _ _ h => h))⟩
  have s3 : S2 ops PP w0 a0 Q 3 := by
    refine E3.stepW fun o hd ho hg hw y w listed hsz hls hun hwt hdown D' R hinv K hK => ?_
    rw [ha0] at hsz
    refine .inl ⟨wanted_none hg, ?_⟩
    have f9 : y.eval (Operand.tmp 9) = .int .i64 0 := r _ _ _ (E2.postW D' (hw 2 (by simp)))
    exact wp_value (ox_eql0 ho (fun _ => rfl) f9 rfl) (hK _ _ (Mod.refl _ _) (q _ _ _ rfl) hinv)
  have s4 : S2 ops PP w0 a0 Q 4 := by
    refine E4.stepW fun o hd ho hg hw y w listed hsz hls hun hwt hdown D' R hinv K hK => ?_
    rw [ha0] at hsz
    refine .inl ⟨wanted_none hg, ?_⟩
    have f10 : y.eval (Operand.tmp 10) = .bool true := r _ _ _ (E3.postW D' (hw 3 (by simp)))
    exact wp_value (ox_move ho f10) (hK _ _ (Mod.refl _ _) (q _ _ _ rfl) hinv)
  have s5 : S2 ops PP w0 a0 Q 5 := by
    refine E5.stepW fun o hd ho hg hw y w listed hsz hls hun hwt hdown D' R hinv K hK => ?_
    rw [ha0] at hsz
    refine .inl ⟨wanted_yes E4 hg (by rw [hsz]; decide) (r _ _ _ (E4.postW D' (hw 4 (by simp)))), ?_⟩
    have f3 : y.eval (Operand.tmp 3) = .int .i64 (N : Int) := (R 3 (not_of (by rw [hds]; decide))).trans h3
    exact wp_value (ox_move ho f3) (hK _ _ (Mod.refl _ _) (q _ _ _ rfl) hinv)
  have s6 : S2 ops PP w0 a0 Q 6 := by
    refine E6.stepW fun o hd ho hg hw y w listed hsz hls hun hwt hdown D' R hinv K hK => ?_
    rw [ha0] at hsz
    refine .inl ⟨wanted_yes E4 hg (by rw [hsz]; decide) (r _ _ _ (E4.postW D' (hw 4 (by simp)))), ?_⟩
    have f12 : y.eval (Operand.tmp 12) = .int .i64 (N : Int) := r _ _ _ (E5.postW D' (hw 5 (by simp)))
    exact wp_value (ox_gtr0 ho (fun _ => rfl) f12 hN0) (hK _ _ (Mod.refl _ _) (q _ _ _ rfl) hinv)
  have s7 : S2 ops PP w0 a0 Q 7 := by
    refine E7.stepW fun o hd ho hg hw y w listed hsz hls hun hwt hdown D' R hinv K hK => ?_
    rw [ha0] at hsz
    refine .inl ⟨wanted_none hg, ?_⟩
    have f11 : y.eval (Operand.tmp 11) = .bool true := r _ _ _ (E4.postW D' (hw 4 (by simp)))
    have f13 : y.eval (Operand.tmp 13) = .bool true := r _ _ _ (E6.postW D' (hw 6 (by simp)))
    exact wp_value (ox_pick ho f11 f13) (hK _ _ (Mod.refl _ _) (q _ _ _ rfl) hinv)
  have s8 : S2 ops PP w0 a0 Q 8 := by
    refine E8.stepW fun o hd ho hg hw y w listed hsz hls hun hwt hdown D' R hinv K hK => ?_
    rw [ha0] at hsz
    refine .inl ⟨wanted_none hg, ?_⟩
    have f14 : y.eval (Operand.tmp 14) = .bool true := r _ _ _ (E7.postW D' (hw 7 (by simp)))
    exact wp_value (ox_move ho f14) (hK _ _ (Mod.refl _ _) (q _ _ _ rfl) hinv)
  have s9 : S2 ops PP w0 a0 Q 9 := by
    refine E9.stepW fun o hd ho hg hw y w listed hsz hls hun hwt hdown D' R hinv K hK => ?_
    rw [ha0] at hsz
    refine .inl ⟨wanted_yes E8 hg (by rw [hsz]; decide) (r _ _ _ (E8.postW D' (hw 8 (by simp)))), ?_⟩
    have f1 : y.eval (Operand.tmp 1) = .pointer (some ⟨g, 0, none⟩) := (R 1 (not_of (by rw [hds]; decide))).trans h1
    exact wp_value (ox_field ho f1 (flc0 w)) (hK _ _ (Mod.refl _ _) (q _ _ _ rfl) hinv)
  have s10 : S2 ops PP w0 a0 Q 10 := by
    refine E10.stepW fun o hd ho hg hw y w listed hsz hls hun hwt hdown D' R hinv K hK => ?_
    rw [ha0] at hsz
    refine .inl ⟨wanted_yes E8 hg (by rw [hsz]; decide) (r _ _ _ (E8.postW D' (hw 8 (by simp)))), ?_⟩
    have f16 : y.eval (Operand.tmp 16) = .pointer (some ⟨g, 0, none⟩) := r _ _ _ (E9.postW D' (hw 9 (by simp)))
    exact wp_value (ox_load ho f16 (ld2 (D hinv d0) (D hinv d1))) (hK _ _ (Mod.refl _ _) (q _ _ _ rfl) hinv)
  have s11 : S2 ops PP w0 a0 Q 11 := by
    refine E11.stepW fun o hd ho hg hw y w listed hsz hls hun hwt hdown D' R hinv K hK => ?_
    rw [ha0] at hsz
    refine .inl ⟨wanted_yes E8 hg (by rw [hsz]; decide) (r _ _ _ (E8.postW D' (hw 8 (by simp)))), ?_⟩
    have f17 : y.eval (Operand.tmp 17) = .agg #[.int .i64 rs, .int .i64 rr] := r _ _ _ (E10.postW D' (hw 10 (by simp)))
    refine wp_enter (f := 117) (args := #[.agg #[.int .i64 rs, .int .i64 rr]]) ?_ (H2 w) ?_
    · rw [exec_call1 y.eval (fun args w => by simp [go_sem]) rfl ho, f17]
    · rintro e w' ⟨rfl, hm⟩
      exact ⟨_, rfl, hK _ _ hm (q _ _ _ rfl) (hinv.trans hm (fun _ _ h => h) (fun _ _ h => h))⟩
  have s12 : S2 ops PP w0 a0 Q 12 := by
    refine E12.stepW fun o hd ho hg hw y w listed hsz hls hun hwt hdown D' R hinv K hK => ?_
    rw [ha0] at hsz
    refine .inl ⟨wanted_none hg, ?_⟩
    have f15 : y.eval (Operand.tmp 15) = .bool true := r _ _ _ (E8.postW D' (hw 8 (by simp)))
    have f18 : y.eval (Operand.tmp 18) = .bool true := r _ _ _ (E11.postW D' (hw 11 (by simp)))
    exact wp_value (ox_pick ho f15 f18) (hK _ _ (Mod.refl _ _) (q _ _ _ rfl) hinv)
  have s13 : S2 ops PP w0 a0 Q 13 := by
    refine E13.stepW fun o hd ho hg hw y w listed hsz hls hun hwt hdown D' R hinv K hK => ?_
    rw [ha0] at hsz
    refine .inl ⟨wanted_none hg, ?_⟩
    have f19 : y.eval (Operand.tmp 19) = .bool true := r _ _ _ (E12.postW D' (hw 12 (by simp)))
    exact wp_value (ox_move ho f19) (hK _ _ (Mod.refl _ _) (q _ _ _ rfl) hinv)
  have s14 : S2 ops PP w0 a0 Q 14 := by
    refine E14.stepW fun o hd ho hg hw y w listed hsz hls hun hwt hdown D' R hinv K hK => ?_
    rw [ha0] at hsz
    refine .inl ⟨wanted_yes E13 hg (by rw [hsz]; decide) (r _ _ _ (E13.postW D' (hw 13 (by simp)))), ?_⟩
    have f1 : y.eval (Operand.tmp 1) = .pointer (some ⟨g, 0, none⟩) := (R 1 (not_of (by rw [hds]; decide))).trans h1
    exact wp_value (ox_field ho f1 (flc0 w)) (hK _ _ (Mod.refl _ _) (q _ _ _ rfl) hinv)
  have s15 : S2 ops PP w0 a0 Q 15 := by
    refine E15.stepW fun o hd ho hg hw y w listed hsz hls hun hwt hdown D' R hinv K hK => ?_
    rw [ha0] at hsz
    refine .inl ⟨wanted_yes E13 hg (by rw [hsz]; decide) (r _ _ _ (E13.postW D' (hw 13 (by simp)))), ?_⟩
    have f21 : y.eval (Operand.tmp 21) = .pointer (some ⟨g, 0, none⟩) := r _ _ _ (E14.postW D' (hw 14 (by simp)))
    exact wp_value (ox_field ho f21 (flr1 w)) (hK _ _ (Mod.refl _ _) (q _ _ _ rfl) hinv)
  have s16 : S2 ops PP w0 a0 Q 16 := by
    refine E16.stepW fun o hd ho hg hw y w listed hsz hls hun hwt hdown D' R hinv K hK => ?_
    rw [ha0] at hsz
    refine .inl ⟨wanted_yes E13 hg (by rw [hsz]; decide) (r _ _ _ (E13.postW D' (hw 13 (by simp)))), ?_⟩
    have f22 : y.eval (Operand.tmp 22) = .pointer (some ⟨g, 1, none⟩) := r _ _ _ (E15.postW D' (hw 15 (by simp)))
    exact wp_value (ox_load ho f22 (ld1 (D hinv d1))) (hK _ _ (Mod.refl _ _) (q _ _ _ rfl) hinv)
  have s17 : S2 ops PP w0 a0 Q 17 := by
    refine E17.stepW fun o hd ho hg hw y w listed hsz hls hun hwt hdown D' R hinv K hK => ?_
    rw [ha0] at hsz
    refine .inl ⟨wanted_yes E13 hg (by rw [hsz]; decide) (r _ _ _ (E13.postW D' (hw 13 (by simp)))), ?_⟩
    have f1 : y.eval (Operand.tmp 1) = .pointer (some ⟨g, 0, none⟩) := (R 1 (not_of (by rw [hds]; decide))).trans h1
    exact wp_value (ox_field ho f1 (flc1 w)) (hK _ _ (Mod.refl _ _) (q _ _ _ rfl) hinv)
  have s18 : S2 ops PP w0 a0 Q 18 := by
    refine E18.stepW fun o hd ho hg hw y w listed hsz hls hun hwt hdown D' R hinv K hK => ?_
    rw [ha0] at hsz
    refine .inl ⟨wanted_yes E13 hg (by rw [hsz]; decide) (r _ _ _ (E13.postW D' (hw 13 (by simp)))), ?_⟩
    have f24 : y.eval (Operand.tmp 24) = .pointer (some ⟨g, 2, none⟩) := r _ _ _ (E17.postW D' (hw 17 (by simp)))
    exact wp_value (ox_load ho f24 (ld1 (D hinv d2))) (hK _ _ (Mod.refl _ _) (q _ _ _ rfl) hinv)
  have s19 : S2 ops PP w0 a0 Q 19 := by
    refine E19.stepW fun o hd ho hg hw y w listed hsz hls hun hwt hdown D' R hinv K hK => ?_
    rw [ha0] at hsz
    refine .inl ⟨wanted_yes E13 hg (by rw [hsz]; decide) (r _ _ _ (E13.postW D' (hw 13 (by simp)))), ?_⟩
    have f25 : y.eval (Operand.tmp 25) = .int .i64 mem := r _ _ _ (E18.postW D' (hw 18 (by simp)))
    refine wp_enter (f := 140) (args := #[.int .i64 mem]) ?_ (H3 w) ?_
    · rw [exec_call1 y.eval (fun args w => by simp [go_sem]) rfl ho, f25]
    · rintro e w' ⟨rfl, hm⟩
      exact ⟨_, rfl, hK _ _ hm (q _ _ _ rfl) (hinv.trans hm (fun _ _ h => h) (fun _ _ h => h))⟩
  have s20 : S2 ops PP w0 a0 Q 20 := by
    refine E20.stepW fun o hd ho hg hw y w listed hsz hls hun hwt hdown D' R hinv K hK => ?_
    rw [ha0] at hsz
    refine .inl ⟨wanted_yes E13 hg (by rw [hsz]; decide) (r _ _ _ (E13.postW D' (hw 13 (by simp)))), ?_⟩
    have f23 : y.eval (Operand.tmp 23) = .int .i64 rr := r _ _ _ (E16.postW D' (hw 16 (by simp)))
    have f26 : y.eval (Operand.tmp 26) = .int .i64 ls0 := r _ _ _ (E19.postW D' (hw 19 (by simp)))
    exact wp_value (ox_eql ho f23 f26 hlst) (hK _ _ (Mod.refl _ _) (q _ _ _ rfl) hinv)
  have s21 : S2 ops PP w0 a0 Q 21 := by
    refine E21.stepW fun o hd ho hg hw y w listed hsz hls hun hwt hdown D' R hinv K hK => ?_
    rw [ha0] at hsz
    refine .inl ⟨wanted_none hg, ?_⟩
    have f20 : y.eval (Operand.tmp 20) = .bool true := r _ _ _ (E13.postW D' (hw 13 (by simp)))
    have f27 : y.eval (Operand.tmp 27) = .bool true := r _ _ _ (E20.postW D' (hw 20 (by simp)))
    exact wp_value (ox_pick ho f20 f27) (hK _ _ (Mod.refl _ _) (q _ _ _ rfl) hinv)
  have s22 : S2 ops PP w0 a0 Q 22 := by
    refine E22.stepW fun o hd ho hg hw y w listed hsz hls hun hwt hdown D' R hinv K hK => ?_
    rw [ha0] at hsz
    refine .inl ⟨wanted_none hg, ?_⟩
    have f28 : y.eval (Operand.tmp 28) = .bool true := r _ _ _ (E21.postW D' (hw 21 (by simp)))
    exact wp_value (ox_move ho f28) (hK _ _ (Mod.refl _ _) (q _ _ _ rfl) hinv)
  have s23 : S2 ops PP w0 a0 Q 23 := by
    refine E23.stepW fun o hd ho hg hw y w listed hsz hls hun hwt hdown D' R hinv K hK => ?_
    rw [ha0] at hsz
    refine .inl ⟨wanted_yes E22 hg (by rw [hsz]; decide) (r _ _ _ (E22.postW D' (hw 22 (by simp)))), ?_⟩
    have f1 : y.eval (Operand.tmp 1) = .pointer (some ⟨g, 0, none⟩) := (R 1 (not_of (by rw [hds]; decide))).trans h1
    exact wp_value (ox_field ho f1 (flc2 w)) (hK _ _ (Mod.refl _ _) (q _ _ _ rfl) hinv)
  have s24 : S2 ops PP w0 a0 Q 24 := by
    refine E24.stepW fun o hd ho hg hw y w listed hsz hls hun hwt hdown D' R hinv K hK => ?_
    rw [ha0] at hsz
    refine .inl ⟨wanted_yes E22 hg (by rw [hsz]; decide) (r _ _ _ (E22.postW D' (hw 22 (by simp)))), ?_⟩
    have f30 : y.eval (Operand.tmp 30) = .pointer (some ⟨g, 3, none⟩) := r _ _ _ (E23.postW D' (hw 23 (by simp)))
    exact wp_value (ox_load ho f30 (ld1 (D hinv d3))) (hK _ _ (Mod.refl _ _) (q _ _ _ rfl) hinv)
  have s25 : S2 ops PP w0 a0 Q 25 := by
    refine E25.stepW fun o hd ho hg hw y w listed hsz hls hun hwt hdown D' R hinv K hK => ?_
    rw [ha0] at hsz
    refine .inl ⟨wanted_yes E22 hg (by rw [hsz]; decide) (r _ _ _ (E22.postW D' (hw 22 (by simp)))), ?_⟩
    have f3 : y.eval (Operand.tmp 3) = .int .i64 (N : Int) := (R 3 (not_of (by rw [hds]; decide))).trans h3
    exact wp_value (ox_move ho f3) (hK _ _ (Mod.refl _ _) (q _ _ _ rfl) hinv)
  have s26 : S2 ops PP w0 a0 Q 26 := by
    refine E26.stepW fun o hd ho hg hw y w listed hsz hls hun hwt hdown D' R hinv K hK => ?_
    rw [ha0] at hsz
    refine .inl ⟨wanted_yes E22 hg (by rw [hsz]; decide) (r _ _ _ (E22.postW D' (hw 22 (by simp)))), ?_⟩
    have f32 : y.eval (Operand.tmp 32) = .int .i64 (N : Int) := r _ _ _ (E25.postW D' (hw 25 (by simp)))
    exact wp_value (ox_mul2 ho (fun _ => rfl) f32 hmul) (hK _ _ (Mod.refl _ _) (q _ _ _ rfl) hinv)
  have s27 : S2 ops PP w0 a0 Q 27 := by
    refine E27.stepW fun o hd ho hg hw y w listed hsz hls hun hwt hdown D' R hinv K hK => ?_
    rw [ha0] at hsz
    refine .inl ⟨wanted_yes E22 hg (by rw [hsz]; decide) (r _ _ _ (E22.postW D' (hw 22 (by simp)))), ?_⟩
    have f31 : y.eval (Operand.tmp 31) = .int .i64 hop := r _ _ _ (E24.postW D' (hw 24 (by simp)))
    have f33 : y.eval (Operand.tmp 33) = .int .i64 (2 * (N : Int)) := r _ _ _ (E26.postW D' (hw 26 (by simp)))
    refine wp_enter (f := 135) (args := #[.int .i64 hop, .int .i64 1, .int .i64 (2 * (N : Int))]) ?_ (H4 w) ?_
    · rw [exec_call3 y.eval (fun args w => by simp [go_sem]) rfl ho, f31, f33]; rfl
    · rintro e w' ⟨rfl, hm⟩
      exact ⟨_, rfl, hK _ _ hm (q _ _ _ rfl) (hinv.trans hm (fun _ _ h => h) (fun _ _ h => h))⟩
  have s28 : S2 ops PP w0 a0 Q 28 := by
    refine E28.stepW fun o hd ho hg hw y w listed hsz hls hun hwt hdown D' R hinv K hK => ?_
    rw [ha0] at hsz
    refine .inl ⟨wanted_none hg, ?_⟩
    have f29 : y.eval (Operand.tmp 29) = .bool true := r _ _ _ (E22.postW D' (hw 22 (by simp)))
    have f34 : y.eval (Operand.tmp 34) = .bool true := r _ _ _ (E27.postW D' (hw 27 (by simp)))
    exact wp_value (ox_pick ho f29 f34) (hK _ _ (Mod.refl _ _) (q _ _ _ rfl) hinv)
  have s29 : S2 ops PP w0 a0 Q 29 := by
    refine E29.stepW fun o hd ho hg hw y w listed hsz hls hun hwt hdown D' R hinv K hK => ?_
    rw [ha0] at hsz
    refine .inl ⟨wanted_none hg, ?_⟩
    have f35 : y.eval (Operand.tmp 35) = .bool true := r _ _ _ (E28.postW D' (hw 28 (by simp)))
    exact wp_value (ox_move ho f35) (hK _ _ (Mod.refl _ _) (q _ _ _ rfl) hinv)
  have s30 : S2 ops PP w0 a0 Q 30 := by
    refine E30.stepW fun o hd ho hg hw y w listed hsz hls hun hwt hdown D' R hinv K hK => ?_
    rw [ha0] at hsz
    refine .inl ⟨wanted_yes E29 hg (by rw [hsz]; decide) (r _ _ _ (E29.postW D' (hw 29 (by simp)))), ?_⟩
    have f1 : y.eval (Operand.tmp 1) = .pointer (some ⟨g, 0, none⟩) := (R 1 (not_of (by rw [hds]; decide))).trans h1
    exact wp_value (ox_field ho f1 (flc3 w)) (hK _ _ (Mod.refl _ _) (q _ _ _ rfl) hinv)
  have s31 : S2 ops PP w0 a0 Q 31 := by
    refine E31.stepW fun o hd ho hg hw y w listed hsz hls hun hwt hdown D' R hinv K hK => ?_
    rw [ha0] at hsz
    refine .inl ⟨wanted_yes E29 hg (by rw [hsz]; decide) (r _ _ _ (E29.postW D' (hw 29 (by simp)))), ?_⟩
    have f37 : y.eval (Operand.tmp 37) = .pointer (some ⟨g, 4, none⟩) := r _ _ _ (E30.postW D' (hw 30 (by simp)))
    exact wp_value (ox_load ho f37 (lde (D hinv d4))) (hK _ _ (Mod.refl _ _) (q _ _ _ rfl) hinv)
  have s32 : S2 ops PP w0 a0 Q 32 := by
    refine E32.stepW fun o hd ho hg hw y w listed hsz hls hun hwt hdown D' R hinv K hK => ?_
    rw [ha0] at hsz
    refine .inl ⟨wanted_yes E29 hg (by rw [hsz]; decide) (r _ _ _ (E29.postW D' (hw 29 (by simp)))), ?_⟩
    have f38 : y.eval (Operand.tmp 38) = .slice cao EL ccap := r _ _ _ (E31.postW D' (hw 31 (by simp)))
    exact wp_value (ox_len ho f38) (hK _ _ (Mod.refl _ _) (q _ _ _ rfl) hinv)
  have s33 : S2 ops PP w0 a0 Q 33 := by
    refine E33.stepW fun o hd ho hg hw y w listed hsz hls hun hwt hdown D' R hinv K hK => ?_
    rw [ha0] at hsz
    refine .inl ⟨wanted_yes E29 hg (by rw [hsz]; decide) (r _ _ _ (E29.postW D' (hw 29 (by simp)))), ?_⟩
    have f1 : y.eval (Operand.tmp 1) = .pointer (some ⟨g, 0, none⟩) := (R 1 (not_of (by rw [hds]; decide))).trans h1
    exact wp_value (ox_field ho f1 (flc2 w)) (hK _ _ (Mod.refl _ _) (q _ _ _ rfl) hinv)
  have s34 : S2 ops PP w0 a0 Q 34 := by
    refine E34.stepW fun o hd ho hg hw y w listed hsz hls hun hwt hdown D' R hinv K hK => ?_
    rw [ha0] at hsz
    refine .inl ⟨wanted_yes E29 hg (by rw [hsz]; decide) (r _ _ _ (E29.postW D' (hw 29 (by simp)))), ?_⟩
    have f40 : y.eval (Operand.tmp 40) = .pointer (some ⟨g, 3, none⟩) := r _ _ _ (E33.postW D' (hw 33 (by simp)))
    exact wp_value (ox_load ho f40 (ld1 (D hinv d3))) (hK _ _ (Mod.refl _ _) (q _ _ _ rfl) hinv)
  have s35 : S2 ops PP w0 a0 Q 35 := by
    refine E35.stepW fun o hd ho hg hw y w listed hsz hls hun hwt hdown D' R hinv K hK => ?_
    rw [ha0] at hsz
    refine .inl ⟨wanted_yes E29 hg (by rw [hsz]; decide) (r _ _ _ (E29.postW D' (hw 29 (by simp)))), ?_⟩
    have f3 : y.eval (Operand.tmp 3) = .int .i64 (N : Int) := (R 3 (not_of (by rw [hds]; decide))).trans h3
    exact wp_value (ox_move ho f3) (hK _ _ (Mod.refl _ _) (q _ _ _ rfl) hinv)
  have s36 : S2 ops PP w0 a0 Q 36 := by
    refine E36.stepW fun o hd ho hg hw y w listed hsz hls hun hwt hdown D' R hinv K hK => ?_
    rw [ha0] at hsz
    refine .inl ⟨wanted_yes E29 hg (by rw [hsz]; decide) (r _ _ _ (E29.postW D' (hw 29 (by simp)))), ?_⟩
    have f41 : y.eval (Operand.tmp 41) = .int .i64 hop := r _ _ _ (E34.postW D' (hw 34 (by simp)))
    have f42 : y.eval (Operand.tmp 42) = .int .i64 (N : Int) := r _ _ _ (E35.postW D' (hw 35 (by simp)))
    exact wp_value (ox_min ho f41 f42 hmn) (hK _ _ (Mod.refl _ _) (q _ _ _ rfl) hinv)
  have s37 : S2 ops PP w0 a0 Q 37 := by
    refine E37.stepW fun o hd ho hg hw y w listed hsz hls hun hwt hdown D' R hinv K hK => ?_
    rw [ha0] at hsz
    refine .inl ⟨wanted_yes E29 hg (by rw [hsz]; decide) (r _ _ _ (E29.postW D' (hw 29 (by simp)))), ?_⟩
    have f39 : y.eval (Operand.tmp 39) = .int .i64 (EL : Int) := r _ _ _ (E32.postW D' (hw 32 (by simp)))
    have f43 : y.eval (Operand.tmp 43) = .int .i64 mn := r _ _ _ (E36.postW D' (hw 36 (by simp)))
    exact wp_value (ox_eql ho f39 f43 hel) (hK _ _ (Mod.refl _ _) (q _ _ _ rfl) hinv)
  have s38 : S2 ops PP w0 a0 Q 38 := by
    refine E38.stepW fun o hd ho hg hw y w listed hsz hls hun hwt hdown D' R hinv K hK => ?_
    rw [ha0] at hsz
    refine .inl ⟨wanted_none hg, ?_⟩
    have f36 : y.eval (Operand.tmp 36) = .bool true := r _ _ _ (E29.postW D' (hw 29 (by simp)))
    have f44 : y.eval (Operand.tmp 44) = .bool true := r _ _ _ (E37.postW D' (hw 37 (by simp)))
    exact wp_value (ox_pick ho f36 f44) (hK _ _ (Mod.refl _ _) (q _ _ _ rfl) hinv)
  have s39 : S2 ops PP w0 a0 Q 39 := by
    refine E39.stepW fun o hd ho hg hw y w listed hsz hls hun hwt hdown D' R hinv K hK => ?_
    rw [ha0] at hsz
    refine .inl ⟨wanted_none hg, ?_⟩
    have f45 : y.eval (Operand.tmp 45) = .bool true := r _ _ _ (E38.postW D' (hw 38 (by simp)))
    exact wp_value (ox_move ho f45) (hK _ _ (Mod.refl _ _) (q _ _ _ rfl) hinv)
  have s40 : S2 ops PP w0 a0 Q 40 := by
    refine E40.stepW fun o hd ho hg hw y w listed hsz hls hun hwt hdown D' R hinv K hK => ?_
    rw [ha0] at hsz
    refine .inl ⟨wanted_yes E39 hg (by rw [hsz]; decide) (r _ _ _ (E39.postW D' (hw 39 (by simp)))), ?_⟩
    have f1 : y.eval (Operand.tmp 1) = .pointer (some ⟨g, 0, none⟩) := (R 1 (not_of (by rw [hds]; decide))).trans h1
    exact wp_value (ox_field ho f1 (flc3 w)) (hK _ _ (Mod.refl _ _) (q _ _ _ rfl) hinv)
  have s41 : S2 ops PP w0 a0 Q 41 := by
    refine E41.stepW fun o hd ho hg hw y w listed hsz hls hun hwt hdown D' R hinv K hK => ?_
    rw [ha0] at hsz
    refine .inl ⟨wanted_yes E39 hg (by rw [hsz]; decide) (r _ _ _ (E39.postW D' (hw 39 (by simp)))), ?_⟩
    have f47 : y.eval (Operand.tmp 47) = .pointer (some ⟨g, 4, none⟩) := r _ _ _ (E40.postW D' (hw 40 (by simp)))
    exact wp_value (ox_load ho f47 (lde (D hinv d4))) (hK _ _ (Mod.refl _ _) (q _ _ _ rfl) hinv)
  have s42 : S2 ops PP w0 a0 Q 42 := by
    refine E42.stepW fun o hd ho hg hw y w listed hsz hls hun hwt hdown D' R hinv K hK => ?_
    rw [ha0] at hsz
    refine .inl ⟨wanted_yes E39 hg (by rw [hsz]; decide) (r _ _ _ (E39.postW D' (hw 39 (by simp)))), ?_⟩
    have f1 : y.eval (Operand.tmp 1) = .pointer (some ⟨g, 0, none⟩) := (R 1 (not_of (by rw [hds]; decide))).trans h1
    exact wp_value (ox_field ho f1 (flc1 w)) (hK _ _ (Mod.refl _ _) (q _ _ _ rfl) hinv)
  have s43 : S2 ops PP w0 a0 Q 43 := by
    refine E43.stepW fun o hd ho hg hw y w listed hsz hls hun hwt hdown D' R hinv K hK => ?_
    rw [ha0] at hsz
    refine .inl ⟨wanted_yes E39 hg (by rw [hsz]; decide) (r _ _ _ (E39.postW D' (hw 39 (by simp)))), ?_⟩
    have f49 : y.eval (Operand.tmp 49) = .pointer (some ⟨g, 2, none⟩) := r _ _ _ (E42.postW D' (hw 42 (by simp)))
    exact wp_value (ox_load ho f49 (ld1 (D hinv d2))) (hK _ _ (Mod.refl _ _) (q _ _ _ rfl) hinv)
  have s44 : S2 ops PP w0 a0 Q 44 := by
    refine E44.stepW fun o hd ho hg hw y w listed hsz hls hun hwt hdown D' R hinv K hK => ?_
    rw [ha0] at hsz
    refine .inl ⟨wanted_yes E39 hg (by rw [hsz]; decide) (r _ _ _ (E39.postW D' (hw 39 (by simp)))), ?_⟩
    have f50 : y.eval (Operand.tmp 50) = .int .i64 mem := r _ _ _ (E43.postW D' (hw 43 (by simp)))
    refine wp_enter (f := 142) (args := #[.int .i64 mem]) ?_ (H5 w) ?_
    · rw [exec_call1 y.eval (fun args w => by simp [go_sem]) rfl ho, f50]
    · rintro e w' ⟨v, rfl, hv, hm⟩
      exact ⟨_, rfl, hK _ _ hm (q 44 _ _ hv) (hinv.trans hm (fun _ _ h => h) (fun _ _ h => h))⟩
  have s45 : S2 ops PP w0 a0 Q 45 := by
    refine E45.stepW fun o hd ho hg hw y w listed hsz hls hun hwt hdown D' R hinv K hK => ?_
    rw [ha0] at hsz
    refine .inl ⟨wanted_yes E39 hg (by rw [hsz]; decide) (r _ _ _ (E39.postW D' (hw 39 (by simp)))), ?_⟩
    have f48 : y.eval (Operand.tmp 48) = .slice cao EL ccap := r _ _ _ (E41.postW D' (hw 41 (by simp)))
    have f51 : Cr.Sl w (y.eval (Operand.tmp 51)) LS := r _ _ _ (E44.postW D' (hw 44 (by simp)))
    refine wp_enter (f := 141) (args := #[.slice cao EL ccap, y.eval (Operand.tmp 51)]) ?_ (H6 w _ hinv f51) ?_
    · rw [exec_call2 y.eval (fun args w => by simp [go_sem]) rfl ho, f48]
    · rintro e w' ⟨rfl, hm⟩
      exact ⟨_, rfl, hK _ _ hm (q _ _ _ rfl) (hinv.trans hm (fun _ _ h => h) (fun _ _ h => h))⟩
  have s46 : S2 ops PP w0 a0 Q 46 := by
    refine E46.stepW fun o hd ho hg hw y w listed hsz hls hun hwt hdown D' R hinv K hK => ?_
    rw [ha0] at hsz
    refine .inl ⟨wanted_none hg, ?_⟩
    have f46 : y.eval (Operand.tmp 46) = .bool true := r _ _ _ (E39.postW D' (hw 39 (by simp)))
    have f52 : y.eval (Operand.tmp 52) = .bool false := r _ _ _ (E45.postW D' (hw 45 (by simp)))
    exact wp_value (ox_pick ho f46 f52) (hK _ _ (Mod.refl _ _) (q _ _ _ rfl) hinv)
  have s47 : S2 ops PP w0 a0 Q 47 := by
    refine E47.stepW fun o hd ho hg hw y w listed hsz hls hun hwt hdown D' R hinv K hK => ?_
    rw [ha0] at hsz
    refine .inl ⟨wanted_none hg, ?_⟩
    have f53 : y.eval (Operand.tmp 53) = .bool false := r _ _ _ (E46.postW D' (hw 46 (by simp)))
    exact wp_value (ox_assign ho f53) (hK _ _ (Mod.refl _ _) (q _ _ _ rfl) hinv)
  have stab0 : ∀ i v w w', Mod (fun _ => False) w w' → (fun i' v W => if i' = 44 then Cr.Sl W v LS else v = v26 g N EL ccap cao ec mem rs rr hop ls0 mn i') i v w → (fun i' v W => if i' = 44 then Cr.Sl W v LS else v = v26 g N EL ccap cao ec mem rs rr hop ls0 mn i') i v w' := by
    intro i v w w' hm h
    by_cases hi : i = 44
    · simp only [hi, if_true] at h ⊢; exact h.mod hm (fun _ _ h => h)
    · simp only [hi, if_false] at h ⊢; exact h
  have stab : ∀ i v w w', Mod (fun _ => False) w w' → PP i v w → PP i v w' := fun i v w w' hm h => q _ _ _ (stab0 i v w w' hm (r _ _ _ h))
  refine region_freeW (Post := PP) (Inv := M0 w0) hmx (low_of hlow) (fun i o ho => by rw [ha0]; exact dst_of (by rw [hds]; decide) i o ho) (inj_of hnd) (Mod.refl _ _) stab ?_ ?_
  · intro i o ho
    have hi : i < 48 := by
      rw [← hN]
      rcases Nat.lt_or_ge i ops.size with h | h
      · exact h
      · rw [Array.getElem?_eq_none h] at ho; cases ho
    clear hend
    match i, hi with
    | 0, _ => exact s0 o ho
    | 1, _ => exact s1 o ho
    | 2, _ => exact s2 o ho
    | 3, _ => exact s3 o ho
    | 4, _ => exact s4 o ho
    | 5, _ => exact s5 o ho
    | 6, _ => exact s6 o ho
    | 7, _ => exact s7 o ho
    | 8, _ => exact s8 o ho
    | 9, _ => exact s9 o ho
    | 10, _ => exact s10 o ho
    | 11, _ => exact s11 o ho
    | 12, _ => exact s12 o ho
    | 13, _ => exact s13 o ho
    | 14, _ => exact s14 o ho
    | 15, _ => exact s15 o ho
    | 16, _ => exact s16 o ho
    | 17, _ => exact s17 o ho
    | 18, _ => exact s18 o ho
    | 19, _ => exact s19 o ho
    | 20, _ => exact s20 o ho
    | 21, _ => exact s21 o ho
    | 22, _ => exact s22 o ho
    | 23, _ => exact s23 o ho
    | 24, _ => exact s24 o ho
    | 25, _ => exact s25 o ho
    | 26, _ => exact s26 o ho
    | 27, _ => exact s27 o ho
    | 28, _ => exact s28 o ho
    | 29, _ => exact s29 o ho
    | 30, _ => exact s30 o ho
    | 31, _ => exact s31 o ho
    | 32, _ => exact s32 o ho
    | 33, _ => exact s33 o ho
    | 34, _ => exact s34 o ho
    | 35, _ => exact s35 o ho
    | 36, _ => exact s36 o ho
    | 37, _ => exact s37 o ho
    | 38, _ => exact s38 o ho
    | 39, _ => exact s39 o ho
    | 40, _ => exact s40 o ho
    | 41, _ => exact s41 o ho
    | 42, _ => exact s42 o ho
    | 43, _ => exact s43 o ho
    | 44, _ => exact s44 o ho
    | 45, _ => exact s45 o ho
    | 46, _ => exact s46 o ho
    | 47, _ => exact s47 o ho
    | i + 48, hi => omega
  · intro y w listed hsz hdf hls hall hinv hp hr
    obtain ⟨u, hu⟩ : ∃ u, y.tmps.getD 51 undef = u := ⟨_, rfl⟩
    have e : y = puts a0 [(7, .pointer (some ⟨g, 2, none⟩)), (8, .int .i64 mem), (9, .int .i64 0), (10, .bool true), (11, .bool true), (12, .int .i64 (N : Int)), (13, .bool true), (14, .bool true), (15, .bool true), (16, .pointer (some ⟨g, 0, none⟩)), (17, .agg #[.int .i64 rs, .int .i64 rr]), (18, .bool true), (19, .bool true), (20, .bool true), (21, .pointer (some ⟨g, 0, none⟩)), (22, .pointer (some ⟨g, 1, none⟩)), (23, .int .i64 rr), (24, .pointer (some ⟨g, 2, none⟩)), (25, .int .i64 mem), (26, .int .i64 ls0), (27, .bool true), (28, .bool true), (29, .bool true), (30, .pointer (some ⟨g, 3, none⟩)), (31, .int .i64 hop), (32, .int .i64 (N : Int)), (33, .int .i64 (2 * (N : Int))), (34, .bool true), (35, .bool true), (36, .bool true), (37, .pointer (some ⟨g, 4, none⟩)), (38, .slice cao EL ccap), (39, .int .i64 (EL : Int)), (40, .pointer (some ⟨g, 3, none⟩)), (41, .int .i64 hop), (42, .int .i64 (N : Int)), (43, .int .i64 mn), (44, .bool true), (45, .bool true), (46, .bool true), (47, .pointer (some ⟨g, 4, none⟩)), (48, .slice cao EL ccap), (49, .pointer (some ⟨g, 2, none⟩)), (50, .int .i64 mem), (51, u), (52, .bool false), (53, .bool false), (2, .bool false)] := by
      refine eq_puts hsz hdf (nodup_of (D := [some 7, some 8, some 9, some 10, some 11, some 12, some 13, some 14, some 15, some 16, some 17, some 18, some 19, some 20, some 21, some 22, some 23, some 24, some 25, some 26, some 27, some 28, some 29, some 30, some 31, some 32, some 33, some 34, some 35, some 36, some 37, some 38, some 39, some 40, some 41, some 42, some 43, some 44, some 45, some 46, some 47, some 48, some 49, some 50, some 51, some 52, some 53, some 2]) rfl (by decide)) (by rw [ha0]; simp) ?_ ?_
      · intro q hq
        simp only [List.mem_cons, List.not_mem_nil, or_false] at hq
        rcases hq with rfl | rfl | rfl | rfl | rfl | rfl | rfl | rfl | rfl | rfl | rfl | rfl | rfl | rfl | rfl | rfl | rfl | rfl | rfl | rfl | rfl | rfl | rfl | rfl | rfl | rfl | rfl | rfl | rfl | rfl | rfl | rfl | rfl | rfl | rfl | rfl | rfl | rfl | rfl | rfl | rfl | rfl | rfl | rfl | rfl | rfl | rfl | rfl
        · obtain ⟨o, h1, h2, _⟩ := E0.ex; exact r _ _ _ (hp 0 o _ h1 h2)
        · obtain ⟨o, h1, h2, _⟩ := E1.ex; exact r _ _ _ (hp 1 o _ h1 h2)
        · obtain ⟨o, h1, h2, _⟩ := E2.ex; exact r _ _ _ (hp 2 o _ h1 h2)
        · obtain ⟨o, h1, h2, _⟩ := E3.ex; exact r _ _ _ (hp 3 o _ h1 h2)
        · obtain ⟨o, h1, h2, _⟩ := E4.ex; exact r _ _ _ (hp 4 o _ h1 h2)
        · obtain ⟨o, h1, h2, _⟩ := E5.ex; exact r _ _ _ (hp 5 o _ h1 h2)
        · obtain ⟨o, h1, h2, _⟩ := E6.ex; exact r _ _ _ (hp 6 o _ h1 h2)
        · obtain ⟨o, h1, h2, _⟩ := E7.ex; exact r _ _ _ (hp 7 o _ h1 h2)
        · obtain ⟨o, h1, h2, _⟩ := E8.ex; exact r _ _ _ (hp 8 o _ h1 h2)
        · obtain ⟨o, h1, h2, _⟩ := E9.ex; exact r _ _ _ (hp 9 o _ h1 h2)
        · obtain ⟨o, h1, h2, _⟩ := E10.ex; exact r _ _ _ (hp 10 o _ h1 h2)
        · obtain ⟨o, h1, h2, _⟩ := E11.ex; exact r _ _ _ (hp 11 o _ h1 h2)
        · obtain ⟨o, h1, h2, _⟩ := E12.ex; exact r _ _ _ (hp 12 o _ h1 h2)
        · obtain ⟨o, h1, h2, _⟩ := E13.ex; exact r _ _ _ (hp 13 o _ h1 h2)
        · obtain ⟨o, h1, h2, _⟩ := E14.ex; exact r _ _ _ (hp 14 o _ h1 h2)
        · obtain ⟨o, h1, h2, _⟩ := E15.ex; exact r _ _ _ (hp 15 o _ h1 h2)
        · obtain ⟨o, h1, h2, _⟩ := E16.ex; exact r _ _ _ (hp 16 o _ h1 h2)
        · obtain ⟨o, h1, h2, _⟩ := E17.ex; exact r _ _ _ (hp 17 o _ h1 h2)
        · obtain ⟨o, h1, h2, _⟩ := E18.ex; exact r _ _ _ (hp 18 o _ h1 h2)
        · obtain ⟨o, h1, h2, _⟩ := E19.ex; exact r _ _ _ (hp 19 o _ h1 h2)
        · obtain ⟨o, h1, h2, _⟩ := E20.ex; exact r _ _ _ (hp 20 o _ h1 h2)
        · obtain ⟨o, h1, h2, _⟩ := E21.ex; exact r _ _ _ (hp 21 o _ h1 h2)
        · obtain ⟨o, h1, h2, _⟩ := E22.ex; exact r _ _ _ (hp 22 o _ h1 h2)
        · obtain ⟨o, h1, h2, _⟩ := E23.ex; exact r _ _ _ (hp 23 o _ h1 h2)
        · obtain ⟨o, h1, h2, _⟩ := E24.ex; exact r _ _ _ (hp 24 o _ h1 h2)
        · obtain ⟨o, h1, h2, _⟩ := E25.ex; exact r _ _ _ (hp 25 o _ h1 h2)
        · obtain ⟨o, h1, h2, _⟩ := E26.ex; exact r _ _ _ (hp 26 o _ h1 h2)
        · obtain ⟨o, h1, h2, _⟩ := E27.ex; exact r _ _ _ (hp 27 o _ h1 h2)
        · obtain ⟨o, h1, h2, _⟩ := E28.ex; exact r _ _ _ (hp 28 o _ h1 h2)
        · obtain ⟨o, h1, h2, _⟩ := E29.ex; exact r _ _ _ (hp 29 o _ h1 h2)
        · obtain ⟨o, h1, h2, _⟩ := E30.ex; exact r _ _ _ (hp 30 o _ h1 h2)
        · obtain ⟨o, h1, h2, _⟩ := E31.ex; exact r _ _ _ (hp 31 o _ h1 h2)
        · obtain ⟨o, h1, h2, _⟩ := E32.ex; exact r _ _ _ (hp 32 o _ h1 h2)
        · obtain ⟨o, h1, h2, _⟩ := E33.ex; exact r _ _ _ (hp 33 o _ h1 h2)
        · obtain ⟨o, h1, h2, _⟩ := E34.ex; exact r _ _ _ (hp 34 o _ h1 h2)
        · obtain ⟨o, h1, h2, _⟩ := E35.ex; exact r _ _ _ (hp 35 o _ h1 h2)
        · obtain ⟨o, h1, h2, _⟩ := E36.ex; exact r _ _ _ (hp 36 o _ h1 h2)
        · obtain ⟨o, h1, h2, _⟩ := E37.ex; exact r _ _ _ (hp 37 o _ h1 h2)
        · obtain ⟨o, h1, h2, _⟩ := E38.ex; exact r _ _ _ (hp 38 o _ h1 h2)
        · obtain ⟨o, h1, h2, _⟩ := E39.ex; exact r _ _ _ (hp 39 o _ h1 h2)
        · obtain ⟨o, h1, h2, _⟩ := E40.ex; exact r _ _ _ (hp 40 o _ h1 h2)
        · obtain ⟨o, h1, h2, _⟩ := E41.ex; exact r _ _ _ (hp 41 o _ h1 h2)
        · obtain ⟨o, h1, h2, _⟩ := E42.ex; exact r _ _ _ (hp 42 o _ h1 h2)
        · obtain ⟨o, h1, h2, _⟩ := E43.ex; exact r _ _ _ (hp 43 o _ h1 h2)
        · exact hu
        · obtain ⟨o, h1, h2, _⟩ := E45.ex; exact r _ _ _ (hp 45 o _ h1 h2)
        · obtain ⟨o, h1, h2, _⟩ := E46.ex; exact r _ _ _ (hp 46 o _ h1 h2)
        · obtain ⟨o, h1, h2, _⟩ := E47.ex; exact r _ _ _ (hp 47 o _ h1 h2)
      · intro t ht
        refine hr t (not_of ?_)
        rw [hds]
        simp only [List.mem_cons, List.not_mem_nil, or_false, forall_eq_or_imp, forall_eq] at ht
        simp only [List.contains_cons, List.contains_nil, Bool.or_eq_false_iff, beq_eq_false_iff_ne, ne_eq, Option.some.injEq, Bool.or_false]
        simp only [eq_comm (a := t)]
        simp [ht]
    rw [e]
    exact hend u w hinv
def v27 (g N EL ccap : Nat) (cao : Option Addr) (_ec mem rs rr hop ls0 mn : Int) : Nat → Value
  | 0 => .pointer (some ⟨g, 2, none⟩)
  | 1 => .int .i64 mem
  | 2 => .int .i64 0
  | 3 => .bool true
  | 4 => .bool true
  | 5 => .int .i64 (N : Int)
  | 6 => .bool true
  | 7 => .bool true
  | 8 => .bool true
  | 9 => .pointer (some ⟨g, 0, none⟩)
  | 10 => .agg #[.int .i64 rs, .int .i64 rr]
  | 11 => .bool true
  | 12 => .bool true
  | 13 => .bool true
  | 14 => .pointer (some ⟨g, 0, none⟩)
  | 15 => .pointer (some ⟨g, 1, none⟩)
  | 16 => .int .i64 rr
  | 17 => .pointer (some ⟨g, 2, none⟩)
  | 18 => .int .i64 mem
  | 19 => .int .i64 ls0
  | 20 => .bool true
  | 21 => .bool true
  | 22 => .bool true
  | 23 => .pointer (some ⟨g, 3, none⟩)
  | 24 => .int .i64 hop
  | 25 => .int .i64 (N : Int)
  | 26 => .int .i64 (2 * (N : Int))
  | 27 => .bool true
  | 28 => .bool true
  | 29 => .bool true
  | 30 => .pointer (some ⟨g, 4, none⟩)
  | 31 => .slice cao EL ccap
  | 32 => .int .i64 (EL : Int)
  | 33 => .pointer (some ⟨g, 3, none⟩)
  | 34 => .int .i64 hop
  | 35 => .int .i64 (N : Int)
  | 36 => .int .i64 mn
  | 37 => .bool true
  | 38 => .bool true
  | 39 => .bool true
  | 40 => .pointer (some ⟨g, 4, none⟩)
  | 41 => .slice cao EL ccap
  | 42 => .pointer (some ⟨g, 2, none⟩)
  | 43 => .int .i64 mem
  | 45 => .bool true
  | 46 => .bool true
  | 47 => .bool true
  | _ => undef
set_option maxRecDepth 100000 in
set_option maxHeartbeats 4000000 in
theorem region27 {ops : Array Oper} {id : Nat} {a0 : Act} {w0 : World} {Q : Exit → Act → World → Prop} (g N EL ccap : Nat) (cao : Option Addr) (ec mem rs rr hop ls0 mn : Int) (LS : List Int)
    (EE : Ops20 ops)
    (hN : ops.size = 48) (hlow : lowB ops = true) (hds : dsts ops = [some 7, some 8, some 9, some 10, some 11, some 12, some 13, some 14, some 15, some 16, some 17, some 18, some 19, some 20, some 21, some 22, some 23, some 24, some 25, some 26, some 27, some 28, some 29, some 30, some 31, some 32, some 33, some 34, some 35, some 36, some 37, some 38, some 39, some 40, some 41, some 42, some 43, some 44, some 45, some 46, some 47, some 48, some 49, some 50, some 51, some 52, some 53, some 2]) (hnd : injB ops = true)
    (hmx : Try.prog.follows .mixedOrders = true) (ha0 : a0.tmps.size = 54) (h1 : a0.tmps.getD 1 undef = .pointer (some ⟨g, 0, none⟩)) (h3 : a0.tmps.getD 3 undef = .int .i64 (N : Int))
    (d0 : w0.cell? ⟨g, 0, none⟩ = some (.int .i64 rs)) (d1 : w0.cell? ⟨g, 1, none⟩ = some (.int .i64 rr)) (d2 : w0.cell? ⟨g, 2, none⟩ = some (.int .i64 mem)) (d3 : w0.cell? ⟨g, 3, none⟩ = some (.int .i64 hop)) (d4 : w0.cell? ⟨g, 4, none⟩ = some (.slice cao EL ccap))
    (H0 : ∀ W, Calls Try.prog 137 #[.int .i64 mem] W fun e w' => e = .returned (.int .i64 0) ∧ Mod (fun _ => False) W w')
    (hN0 : decide (0 < (N : Int)) = true)
    (H2 : ∀ W, Calls Try.prog 117 #[.agg #[.int .i64 rs, .int .i64 rr]] W fun e w' => e = .returned (.bool true) ∧ Mod (fun _ => False) W w')
    (H3 : ∀ W, Calls Try.prog 140 #[.int .i64 mem] W fun e w' => e = .returned (.int .i64 ls0) ∧ Mod (fun _ => False) W w') (hlst : (rr == ls0) = true)
    (hmul : IntKind.i64.wrap (2 * (N : Int)) = 2 * (N : Int)) (H4 : ∀ W, Calls Try.prog 135 #[.int .i64 hop, .int .i64 1, .int .i64 (2 * (N : Int))] W fun e w' => e = .returned (.bool true) ∧ Mod (fun _ => False) W w')
    (hmn : (if (N : Int) < hop then (N : Int) else hop) = mn) (hel : ((EL : Int) == mn) = true)
    (H5 : ∀ W, Calls Try.prog 142 #[.int .i64 mem] W fun e w' => ∃ v, e = .returned v ∧ Cr.Sl w' v LS ∧ Mod (fun _ => False) W w') (H6 : ∀ W v, Mod (fun _ => False) w0.drew W → Cr.Sl W v LS → Calls Try.prog 141 #[.slice cao EL ccap, v] W fun e w' => e = .returned (.bool true) ∧ Mod (fun _ => False) W w')
    (hend : ∀ u w, Mod (fun _ => False) w0.drew w → Q .normal (puts a0 [(7, .pointer (some ⟨g, 2, none⟩)), (8, .int .i64 mem), (9, .int .i64 0), (10, .bool true), (11, .bool true), (12, .int .i64 (N : Int)), (13, .bool true), (14, .bool true), (15, .bool true), (16, .pointer (some ⟨g, 0, none⟩)), (17, .agg #[.int .i64 rs, .int .i64 rr]), (18, .bool true), (19, .bool true), (20, .bool true), (21, .pointer (some ⟨g, 0, none⟩)), (22, .pointer (some ⟨g, 1, none⟩)), (23, .int .i64 rr), (24, .pointer (some ⟨g, 2, none⟩)), (25, .int .i64 mem), (26, .int .i64 ls0), (27, .bool true), (28, .bool true), (29, .bool true), (30, .pointer (some ⟨g, 3, none⟩)), (31, .int .i64 hop), (32, .int .i64 (N : Int)), (33, .int .i64 (2 * (N : Int))), (34, .bool true), (35, .bool true), (36, .bool true), (37, .pointer (some ⟨g, 4, none⟩)), (38, .slice cao EL ccap), (39, .int .i64 (EL : Int)), (40, .pointer (some ⟨g, 3, none⟩)), (41, .int .i64 hop), (42, .int .i64 (N : Int)), (43, .int .i64 mn), (44, .bool true), (45, .bool true), (46, .bool true), (47, .pointer (some ⟨g, 4, none⟩)), (48, .slice cao EL ccap), (49, .pointer (some ⟨g, 2, none⟩)), (50, .int .i64 mem), (51, u), (52, .bool true), (53, .bool true), (2, .bool true)]) w) :
    (Code.region id ops true).wp Try.prog Q a0 w0 := by
  obtain ⟨E0, E1, E2, E3, E4, E5, E6, E7, E8, E9, E10, E11, E12, E13, E14, E15, E16, E17, E18, E19, E20, E21, E22, E23, E24, E25, E26, E27, E28, E29, E30, E31, E32, E33, E34, E35, E36, E37, E38, E39, E40, E41, E42, E43, E44, E45, E46, E47⟩ := EE
  obtain ⟨PP, q, r⟩ : ∃ PP : Nat → Value → World → Prop, (∀ i v w, (fun i' v W => if i' = 44 then Cr.Sl W v LS else v = v27 g N EL ccap cao ec mem rs rr hop ls0 mn i') i v w → PP i v w) ∧ (∀ i v w, PP i v w → (fun i' v W => if i' = 44 then Cr.Sl W v LS else v = v27 g N EL ccap cao ec mem rs rr hop ls0 mn i') i v w) := ⟨(fun i' v W => if i' = 44 then Cr.Sl W v LS else v = v27 g N EL ccap cao ec mem rs rr hop ls0 mn i'), fun _ _ _ h => h, fun _ _ _ h => h⟩
  have D : ∀ {W : World} {a : Addr} {v : Value}, Mod (fun _ => False) w0.drew W → w0.cell? a = some v → W.cell? a = some v := fun hW hc => hW.cell (by simpa using hc) (fun h => h)
  have s0 : S2 ops PP w0 a0 Q 0 := by
    refine E0.stepW fun o hd ho hg hw y w listed hsz hls hun hwt hdown D' R hinv K hK => ?_
    rw [ha0] at hsz
    refine .inl ⟨wanted_none hg, ?_⟩
    have f1 : y.eval (Operand.tmp 1) = .pointer (some ⟨g, 0, none⟩) := (R 1 (not_of (by rw [hds]; decide))).trans h1
    exact wp_value (ox_field ho f1 (flc1 w)) (hK _ _ (Mod.refl _ _) (q _ _ _ rfl) hinv)
  have s1 : S2 ops PP w0 a0 Q 1 := by
    refine E1.stepW fun o hd ho hg hw y w listed hsz hls hun hwt hdown D' R hinv K hK => ?_
    rw [ha0] at hsz
    refine .inl ⟨wanted_none hg, ?_⟩
    have f7 : y.eval (Operand.tmp 7) = .pointer (some ⟨g, 2, none⟩) := r _ _ _ (E0.postW D' (hw 0 (by simp)))
    exact wp_value (ox_load ho f7 (ld1 (D hinv d2))) (hK _ _ (Mod.refl _ _) (q _ _ _ rfl) hinv)
  have s2 : S2 ops PP w0 a0 Q 2 := by
    refine E2.stepW fun o hd ho hg hw y w listed hsz hls hun hwt hdown D' R hinv K hK => ?_
    rw [ha0] at hsz
    refine .inl ⟨wanted_none hg, ?_⟩
    have f8 : y.eval (Operand.tmp 8) = .int .i64 mem := r _ _ _ (E1.postW D' (hw 1 (by simp)))
    refine wp_enter (f := 137) (args := #[.int .i64 mem]) ?_ (H0 w) ?_
    · rw [exec_call1 y.eval (fun args w => by simp [go_sem]) rfl ho, f8]
    · rintro e w' ⟨rfl, hm⟩
      exact ⟨_, rfl, hK _ _ hm (q _ _ _ rfl) (hinv.trans hm (fun _ _ h => h) (fun _ _ h => h))⟩
  have s3 : S2 ops PP w0 a0 Q 3 := by
    refine E3.stepW fun o hd ho hg hw y w listed hsz hls hun hwt hdown D' R hinv K hK => ?_
    rw [ha0] at hsz
    refine .inl ⟨wanted_none hg, ?_⟩
    have f9 : y.eval (Operand.tmp 9) = .int .i64 0 := r _ _ _ (E2.postW D' (hw 2 (by simp)))
    exact wp_value (ox_eql0 ho (fun _ => rfl) f9 rfl) (hK _ _ (Mod.refl _ _) (q _ _ _ rfl) hinv)
  have s4 : S2 ops PP w0 a0 Q 4 := by
    refine E4.stepW fun o hd ho hg hw y w listed hsz hls hun hwt hdown D' R hinv K hK => ?_
    rw [ha0] at hsz
    refine .inl ⟨wanted_none hg, ?_⟩
    have f10 : y.eval (Operand.tmp 10) = .bool true := r _ _ _ (E3.postW D' (hw 3 (by simp)))
    exact wp_value (ox_move ho f10) (hK _ _ (Mod.refl _ _) (q _ _ _ rfl) hinv)
  have s5 : S2 ops PP w0 a0 Q 5 := by
    refine E5.stepW fun o hd ho hg hw y w listed hsz hls hun hwt hdown D' R hinv K hK => ?_
    rw [ha0] at hsz
    refine .inl ⟨wanted_yes E4 hg (by rw [hsz]; decide) (r _ _ _ (E4.postW D' (hw 4 (by simp)))), ?_⟩
    have f3 : y.eval (Operand.tmp 3) = .int .i64 (N : Int) := (R 3 (not_of (by rw [hds]; decide))).trans h3
    exact wp_value (ox_move ho f3) (hK _ _ (Mod.refl _ _) (q _ _ _ rfl) hinv)
  have s6 : S2 ops PP w0 a0 Q 6 := by
    refine E6.stepW fun o hd ho hg hw y w listed hsz hls hun hwt hdown D' R hinv K hK => ?_
    rw [ha0] at hsz
    refine .inl ⟨wanted_yes E4 hg (by rw [hsz]; decide) (r _ _ _ (E4.postW D' (hw 4 (by simp)))), ?_⟩
    have f12 : y.eval (Operand.tmp 12) = .int .i64 (N : Int) := r _ _ _ (E5.postW D' (hw 5 (by simp)))
    exact wp_value (ox_gtr0 ho (fun _ => rfl) f12 hN0) (hK _ _ (Mod.refl _ _) (q _ _ _ rfl) hinv)
  have s7 : S2 ops PP w0 a0 Q 7 := by
    refine E7.stepW fun o hd ho hg hw y w listed hsz hls hun hwt hdown D' R hinv K hK => ?_
    rw [ha0] at hsz
    refine .inl ⟨wanted_none hg, ?_⟩
    have f11 : y.eval (Operand.tmp 11) = .bool true := r _ _ _ (E4.postW D' (hw 4 (by simp)))
    have f13 : y.eval (Operand.tmp 13) = .bool true := r _ _ _ (E6.postW D' (hw 6 (by simp)))
    exact wp_value (ox_pick ho f11 f13) (hK _ _ (Mod.refl _ _) (q _ _ _ rfl) hinv)
  have s8 : S2 ops PP w0 a0 Q 8 := by
    refine E8.stepW fun o hd ho hg hw y w listed hsz hls hun hwt hdown D' R hinv K hK => ?_
    rw [ha0] at hsz
    refine .inl ⟨wanted_none hg, ?_⟩
    have f14 : y.eval (Operand.tmp 14) = .bool true := r _ _ _ (E7.postW D' (hw 7 (by simp)))
    exact wp_value (ox_move ho f14) (hK _ _ (Mod.refl _ _) (q _ _ _ rfl) hinv)
  have s9 : S2 ops PP w0 a0 Q 9 := by
    refine E9.stepW fun o hd ho hg hw y w listed hsz hls hun hwt hdown D' R hinv K hK => ?_
    rw [ha0] at hsz
    refine .inl ⟨wanted_yes E8 hg (by rw [hsz]; decide) (r _ _ _ (E8.postW D' (hw 8 (by simp)))), ?_⟩
    have f1 : y.eval (Operand.tmp 1) = .pointer (some ⟨g, 0, none⟩) := (R 1 (not_of (by rw [hds]; decide))).trans h1
    exact wp_value (ox_field ho f1 (flc0 w)) (hK _ _ (Mod.refl _ _) (q _ _ _ rfl) hinv)
  have s10 : S2 ops PP w0 a0 Q 10 := by
    refine E10.stepW fun o hd ho hg hw y w listed hsz hls hun hwt hdown D' R hinv K hK => ?_
    rw [ha0] at hsz
    refine .inl ⟨wanted_yes E8 hg (by rw [hsz]; decide) (r _ _ _ (E8.postW D' (hw 8 (by simp)))), ?_⟩
    have f16 : y.eval (Operand.tmp 16) = .pointer (some ⟨g, 0, none⟩) := r _ _ _ (E9.postW D' (hw 9 (by simp)))
    exact wp_value (ox_load ho f16 (ld2 (D hinv d0) (D hinv d1))) (hK _ _ (Mod.refl _ _) (q _ _ _ rfl) hinv)
  have s11 : S2 ops PP w0 a0 Q 11 := by
    refine E11.stepW fun o hd ho hg hw y w listed hsz hls hun hwt hdown D' R hinv K hK => ?_
    rw [ha0] at hsz
    refine .inl ⟨wanted_yes E8 hg (by rw [hsz]; decide) (r _ _ _ (E8.postW D' (hw 8 (by simp)))), ?_⟩
    have f17 : y.eval (Operand.tmp 17) = .agg #[.int .i64 rs, .int .i64 rr] := r _ _ _ (E10.postW D' (hw 10 (by simp)))
    refine wp_enter (f := 117) (args := #[.agg #[.int .i64 rs, .int .i64 rr]]) ?_ (H2 w) ?_
    · rw [exec_call1 y.eval (fun args w => by simp [go_sem]) rfl ho, f17]
    · rintro e w' ⟨rfl, hm⟩
      exact ⟨_, rfl, hK _ _ hm (q _ _ _ rfl) (hinv.trans hm (fun _ _ h => h) (fun _ _ h => h))⟩
  have s12 : S2 ops PP w0 a0 Q 12 := by
    refine E12.stepW fun o hd ho hg hw y w listed hsz hls hun hwt hdown D' R hinv K hK => ?_
    rw [ha0] at hsz
    refine .inl ⟨wanted_none hg, ?_⟩
    have f15 : y.eval (Operand.tmp 15) = .bool true := r _ _ _ (E8.postW D' (hw 8 (by simp)))
    have f18 : y.eval (Operand.tmp 18) = .bool true := r _ _ _ (E11.postW D' (hw 11 (by simp)))
    exact wp_value (ox_pick ho f15 f18) (hK _ _ (Mod.refl _ _) (q _ _ _ rfl) hinv)
  have s13 : S2 ops PP w0 a0 Q 13 := by
    refine E13.stepW fun o hd ho hg hw y w listed hsz hls hun hwt hdown D' R hinv K hK => ?_
    rw [ha0] at hsz
    refine .inl ⟨wanted_none hg, ?_⟩
    have f19 : y.eval (Operand.tmp 19) = .bool true := r _ _ _ (E12.postW D' (hw 12 (by simp)))
    exact wp_value (ox_move ho f19) (hK _ _ (Mod.refl _ _) (q _ _ _ rfl) hinv)
  have s14 : S2 ops PP w0 a0 Q 14 := by
    refine E14.stepW fun o hd ho hg hw y w listed hsz hls hun hwt hdown D' R hinv K hK => ?_
    rw [ha0] at hsz
    refine .inl ⟨wanted_yes E13 hg (by rw [hsz]; decide) (r _ _ _ (E13.postW D' (hw 13 (by simp)))), ?_⟩
    have f1 : y.eval (Operand.tmp 1) = .pointer (some ⟨g, 0, none⟩) := (R 1 (not_of (by rw [hds]; decide))).trans h1
    exact wp_value (ox_field ho f1 (flc0 w)) (hK _ _ (Mod.refl _ _) (q _ _ _ rfl) hinv)
  have s15 : S2 ops PP w0 a0 Q 15 := by
    refine E15.stepW fun o hd ho hg hw y w listed hsz hls hun hwt hdown D' R hinv K hK => ?_
    rw [ha0] at hsz
    refine .inl ⟨wanted_yes E13 hg (by rw [hsz]; decide) (r _ _ _ (E13.postW D' (hw 13 (by simp)))), ?_⟩
    have f21 : y.eval (Operand.tmp 21) = .pointer (some ⟨g, 0, none⟩) := r _ _ _ (E14.postW D' (hw 14 (by simp)))
    exact wp_value (ox_field ho f21 (flr1 w)) (hK _ _ (Mod.refl _ _) (q _ _ _ rfl) hinv)
  have s16 : S2 ops PP w0 a0 Q 16 := by
    refine E16.stepW fun o hd ho hg hw y w listed hsz hls hun hwt hdown D' R hinv K hK => ?_
    rw [ha0] at hsz
    refine .inl ⟨wanted_yes E13 hg (by rw [hsz]; decide) (r _ _ _ (E13.postW D' (hw 13 (by simp)))), ?_⟩
    have f22 : y.eval (Operand.tmp 22) = .pointer (some ⟨g, 1, none⟩) := r _ _ _ (E15.postW D' (hw 15 (by simp)))
    exact wp_value (ox_load ho f22 (ld1 (D hinv d1))) (hK _ _ (Mod.refl _ _) (q _ _ _ rfl) hinv)
  have s17 : S2 ops PP w0 a0 Q 17 := by
    refine E17.stepW fun o hd ho hg hw y w listed hsz hls hun hwt hdown D' R hinv K hK => ?_
    rw [ha0] at hsz
    refine .inl ⟨wanted_yes E13 hg (by rw [hsz]; decide) (r _ _ _ (E13.postW D' (hw 13 (by simp)))), ?_⟩
    have f1 : y.eval (Operand.tmp 1) = .pointer (some ⟨g, 0, none⟩) := (R 1 (not_of (by rw [hds]; decide))).trans h1
    exact wp_value (ox_field ho f1 (flc1 w)) (hK _ _ (Mod.refl _ _) (q _ _ _ rfl) hinv)
  have s18 : S2 ops PP w0 a0 Q 18 := by
    refine E18.stepW fun o hd ho hg hw y w listed hsz hls hun hwt hdown D' R hinv K hK => ?_
    rw [ha0] at hsz
    refine .inl ⟨wanted_yes E13 hg (by rw [hsz]; decide) (r _ _ _ (E13.postW D' (hw 13 (by simp)))), ?_⟩
    have f24 : y.eval (Operand.tmp 24) = .pointer (some ⟨g, 2, none⟩) := r _ _ _ (E17.postW D' (hw 17 (by simp)))
    exact wp_value (ox_load ho f24 (ld1 (D hinv d2))) (hK _ _ (Mod.refl _ _) (q _ _ _ rfl) hinv)
  have s19 : S2 ops PP w0 a0 Q 19 := by
    refine E19.stepW fun o hd ho hg hw y w listed hsz hls hun hwt hdown D' R hinv K hK => ?_
    rw [ha0] at hsz
    refine .inl ⟨wanted_yes E13 hg (by rw [hsz]; decide) (r _ _ _ (E13.postW D' (hw 13 (by simp)))), ?_⟩
    have f25 : y.eval (Operand.tmp 25) = .int .i64 mem := r _ _ _ (E18.postW D' (hw 18 (by simp)))
    refine wp_enter (f := 140) (args := #[.int .i64 mem]) ?_ (H3 w) ?_
    · rw [exec_call1 y.eval (fun args w => by simp [go_sem]) rfl ho, f25]
    · rintro e w' ⟨rfl, hm⟩
      exact ⟨_, rfl, hK _ _ hm (q _ _ _ rfl) (hinv.trans hm (fun _ _ h => h) (fun _ _ h => h))⟩
  have s20 : S2 ops PP w0 a0 Q 20 := by
    refine E20.stepW fun o hd ho hg hw y w listed hsz hls hun hwt hdown D' R hinv K hK => ?_
    rw [ha0] at hsz
    refine .inl ⟨wanted_yes E13 hg (by rw [hsz]; decide) (r _ _ _ (E13.postW D' (hw 13 (by simp)))), ?_⟩
    have f23 : y.eval (Operand.tmp 23) = .int .i64 rr := r _ _ _ (E16.postW D' (hw 16 (by simp)))
    have f26 : y.eval (Operand.tmp 26) = .int .i64 ls0 := r _ _ _ (E19.postW D' (hw 19 (by simp)))
    exact wp_value (ox_eql ho f23 f26 hlst) (hK _ _ (Mod.refl _ _) (q _ _ _ rfl) hinv)
  have s21 : S2 ops PP w0 a0 Q 21 := by
    refine E21.stepW fun o hd ho hg hw y w listed hsz hls hun hwt hdown D' R hinv K hK => ?_
    rw [ha0] at hsz
    refine .inl ⟨wanted_none hg, ?_⟩
    have f20 : y.eval (Operand.tmp 20) = .bool true := r _ _ _ (E13.postW D' (hw 13 (by simp)))
    have f27 : y.eval (Operand.tmp 27) = .bool true := r _ _ _ (E20.postW D' (hw 20 (by simp)))
    exact wp_value (ox_pick ho f20 f27) (hK _ _ (Mod.refl _ _) (q _ _ _ rfl) hinv)
  have s22 : S2 ops PP w0 a0 Q 22 := by
    refine E22.stepW fun o hd ho hg hw y w listed hsz hls hun hwt hdown D' R hinv K hK => ?_
    rw [ha0] at hsz
    refine .inl ⟨wanted_none hg, ?_⟩
    have f28 : y.eval (Operand.tmp 28) = .bool true := r _ _ _ (E21.postW D' (hw 21 (by simp)))
    exact wp_value (ox_move ho f28) (hK _ _ (Mod.refl _ _) (q _ _ _ rfl) hinv)
  have s23 : S2 ops PP w0 a0 Q 23 := by
    refine E23.stepW fun o hd ho hg hw y w listed hsz hls hun hwt hdown D' R hinv K hK => ?_
    rw [ha0] at hsz
    refine .inl ⟨wanted_yes E22 hg (by rw [hsz]; decide) (r _ _ _ (E22.postW D' (hw 22 (by simp)))), ?_⟩
    have f1 : y.eval (Operand.tmp 1) = .pointer (some ⟨g, 0, none⟩) := (R 1 (not_of (by rw [hds]; decide))).trans h1
    exact wp_value (ox_field ho f1 (flc2 w)) (hK _ _ (Mod.refl _ _) (q _ _ _ rfl) hinv)
  have s24 : S2 ops PP w0 a0 Q 24 := by
    refine E24.stepW fun o hd ho hg hw y w listed hsz hls hun hwt hdown D' R hinv K hK => ?_
    rw [ha0] at hsz
    refine .inl ⟨wanted_yes E22 hg (by rw [hsz]; decide) (r _ _ _ (E22.postW D' (hw 22 (by simp)))), ?_⟩
    have f30 : y.eval (Operand.tmp 30) = .pointer (some ⟨g, 3, none⟩) := r _ _ _ (E23.postW D' (hw 23 (by simp)))
    exact wp_value (ox_load ho f30 (ld1 (D hinv d3))) (hK _ _ (Mod.refl _ _) (q _ _ _ rfl) hinv)
  have s25 : S2 ops PP w0 a0 Q 25 := by
    refine E25.stepW fun o hd ho hg hw y w listed hsz hls hun hwt hdown D' R hinv K hK => ?_
    rw [ha0] at hsz
    refine .inl ⟨wanted_yes E22 hg (by rw [hsz]; decide) (r _ _ _ (E22.postW D' (hw 22 (by simp)))), ?_⟩
    have f3 : y.eval (Operand.tmp 3) = .int .i64 (N : Int) := (R 3 (not_of (by rw [hds]; decide))).trans h3
    exact wp_value (ox_move ho f3) (hK _ _ (Mod.refl _ _) (q _ _ _ rfl) hinv)
  have s26 : S2 ops PP w0 a0 Q 26 := by
    refine E26.stepW fun o hd ho hg hw y w listed hsz hls hun hwt hdown D' R hinv K hK => ?_
    rw [ha0] at hsz
    refine .inl ⟨wanted_yes E22 hg (by rw [hsz]; decide) (r _ _ _ (E22.postW D' (hw 22 (by simp)))), ?_⟩
    have f32 : y.eval (Operand.tmp 32) = .int .i64 (N : Int) := r _ _ _ (E25.postW D' (hw 25 (by simp)))
    exact wp_value (ox_mul2 ho (fun _ => rfl) f32 hmul) (hK _ _ (Mod.refl _ _) (q _ _ _ rfl) hinv)
  have s27 : S2 ops PP w0 a0 Q 27 := by
    refine E27.stepW fun o hd ho hg hw y w listed hsz hls hun hwt hdown D' R hinv K hK => ?_
    rw [ha0] at hsz
    refine .inl ⟨wanted_yes E22 hg (by rw [hsz]; decide) (r _ _ _ (E22.postW D' (hw 22 (by simp)))), ?_⟩
    have f31 : y.eval (Operand.tmp 31) = .int .i64 hop := r _ _ _ (E24.postW D' (hw 24 (by simp)))
    have f33 : y.eval (Operand.tmp 33) = .int .i64 (2 * (N : Int)) := r _ _ _ (E26.postW D' (hw 26 (by simp)))
    refine wp_enter (f := 135) (args := #[.int .i64 hop, .int .i64 1, .int .i64 (2 * (N : Int))]) ?_ (H4 w) ?_
    · rw [exec_call3 y.eval (fun args w => by simp [go_sem]) rfl ho, f31, f33]; rfl
    · rintro e w' ⟨rfl, hm⟩
      exact ⟨_, rfl, hK _ _ hm (q _ _ _ rfl) (hinv.trans hm (fun _ _ h => h) (fun _ _ h => h))⟩
  have s28 : S2 ops PP w0 a0 Q 28 := by
    refine E28.stepW fun o hd ho hg hw y w listed hsz hls hun hwt hdown D' R hinv K hK => ?_
    rw [ha0] at hsz
    refine .inl ⟨wanted_none hg, ?_⟩
    have f29 : y.eval (Operand.tmp 29) = .bool true := r _ _ _ (E22.postW D' (hw 22 (by simp)))
    have f34 : y.eval (Operand.tmp 34) = .bool true := r _ _ _ (E27.postW D' (hw 27 (by simp)))
    exact wp_value (ox_pick ho f29 f34) (hK _ _ (Mod.refl _ _) (q _ _ _ rfl) hinv)
  have s29 : S2 ops PP w0 a0 Q 29 := by
    refine E29.stepW fun o hd ho hg hw y w listed hsz hls hun hwt hdown D' R hinv K hK => ?_
    rw [ha0] at hsz
    refine .inl ⟨wanted_none hg, ?_⟩
    have f35 : y.eval (Operand.tmp 35) = .bool true := r _ _ _ (E28.postW D' (hw 28 (by simp)))
    exact wp_value (ox_move ho f35) (hK _ _ (Mod.refl _ _) (q _ _ _ rfl) hinv)
  have s30 : S2 ops PP w0 a0 Q 30 := by
    refine E30.stepW fun o hd ho hg hw y w listed hsz hls hun hwt hdown D' R hinv K hK => ?_
    rw [ha0] at hsz
    refine .inl ⟨wanted_yes E29 hg (by rw [hsz]; decide) (r _ _ _ (E29.postW D' (hw 29 (by simp)))), ?_⟩
    have f1 : y.eval (Operand.tmp 1) = .pointer (some ⟨g, 0, none⟩) := (R 1 (not_of (by rw [hds]; decide))).trans h1
    exact wp_value (ox_field ho f1 (flc3 w)) (hK _ _ (Mod.refl _ _) (q _ _ _ rfl) hinv)
  have s31 : S2 ops PP w0 a0 Q 31 := by
    refine E31.stepW fun o hd ho hg hw y w listed hsz hls hun hwt hdown D' R hinv K hK => ?_
    rw [ha0] at hsz
    refine .inl ⟨wanted_yes E29 hg (by rw [hsz]; decide) (r _ _ _ (E29.postW D' (hw 29 (by simp)))), ?_⟩
    have f37 : y.eval (Operand.tmp 37) = .pointer (some ⟨g, 4, none⟩) := r _ _ _ (E30.postW D' (hw 30 (by simp)))
    exact wp_value (ox_load ho f37 (lde (D hinv d4))) (hK _ _ (Mod.refl _ _) (q _ _ _ rfl) hinv)
  have s32 : S2 ops PP w0 a0 Q 32 := by
    refine E32.stepW fun o hd ho hg hw y w listed hsz hls hun hwt hdown D' R hinv K hK => ?_
    rw [ha0] at hsz
    refine .inl ⟨wanted_yes E29 hg (by rw [hsz]; decide) (r _ _ _ (E29.postW D' (hw 29 (by simp)))), ?_⟩
    have f38 : y.eval (Operand.tmp 38) = .slice cao EL ccap := r _ _ _ (E31.postW D' (hw 31 (by simp)))
    exact wp_value (ox_len ho f38) (hK _ _ (Mod.refl _ _) (q _ _ _ rfl) hinv)
  have s33 : S2 ops PP w0 a0 Q 33 := by
    refine E33.stepW fun o hd ho hg hw y w listed hsz hls hun hwt hdown D' R hinv K hK => ?_
    rw [ha0] at hsz
    refine .inl ⟨wanted_yes E29 hg (by rw [hsz]; decide) (r _ _ _ (E29.postW D' (hw 29 (by simp)))), ?_⟩
    have f1 : y.eval (Operand.tmp 1) = .pointer (some ⟨g, 0, none⟩) := (R 1 (not_of (by rw [hds]; decide))).trans h1
    exact wp_value (ox_field ho f1 (flc2 w)) (hK _ _ (Mod.refl _ _) (q _ _ _ rfl) hinv)
  have s34 : S2 ops PP w0 a0 Q 34 := by
    refine E34.stepW fun o hd ho hg hw y w listed hsz hls hun hwt hdown D' R hinv K hK => ?_
    rw [ha0] at hsz
    refine .inl ⟨wanted_yes E29 hg (by rw [hsz]; decide) (r _ _ _ (E29.postW D' (hw 29 (by simp)))), ?_⟩
    have f40 : y.eval (Operand.tmp 40) = .pointer (some ⟨g, 3, none⟩) := r _ _ _ (E33.postW D' (hw 33 (by simp)))
    exact wp_value (ox_load ho f40 (ld1 (D hinv d3))) (hK _ _ (Mod.refl _ _) (q _ _ _ rfl) hinv)
  have s35 : S2 ops PP w0 a0 Q 35 := by
    refine E35.stepW fun o hd ho hg hw y w listed hsz hls hun hwt hdown D' R hinv K hK => ?_
    rw [ha0] at hsz
    refine .inl ⟨wanted_yes E29 hg (by rw [hsz]; decide) (r _ _ _ (E29.postW D' (hw 29 (by simp)))), ?_⟩
    have f3 : y.eval (Operand.tmp 3) = .int .i64 (N : Int) := (R 3 (not_of (by rw [hds]; decide))).trans h3
    exact wp_value (ox_move ho f3) (hK _ _ (Mod.refl _ _) (q _ _ _ rfl) hinv)
  have s36 : S2 ops PP w0 a0 Q 36 := by
    refine E36.stepW fun o hd ho hg hw y w listed hsz hls hun hwt hdown D' R hinv K hK => ?_
    rw [ha0] at hsz
    refine .inl ⟨wanted_yes E29 hg (by rw [hsz]; decide) (r _ _ _ (E29.postW D' (hw 29 (by simp)))), ?_⟩
    have f41 : y.eval (Operand.tmp 41) = .int .i64 hop := r _ _ _ (E34.postW D' (hw 34 (by simp)))
    have f42 : y.eval (Operand.tmp 42) = .int .i64 (N : Int) := r _ _ _ (E35.postW D' (hw 35 (by simp)))
    exact wp_value (ox_min ho f41 f42 hmn) (hK _ _ (Mod.refl _ _) (q _ _ _ rfl) hinv)
  have s37 : S2 ops PP w0 a0 Q 37 := by
    refine E37.stepW fun o hd ho hg hw y w listed hsz hls hun hwt hdown D' R hinv K hK => ?_
    rw [ha0] at hsz
    refine .inl ⟨wanted_yes E29 hg (by rw [hsz]; decide) (r _ _ _ (E29.postW D' (hw 29 (by simp)))), ?_⟩
    have f39 : y.eval (Operand.tmp 39) = .int .i64 (EL : Int) := r _ _ _ (E32.postW D' (hw 32 (by simp)))
    have f43 : y.eval (Operand.tmp 43) = .int .i64 mn := r _ _ _ (E36.postW D' (hw 36 (by simp)))
    exact wp_value (ox_eql ho f39 f43 hel) (hK _ _ (Mod.refl _ _) (q _ _ _ rfl) hinv)
  have s38 : S2 ops PP w0 a0 Q 38 := by
    refine E38.stepW fun o hd ho hg hw y w listed hsz hls hun hwt hdown D' R hinv K hK => ?_
    rw [ha0] at hsz
    refine .inl ⟨wanted_none hg, ?_⟩
    have f36 : y.eval (Operand.tmp 36) = .bool true := r _ _ _ (E29.postW D' (hw 29 (by simp)))
    have f44 : y.eval (Operand.tmp 44) = .bool true := r _ _ _ (E37.postW D' (hw 37 (by simp)))
    exact wp_value (ox_pick ho f36 f44) (hK _ _ (Mod.refl _ _) (q _ _ _ rfl) hinv)
  have s39 : S2 ops PP w0 a0 Q 39 := by
    refine E39.stepW fun o hd ho hg hw y w listed hsz hls hun hwt hdown D' R hinv K hK => ?_
    rw [ha0] at hsz
    refine .inl ⟨wanted_none hg, ?_⟩
    have f45 : y.eval (Operand.tmp 45) = .bool true := r _ _ _ (E38.postW D' (hw 38 (by simp)))
    exact wp_value (ox_move ho f45) (hK _ _ (Mod.refl _ _) (q _ _ _ rfl) hinv)
  have s40 : S2 ops PP w0 a0 Q 40 := by
    refine E40.stepW fun o hd ho hg hw y w listed hsz hls hun hwt hdown D' R hinv K hK => ?_
    rw [ha0] at hsz
    refine .inl ⟨wanted_yes E39 hg (by rw [hsz]; decide) (r _ _ _ (E39.postW D' (hw 39 (by simp)))), ?_⟩
    have f1 : y.eval (Operand.tmp 1) = .pointer (some ⟨g, 0, none⟩) := (R 1 (not_of (by rw [hds]; decide))).trans h1
    exact wp_value (ox_field ho f1 (flc3 w)) (hK _ _ (Mod.refl _ _) (q _ _ _ rfl) hinv)
  have s41 : S2 ops PP w0 a0 Q 41 := by
    refine E41.stepW fun o hd ho hg hw y w listed hsz hls hun hwt hdown D' R hinv K hK => ?_
    rw [ha0] at hsz
    refine .inl ⟨wanted_yes E39 hg (by rw [hsz]; decide) (r _ _ _ (E39.postW D' (hw 39 (by simp)))), ?_⟩
    have f47 : y.eval (Operand.tmp 47) = .pointer (some ⟨g, 4, none⟩) := r _ _ _ (E40.postW D' (hw 40 (by simp)))
    exact wp_value (ox_load ho f47 (lde (D hinv d4))) (hK _ _ (Mod.refl _ _) (q _ _ _ rfl) hinv)
  have s42 : S2 ops PP w0 a0 Q 42 := by
    refine E42.stepW fun o hd ho hg hw y w listed hsz hls hun hwt hdown D' R hinv K hK => ?_
    rw [ha0] at hsz
    refine .inl ⟨wanted_yes E39 hg (by rw [hsz]; decide) (r _ _ _ (E39.postW D' (hw 39 (by simp)))), ?_⟩
    have f1 : y.eval (Operand.tmp 1) = .pointer (some ⟨g, 0, none⟩) := (R 1 (not_of (by rw [hds]; decide))).trans h1
    exact wp_value (ox_field ho f1 (flc1 w)) (hK _ _ (Mod.refl _ _) (q _ _ _ rfl) hinv)
  have s43 : S2 ops PP w0 a0 Q 43 := by
    refine E43.stepW fun o hd ho hg hw y w listed hsz hls hun hwt hdown D' R hinv K hK => ?_
    rw [ha0] at hsz
    refine .inl ⟨wanted_yes E39 hg (by rw [hsz]; decide) (r _ _ _ (E39.postW D' (hw 39 (by simp)))), ?_⟩
    have f49 : y.eval (Operand.tmp 49) = .pointer (some ⟨g, 2, none⟩) := r _ _ _ (E42.postW D' (hw 42 (by simp)))
    exact wp_value (ox_load ho f49 (ld1 (D hinv d2))) (hK _ _ (Mod.refl _ _) (q _ _ _ rfl) hinv)
  have s44 : S2 ops PP w0 a0 Q 44 := by
    refine E44.stepW fun o hd ho hg hw y w listed hsz hls hun hwt hdown D' R hinv K hK => ?_
    rw [ha0] at hsz
    refine .inl ⟨wanted_yes E39 hg (by rw [hsz]; decide) (r _ _ _ (E39.postW D' (hw 39 (by simp)))), ?_⟩
    have f50 : y.eval (Operand.tmp 50) = .int .i64 mem := r _ _ _ (E43.postW D' (hw 43 (by simp)))
    refine wp_enter (f := 142) (args := #[.int .i64 mem]) ?_ (H5 w) ?_
    · rw [exec_call1 y.eval (fun args w => by simp [go_sem]) rfl ho, f50]
    · rintro e w' ⟨v, rfl, hv, hm⟩
      exact ⟨_, rfl, hK _ _ hm (q 44 _ _ hv) (hinv.trans hm (fun _ _ h => h) (fun _ _ h => h))⟩
  have s45 : S2 ops PP w0 a0 Q 45 := by
    refine E45.stepW fun o hd ho hg hw y w listed hsz hls hun hwt hdown D' R hinv K hK => ?_
    rw [ha0] at hsz
    refine .inl ⟨wanted_yes E39 hg (by rw [hsz]; decide) (r _ _ _ (E39.postW D' (hw 39 (by simp)))), ?_⟩
    have f48 : y.eval (Operand.tmp 48) = .slice cao EL ccap := r _ _ _ (E41.postW D' (hw 41 (by simp)))
    have f51 : Cr.Sl w (y.eval (Operand.tmp 51)) LS := r _ _ _ (E44.postW D' (hw 44 (by simp)))
    refine wp_enter (f := 141) (args := #[.slice cao EL ccap, y.eval (Operand.tmp 51)]) ?_ (H6 w _ hinv f51) ?_
    · rw [exec_call2 y.eval (fun args w => by simp [go_sem]) rfl ho, f48]
    · rintro e w' ⟨rfl, hm⟩
      exact ⟨_, rfl, hK _ _ hm (q _ _ _ rfl) (hinv.trans hm (fun _ _ h => h) (fun _ _ h => h))⟩
  have s46 : S2 ops PP w0 a0 Q 46 := by
    refine E46.stepW fun o hd ho hg hw y w listed hsz hls hun hwt hdown D' R hinv K hK => ?_
    rw [ha0] at hsz
    refine .inl ⟨wanted_none hg, ?_⟩
    have f46 : y.eval (Operand.tmp 46) = .bool true := r _ _ _ (E39.postW D' (hw 39 (by simp)))
    have f52 : y.eval (Operand.tmp 52) = .bool true := r _ _ _ (E45.postW D' (hw 45 (by simp)))
    exact wp_value (ox_pick ho f46 f52) (hK _ _ (Mod.refl _ _) (q _ _ _ rfl) hinv)
  have s47 : S2 ops PP w0 a0 Q 47 := by
    refine E47.stepW fun o hd ho hg hw y w listed hsz hls hun hwt hdown D' R hinv K hK => ?_
    rw [ha0] at hsz
    refine .inl ⟨wanted_none hg, ?_⟩
    have f53 : y.eval (Operand.tmp 53) = .bool true := r _ _ _ (E46.postW D' (hw 46 (by simp)))
    exact wp_value (ox_assign ho f53) (hK _ _ (Mod.refl _ _) (q _ _ _ rfl) hinv)
  have stab0 : ∀ i v w w', Mod (fun _ => False) w w' → (fun i' v W => if i' = 44 then Cr.Sl W v LS else v = v27 g N EL ccap cao ec mem rs rr hop ls0 mn i') i v w → (fun i' v W => if i' = 44 then Cr.Sl W v LS else v = v27 g N EL ccap cao ec mem rs rr hop ls0 mn i') i v w' := by
    intro i v w w' hm h
    by_cases hi : i = 44
    · simp only [hi, if_true] at h ⊢; exact h.mod hm (fun _ _ h => h)
    · simp only [hi, if_false] at h ⊢; exact h
  have stab : ∀ i v w w', Mod (fun _ => False) w w' → PP i v w → PP i v w' := fun i v w w' hm h => q _ _ _ (stab0 i v w w' hm (r _ _ _ h))
  refine region_freeW (Post := PP) (Inv := M0 w0) hmx (low_of hlow) (fun i o ho => by rw [ha0]; exact dst_of (by rw [hds]; decide) i o ho) (inj_of hnd) (Mod.refl _ _) stab ?_ ?_
  · intro i o ho
    have hi : i < 48 := by
      rw [← hN]
      rcases Nat.lt_or_ge i ops.size with h | h
      · exact h
      · rw [Array.getElem?_eq_none h] at ho; cases ho
    clear hend
    match i, hi with
    | 0, _ => exact s0 o ho
    | 1, _ => exact s1 o ho
    | 2, _ => exact s2 o ho
    | 3, _ => exact s3 o ho
    | 4, _ => exact s4 o ho
    | 5, _ => exact s5 o ho
    | 6, _ => exact s6 o ho
    | 7, _ => exact s7 o ho
    | 8, _ => exact s8 o ho
    | 9, _ => exact s9 o ho
    | 10, _ => exact s10 o ho
    | 11, _ => exact s11 o ho
    | 12, _ => exact s12 o ho
    | 13, _ => exact s13 o ho
    | 14, _ => exact s14 o ho
    | 15, _ => exact s15 o ho
    | 16, _ => exact s16 o ho
    | 17, _ => exact s17 o ho
    | 18, _ => exact s18 o ho
    | 19, _ => exact s19 o ho
    | 20, _ => exact s20 o ho
    | 21, _ => exact s21 o ho
    | 22, _ => exact s22 o ho
    | 23, _ => exact s23 o ho
    | 24, _ => exact s24 o ho
    | 25, _ => exact s25 o ho
    | 26, _ => exact s26 o ho
    | 27, _ => exact s27 o ho
    | 28, _ => exact s28 o ho
    | 29, _ => exact s29 o ho
    | 30, _ => exact s30 o ho
    | 31, _ => exact s31 o ho
    | 32, _ => exact s32 o ho
    | 33, _ => exact s33 o ho
    | 34, _ => exact s34 o ho
    | 35, _ => exact s35 o ho
    | 36, _ => exact s36 o ho
    | 37, _ => exact s37 o ho
    | 38, _ => exact s38 o ho
    | 39, _ => exact s39 o ho
    | 40, _ => exact s40 o ho
    | 41, _ => exact s41 o ho
    | 42, _ => exact s42 o ho
    | 43, _ => exact s43 o ho
    | 44, _ => exact s44 o ho
    | 45, _ => exact s45 o ho
    | 46, _ => exact s46 o ho
    | 47, _ => exact s47 o ho
    | i + 48, hi => omega
  · intro y w listed hsz hdf hls hall hinv hp hr
    obtain ⟨u, hu⟩ : ∃ u, y.tmps.getD 51 undef = u := ⟨_, rfl⟩
    have e : y = puts a0 [(7, .pointer (some ⟨g, 2, none⟩)), (8, .int .i64 mem), (9, .int .i64 0), (10, .bool true), (11, .bool true), (12, .int .i64 (N : Int)), (13, .bool true), (14, .bool true), (15, .bool true), (16, .pointer (some ⟨g, 0, none⟩)), (17, .agg #[.int .i64 rs, .int .i64 rr]), (18, .bool true), (19, .bool true), (20, .bool true), (21, .pointer (some ⟨g, 0, none⟩)), (22, .pointer (some ⟨g, 1, none⟩)), (23, .int .i64 rr), (24, .pointer (some ⟨g, 2, none⟩)), (25, .int .i64 mem), (26, .int .i64 ls0), (27, .bool true), (28, .bool true), (29, .bool true), (30, .pointer (some ⟨g, 3, none⟩)), (31, .int .i64 hop), (32, .int .i64 (N : Int)), (33, .int .i64 (2 * (N : Int))), (34, .bool true), (35, .bool true), (36, .bool true), (37, .pointer (some ⟨g, 4, none⟩)), (38, .slice cao EL ccap), (39, .int .i64 (EL : Int)), (40, .pointer (some ⟨g, 3, none⟩)), (41, .int .i64 hop), (42, .int .i64 (N : Int)), (43, .int .i64 mn), (44, .bool true), (45, .bool true), (46, .bool true), (47, .pointer (some ⟨g, 4, none⟩)), (48, .slice cao EL ccap), (49, .pointer (some ⟨g, 2, none⟩)), (50, .int .i64 mem), (51, u), (52, .bool true), (53, .bool true), (2, .bool true)] := by
      refine eq_puts hsz hdf (nodup_of (D := [some 7, some 8, some 9, some 10, some 11, some 12, some 13, some 14, some 15, some 16, some 17, some 18, some 19, some 20, some 21, some 22, some 23, some 24, some 25, some 26, some 27, some 28, some 29, some 30, some 31, some 32, some 33, some 34, some 35, some 36, some 37, some 38, some 39, some 40, some 41, some 42, some 43, some 44, some 45, some 46, some 47, some 48, some 49, some 50, some 51, some 52, some 53, some 2]) rfl (by decide)) (by rw [ha0]; simp) ?_ ?_
      · intro q hq
        simp only [List.mem_cons, List.not_mem_nil, or_false] at hq
        rcases hq with rfl | rfl | rfl | rfl | rfl | rfl | rfl | rfl | rfl | rfl | rfl | rfl | rfl | rfl | rfl | rfl | rfl | rfl | rfl | rfl | rfl | rfl | rfl | rfl | rfl | rfl | rfl | rfl | rfl | rfl | rfl | rfl | rfl | rfl | rfl | rfl | rfl | rfl | rfl | rfl | rfl | rfl | rfl | rfl | rfl | rfl | rfl | rfl
        · obtain ⟨o, h1, h2, _⟩ := E0.ex; exact r _ _ _ (hp 0 o _ h1 h2)
        · obtain ⟨o, h1, h2, _⟩ := E1.ex; exact r _ _ _ (hp 1 o _ h1 h2)
        · obtain ⟨o, h1, h2, _⟩ := E2.ex; exact r _ _ _ (hp 2 o _ h1 h2)
        · obtain ⟨o, h1, h2, _⟩ := E3.ex; exact r _ _ _ (hp 3 o _ h1 h2)
        · obtain ⟨o, h1, h2, _⟩ := E4.ex; exact r _ _ _ (hp 4 o _ h1 h2)
        · obtain ⟨o, h1, h2, _⟩ := E5.ex; exact r _ _ _ (hp 5 o _ h1 h2)
        · obtain ⟨o, h1, h2, _⟩ := E6.ex; exact r _ _ _ (hp 6 o _ h1 h2)
        · obtain ⟨o, h1, h2, _⟩ := E7.ex; exact r _ _ _ (hp 7 o _ h1 h2)
        · obtain ⟨o, h1, h2, _⟩ := E8.ex; exact r _ _ _ (hp 8 o _ h1 h2)
        · obtain ⟨o, h1, h2, _⟩ := E9.ex; exact r _ _ _ (hp 9 o _ h1 h2)
        · obtain ⟨o, h1, h2, _⟩ := E10.ex; exact r _ _ _ (hp 10 o _ h1 h2)
        · obtain ⟨o, h1, h2, _⟩ := E11.ex; exact r _ _ _ (hp 11 o _ h1 h2)
        · obtain ⟨o, h1, h2, _⟩ := E12.ex; exact r _ _ _ (hp 12 o _ h1 h2)
        · obtain ⟨o, h1, h2, _⟩ := E13.ex; exact r _ _ _ (hp 13 o _ h1 h2)
        · obtain ⟨o, h1, h2, _⟩ := E14.ex; exact r _ _ _ (hp 14 o _ h1 h2)
        · obtain ⟨o, h1, h2, _⟩ := E15.ex; exact r _ _ _ (hp 15 o _ h1 h2)
        · obtain ⟨o, h1, h2, _⟩ := E16.ex; exact r _ _ _ (hp 16 o _ h1 h2)
        · obtain ⟨o, h1, h2, _⟩ := E17.ex; exact r _ _ _ (hp 17 o _ h1 h2)
        · obtain ⟨o, h1, h2, _⟩ := E18.ex; exact r _ _ _ (hp 18 o _ h1 h2)
        · obtain ⟨o, h1, h2, _⟩ := E19.ex; exact r _ _ _ (hp 19 o _ h1 h2)
        · obtain ⟨o, h1, h2, _⟩ := E20.ex; exact r _ _ _ (hp 20 o _ h1 h2)
        · obtain ⟨o, h1, h2, _⟩ := E21.ex; exact r _ _ _ (hp 21 o _ h1 h2)
        · obtain ⟨o, h1, h2, _⟩ := E22.ex; exact r _ _ _ (hp 22 o _ h1 h2)
        · obtain ⟨o, h1, h2, _⟩ := E23.ex; exact r _ _ _ (hp 23 o _ h1 h2)
        · obtain ⟨o, h1, h2, _⟩ := E24.ex; exact r _ _ _ (hp 24 o _ h1 h2)
        · obtain ⟨o, h1, h2, _⟩ := E25.ex; exact r _ _ _ (hp 25 o _ h1 h2)
        · obtain ⟨o, h1, h2, _⟩ := E26.ex; exact r _ _ _ (hp 26 o _ h1 h2)
        · obtain ⟨o, h1, h2, _⟩ := E27.ex; exact r _ _ _ (hp 27 o _ h1 h2)
        · obtain ⟨o, h1, h2, _⟩ := E28.ex; exact r _ _ _ (hp 28 o _ h1 h2)
        · obtain ⟨o, h1, h2, _⟩ := E29.ex; exact r _ _ _ (hp 29 o _ h1 h2)
        · obtain ⟨o, h1, h2, _⟩ := E30.ex; exact r _ _ _ (hp 30 o _ h1 h2)
        · obtain ⟨o, h1, h2, _⟩ := E31.ex; exact r _ _ _ (hp 31 o _ h1 h2)
        · obtain ⟨o, h1, h2, _⟩ := E32.ex; exact r _ _ _ (hp 32 o _ h1 h2)
        · obtain ⟨o, h1, h2, _⟩ := E33.ex; exact r _ _ _ (hp 33 o _ h1 h2)
        · obtain ⟨o, h1, h2, _⟩ := E34.ex; exact r _ _ _ (hp 34 o _ h1 h2)
        · obtain ⟨o, h1, h2, _⟩ := E35.ex; exact r _ _ _ (hp 35 o _ h1 h2)
        · obtain ⟨o, h1, h2, _⟩ := E36.ex; exact r _ _ _ (hp 36 o _ h1 h2)
        · obtain ⟨o, h1, h2, _⟩ := E37.ex; exact r _ _ _ (hp 37 o _ h1 h2)
        · obtain ⟨o, h1, h2, _⟩ := E38.ex; exact r _ _ _ (hp 38 o _ h1 h2)
        · obtain ⟨o, h1, h2, _⟩ := E39.ex; exact r _ _ _ (hp 39 o _ h1 h2)
        · obtain ⟨o, h1, h2, _⟩ := E40.ex; exact r _ _ _ (hp 40 o _ h1 h2)
        · obtain ⟨o, h1, h2, _⟩ := E41.ex; exact r _ _ _ (hp 41 o _ h1 h2)
        · obtain ⟨o, h1, h2, _⟩ := E42.ex; exact r _ _ _ (hp 42 o _ h1 h2)
        · obtain ⟨o, h1, h2, _⟩ := E43.ex; exact r _ _ _ (hp 43 o _ h1 h2)
        · exact hu
        · obtain ⟨o, h1, h2, _⟩ := E45.ex; exact r _ _ _ (hp 45 o _ h1 h2)
        · obtain ⟨o, h1, h2, _⟩ := E46.ex; exact r _ _ _ (hp 46 o _ h1 h2)
        · obtain ⟨o, h1, h2, _⟩ := E47.ex; exact r _ _ _ (hp 47 o _ h1 h2)
      · intro t ht
        refine hr t (not_of ?_)
        rw [hds]
        simp only [List.mem_cons, List.not_mem_nil, or_false, forall_eq_or_imp, forall_eq] at ht
        simp only [List.contains_cons, List.contains_nil, Bool.or_eq_false_iff, beq_eq_false_iff_ne, ne_eq, Option.some.injEq, Bool.or_false]
        simp only [eq_comm (a := t)]
        simp [ht]
    rw [e]
    exact hend u w hinv
end Go.Proofs.Ytajhpnfpjickbaa
