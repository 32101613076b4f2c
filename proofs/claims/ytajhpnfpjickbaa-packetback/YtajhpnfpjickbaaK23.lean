/- The statement of packet's areMembers that draws its order, in its six cases. Conditions: what is said of the slots that it reads, and of the cells. -/
import Derived.Test.YtajhpnfpjickbaaK17
import Derived.Test.YtajhpnfpjickbaaK22
namespace Go.Proofs.Ytajhpnfpjickbaa
open Go.RowKit
theorem idx1 {b off n cap j : Nat} (hj : j < n) (w : World) : (Instr.indexAt 65 (.slice (some ⟨b, off, none⟩) n cap) (.int .i64 (j : Int))).run Try.prog w = .ok (.pointer (some ⟨b, off + j, none⟩)) w := by
  have h1 : (j : Int) < (n : Int) := by omega
  simp [go_sem, h1]
theorem fle0 {b : Nat} (w : World) : (Instr.fieldAt 167 (.pointer (some ⟨b, 0, none⟩)) 0).run Try.prog w = .ok (.pointer (some ⟨b, 0, none⟩)) w := by
  simp [go_sem]
theorem fle1 {b : Nat} (w : World) : (Instr.fieldAt 167 (.pointer (some ⟨b, 0, none⟩)) 1).run Try.prog w = .ok (.pointer (some ⟨b, 1, none⟩)) w := by
  simp [go_sem]
theorem fle2 {b : Nat} (w : World) : (Instr.fieldAt 167 (.pointer (some ⟨b, 0, none⟩)) 2).run Try.prog w = .ok (.pointer (some ⟨b, 3, none⟩)) w := by
  simp [go_sem]
theorem fle3 {b : Nat} (w : World) : (Instr.fieldAt 167 (.pointer (some ⟨b, 0, none⟩)) 3).run Try.prog w = .ok (.pointer (some ⟨b, 4, none⟩)) w := by
  simp [go_sem]
theorem fle4 {b : Nat} (w : World) : (Instr.fieldAt 167 (.pointer (some ⟨b, 0, none⟩)) 4).run Try.prog w = .ok (.pointer (some ⟨b, 5, none⟩)) w := by
  simp [go_sem]
theorem ld2 {b o : Nat} {p0 p1 : Int} {w : World} (h0 : w.cell? ⟨b, o, none⟩ = some (.int .i64 p0)) (h1 : w.cell? ⟨b, o + 1, none⟩ = some (.int .i64 p1)) : (Instr.loadAt 23 (.pointer (some ⟨b, o, none⟩))).run Try.prog w = .ok (.agg #[.int .i64 p0, .int .i64 p1]) w := by
  simp [go_sem, h0, h1]
theorem exec_call3 {o : Oper} {w : World} (ρ : Operand → Value) {f : FuncId} (hcf : ∀ args w, (callFunc f args).run Try.prog w = .ok (.enter f args) w) (hf : ρ (.func f) = .func (.func f) #[] #[]) {x y z : Operand} {ts : Array TypeId} (ho : o.op = .call { callee := .value (.func f), args := #[x, y, z], argTypes := ts }) : (execOp ρ o).run Try.prog w = .ok (.enter f #[ρ x, ρ y, ρ z]) w := by
  simp [execOp, ho, resolve, invoke, hf, go_sem, hcf]
theorem ox_neq {o : Oper} {w : World} {ρ : Operand → Value} {x y : Operand} (ho : o.op = .binOp .neq 3 x y 3) {c d : Int} (hx : ρ x = .int .i64 c) (hy : ρ y = .int .i64 d) {e : Bool} (he : (c != d) = e) : (execOp ρ o).run Try.prog w = .ok (.value (.bool e)) w := by
  subst he
  simp [execOp, ho, hx, hy, go_sem]
def v40 (g mb mo M mcap k : Nat) (en _os _od _ar _hh _ck mk : Int) : Nat → Value
  | 0 => .pointer (some ⟨g, 0, none⟩)
  | 1 => .int .i64 en
  | 2 => .slice (some ⟨mb, mo, none⟩) M mcap
  | 3 => .int .i64 (k : Int)
  | 4 => .pointer (some ⟨mb, mo + k, none⟩)
  | 5 => .int .i64 mk
  | 6 => .bool true
  | 7 => .bool true
  | 12 => .bool true
  | 13 => .bool true
  | 18 => .bool true
  | 19 => .bool true
  | 26 => .bool true
  | 27 => .bool true
  | 32 => .bool true
  | _ => undef
/-- A step. -/
abbrev S4 (ops : Array Oper) (PP : Nat → Value → Prop) (w0 : World) (a0 : Act) (Q : Exit → Act → World → Prop) (i : Nat) : Prop := ∀ o, ops[i]? = some o → Step Try.prog ops PP (M0 w0) a0 Q i o
/-- The region's operations. -/
structure Ops40 (ops : Array Oper) : Prop where
  e0 : Is ops 0 (some 14) (Op.fieldAddr 167 (Operand.tmp 6) 0) none []
  e1 : Is ops 1 (some 15) (Op.load 3 (Operand.tmp 14)) none [0]
  e2 : Is ops 2 (some 16) (Op.move (Operand.tmp 1)) none []
  e3 : Is ops 3 (some 17) (Op.move (Operand.tmp 5)) none []
  e4 : Is ops 4 (some 18) (Op.indexAddr 65 (Operand.tmp 16) (Operand.tmp 17)) none [2, 3]
  e5 : Is ops 5 (some 19) (Op.load 3 (Operand.tmp 18)) none [4]
  e6 : Is ops 6 (some 20) (Op.binOp BinOp.neq 3 (Operand.tmp 15) (Operand.tmp 19) 3) none [1, 5]
  e7 : Is ops 7 (some 21) (Op.move (Operand.tmp 20)) none [6]
  e8 : Is ops 8 (some 22) (Op.fieldAddr 167 (Operand.tmp 6) 1) (some (7, false)) [7]
  e9 : Is ops 9 (some 23) (Op.load 23 (Operand.tmp 22)) (some (7, false)) [7, 8]
  e10 : Is ops 10 (some 24) (Op.call { callee := Callee.value (Operand.func 117), args := #[Operand.tmp 23], argTypes := #[23] }) (some (7, false)) [7, 9]
  e11 : Is ops 11 (some 25) (Op.unOp UnOp.not 4 (Operand.tmp 24)) (some (7, false)) [7, 10]
  e12 : Is ops 12 (some 26) (Op.pick (Operand.tmp 21) (Operand.const (Value.bool true)) (Operand.tmp 25)) none [7, 11]
  e13 : Is ops 13 (some 27) (Op.move (Operand.tmp 26)) none [10, 12]
  e14 : Is ops 14 (some 28) (Op.fieldAddr 167 (Operand.tmp 6) 3) (some (13, false)) [13]
  e15 : Is ops 15 (some 29) (Op.load 3 (Operand.tmp 28)) (some (13, false)) [13, 14]
  e16 : Is ops 16 (some 30) (Op.call { callee := Callee.value (Operand.func 134), args := #[Operand.tmp 29], argTypes := #[3] }) (some (13, false)) [13, 15]
  e17 : Is ops 17 (some 31) (Op.unOp UnOp.not 4 (Operand.tmp 30)) (some (13, false)) [13, 16]
  e18 : Is ops 18 (some 32) (Op.pick (Operand.tmp 27) (Operand.const (Value.bool true)) (Operand.tmp 31)) none [13, 17]
  e19 : Is ops 19 (some 33) (Op.move (Operand.tmp 32)) none [16, 18]
  e20 : Is ops 20 (some 34) (Op.fieldAddr 167 (Operand.tmp 6) 2) (some (19, false)) [19]
  e21 : Is ops 21 (some 35) (Op.load 3 (Operand.tmp 34)) (some (19, false)) [19, 20]
  e22 : Is ops 22 (some 36) (Op.fieldAddr 167 (Operand.tmp 6) 3) (some (19, false)) [19]
  e23 : Is ops 23 (some 37) (Op.load 3 (Operand.tmp 36)) (some (19, false)) [19, 22]
  e24 : Is ops 24 (some 38) (Op.call { callee := Callee.value (Operand.func 135), args := #[Operand.tmp 35, Operand.const (Value.int IntKind.i64 0), Operand.tmp 37], argTypes := #[3, 3, 3] }) (some (19, false)) [19, 21, 23]
  e25 : Is ops 25 (some 39) (Op.unOp UnOp.not 4 (Operand.tmp 38)) (some (19, false)) [19, 24]
  e26 : Is ops 26 (some 40) (Op.pick (Operand.tmp 33) (Operand.const (Value.bool true)) (Operand.tmp 39)) none [19, 25]
  e27 : Is ops 27 (some 41) (Op.move (Operand.tmp 40)) none [24, 26]
  e28 : Is ops 28 (some 42) (Op.fieldAddr 167 (Operand.tmp 6) 4) (some (27, false)) [27]
  e29 : Is ops 29 (some 43) (Op.load 3 (Operand.tmp 42)) (some (27, false)) [27, 28]
  e30 : Is ops 30 (some 44) (Op.call { callee := Callee.value (Operand.func 134), args := #[Operand.tmp 43], argTypes := #[3] }) (some (27, false)) [27, 29]
  e31 : Is ops 31 (some 45) (Op.unOp UnOp.not 4 (Operand.tmp 44)) (some (27, false)) [27, 30]
  e32 : Is ops 32 (some 46) (Op.pick (Operand.tmp 41) (Operand.const (Value.bool true)) (Operand.tmp 45)) none [27, 31]
set_option maxRecDepth 100000 in
set_option maxHeartbeats 4000000 in
theorem region40 {ops : Array Oper} {id : Nat} {a0 : Act} {w0 : World} {Q : Exit → Act → World → Prop} (g mb mo M mcap k : Nat) (en os od ar hh ck mk : Int)
    (EE : Ops40 ops)
    (hN : ops.size = 33) (hlow : lowB ops = true) (hds : dsts ops = [some 14, some 15, some 16, some 17, some 18, some 19, some 20, some 21, some 22, some 23, some 24, some 25, some 26, some 27, some 28, some 29, some 30, some 31, some 32, some 33, some 34, some 35, some 36, some 37, some 38, some 39, some 40, some 41, some 42, some 43, some 44, some 45, some 46]) (hnd : injB ops = true)
    (hmx : Try.prog.follows .mixedOrders = true) (ha0 : a0.tmps.size = 48) (h6 : a0.tmps.getD 6 undef = .pointer (some ⟨g, 0, none⟩)) (h1 : a0.tmps.getD 1 undef = .slice (some ⟨mb, mo, none⟩) M mcap) (h5 : a0.tmps.getD 5 undef = .int .i64 (k : Int))
    (hk : k < M) (hne : (en != mk) = true) (d0 : w0.cell? ⟨g, 0, none⟩ = some (.int .i64 en)) (_d1 : w0.cell? ⟨g, 1, none⟩ = some (.int .i64 os)) (_d2 : w0.cell? ⟨g, 2, none⟩ = some (.int .i64 od)) (_d3 : w0.cell? ⟨g, 3, none⟩ = some (.int .i64 ar)) (_d4 : w0.cell? ⟨g, 4, none⟩ = some (.int .i64 hh)) (_d5 : w0.cell? ⟨g, 5, none⟩ = some (.int .i64 ck)) (dm : w0.cell? ⟨mb, mo + k, none⟩ = some (.int .i64 mk))
    (hend : ∀ w, Mod (fun _ => False) w0.drew w → Q .normal (puts a0 [(14, .pointer (some ⟨g, 0, none⟩)), (15, .int .i64 en), (16, .slice (some ⟨mb, mo, none⟩) M mcap), (17, .int .i64 (k : Int)), (18, .pointer (some ⟨mb, mo + k, none⟩)), (19, .int .i64 mk), (20, .bool true), (21, .bool true), (22, undef), (23, undef), (24, undef), (25, undef), (26, .bool true), (27, .bool true), (28, undef), (29, undef), (30, undef), (31, undef), (32, .bool true), (33, .bool true), (34, undef), (35, undef), (36, undef), (37, undef), (38, undef), (39, undef), (40, .bool true), (41, .bool true), (42, undef), (43, undef), (44, undef), (45, undef), (46, .bool true)]) w) :
    (Code.region id ops true).wp Try.prog Q a0 w0 := by
  obtain ⟨E0, E1, E2, E3, E4, E5, E6, E7, E8, E9, E10, E11, E12, E13, E14, E15, E16, E17, E18, E19, E20, E21, E22, E23, E24, E25, E26, E27, E28, E29, E30, E31, E32⟩ := EE
  obtain ⟨PP, q, r⟩ : ∃ PP : Nat → Value → Prop, (∀ i v, (fun i' v => v = v40 g mb mo M mcap k en os od ar hh ck mk i') i v → PP i v) ∧ (∀ i v, PP i v → (fun i' v => v = v40 g mb mo M mcap k en os od ar hh ck mk i') i v) := ⟨(fun i' v => v = v40 g mb mo M mcap k en os od ar hh ck mk i'), fun _ _ h => h, fun _ _ h => h⟩
  have D : ∀ {W : World} {a : Addr} {v : Value}, Mod (fun _ => False) w0.drew W → w0.cell? a = some v → W.cell? a = some v := fun hW hc => hW.cell (by simpa using hc) (fun h => h)
  have s0 : S4 ops PP w0 a0 Q 0 := by
    refine E0.step fun o hd ho hg hw y w listed hsz hls hun hwt hdown D' R hinv K hK => ?_
    rw [ha0] at hsz
    refine .inl ⟨wanted_none hg, ?_⟩
    have f6 : y.eval (Operand.tmp 6) = .pointer (some ⟨g, 0, none⟩) := (R 6 (not_of (by rw [hds]; decide))).trans h6
    exact wp_value (ox_field ho f6 (fle0 w)) (hK _ _ (q _ _ rfl) hinv)
  have s1 : S4 ops PP w0 a0 Q 1 := by
    refine E1.step fun o hd ho hg hw y w listed hsz hls hun hwt hdown D' R hinv K hK => ?_
    rw [ha0] at hsz
    refine .inl ⟨wanted_none hg, ?_⟩
    have f14 : y.eval (Operand.tmp 14) = .pointer (some ⟨g, 0, none⟩) := r _ _ (E0.post D' (hw 0 (by simp)))
    exact wp_value (ox_load ho f14 (ld1 (D hinv d0))) (hK _ _ (q _ _ rfl) hinv)
  have s2 : S4 ops PP w0 a0 Q 2 := by
    refine E2.step fun o hd ho hg hw y w listed hsz hls hun hwt hdown D' R hinv K hK => ?_
    rw [ha0] at hsz
    refine .inl ⟨wanted_none hg, ?_⟩
    have f1 : y.eval (Operand.tmp 1) = .slice (some ⟨mb, mo, none⟩) M mcap := (R 1 (not_of (by rw [hds]; decide))).trans h1
    exact wp_value (ox_move ho f1) (hK _ _ (q _ _ rfl) hinv)
  have s3 : S4 ops PP w0 a0 Q 3 := by
    refine E3.step fun o hd ho hg hw y w listed hsz hls hun hwt hdown D' R hinv K hK => ?_
    rw [ha0] at hsz
    refine .inl ⟨wanted_none hg, ?_⟩
    have f5 : y.eval (Operand.tmp 5) = .int .i64 (k : Int) := (R 5 (not_of (by rw [hds]; decide))).trans h5
    exact wp_value (ox_move ho f5) (hK _ _ (q _ _ rfl) hinv)
  have s4 : S4 ops PP w0 a0 Q 4 := by
    refine E4.step fun o hd ho hg hw y w listed hsz hls hun hwt hdown D' R hinv K hK => ?_
    rw [ha0] at hsz
    refine .inl ⟨wanted_none hg, ?_⟩
    have f16 : y.eval (Operand.tmp 16) = .slice (some ⟨mb, mo, none⟩) M mcap := r _ _ (E2.post D' (hw 2 (by simp)))
    have f17 : y.eval (Operand.tmp 17) = .int .i64 (k : Int) := r _ _ (E3.post D' (hw 3 (by simp)))
    exact wp_value (ox_index ho f16 f17 (idx1 hk w)) (hK _ _ (q _ _ rfl) hinv)
  have s5 : S4 ops PP w0 a0 Q 5 := by
    refine E5.step fun o hd ho hg hw y w listed hsz hls hun hwt hdown D' R hinv K hK => ?_
    rw [ha0] at hsz
    refine .inl ⟨wanted_none hg, ?_⟩
    have f18 : y.eval (Operand.tmp 18) = .pointer (some ⟨mb, mo + k, none⟩) := r _ _ (E4.post D' (hw 4 (by simp)))
    exact wp_value (ox_load ho f18 (ld1 (D hinv dm))) (hK _ _ (q _ _ rfl) hinv)
  have s6 : S4 ops PP w0 a0 Q 6 := by
    refine E6.step fun o hd ho hg hw y w listed hsz hls hun hwt hdown D' R hinv K hK => ?_
    rw [ha0] at hsz
    refine .inl ⟨wanted_none hg, ?_⟩
    have f15 : y.eval (Operand.tmp 15) = .int .i64 en := r _ _ (E1.post D' (hw 1 (by simp)))
    have f19 : y.eval (Operand.tmp 19) = .int .i64 mk := r _ _ (E5.post D' (hw 5 (by simp)))
    exact wp_value (ox_neq ho f15 f19 hne) (hK _ _ (q _ _ rfl) hinv)
  have s7 : S4 ops PP w0 a0 Q 7 := by
    refine E7.step fun o hd ho hg hw y w listed hsz hls hun hwt hdown D' R hinv K hK => ?_
    rw [ha0] at hsz
    refine .inl ⟨wanted_none hg, ?_⟩
    have f20 : y.eval (Operand.tmp 20) = .bool true := r _ _ (E6.post D' (hw 6 (by simp)))
    exact wp_value (ox_move ho f20) (hK _ _ (q _ _ rfl) hinv)
  have s8 : S4 ops PP w0 a0 Q 8 := by
    refine E8.step fun o hd ho hg hw y w listed hsz hls hun hwt hdown D' R hinv K hK => ?_
    rw [ha0] at hsz
    exact .inr ⟨wanted_no E7 hg (by rw [hsz]; decide) (r _ _ (E7.post D' (hw 7 (by simp)))), hK _ _ (q _ _ rfl) hinv⟩
  have s9 : S4 ops PP w0 a0 Q 9 := by
    refine E9.step fun o hd ho hg hw y w listed hsz hls hun hwt hdown D' R hinv K hK => ?_
    rw [ha0] at hsz
    exact .inr ⟨wanted_no E7 hg (by rw [hsz]; decide) (r _ _ (E7.post D' (hw 7 (by simp)))), hK _ _ (q _ _ rfl) hinv⟩
  have s10 : S4 ops PP w0 a0 Q 10 := by
    refine E10.step fun o hd ho hg hw y w listed hsz hls hun hwt hdown D' R hinv K hK => ?_
    rw [ha0] at hsz
    exact .inr ⟨wanted_no E7 hg (by rw [hsz]; decide) (r _ _ (E7.post D' (hw 7 (by simp)))), hK _ _ (q _ _ rfl) hinv⟩
  have s11 : S4 ops PP w0 a0 Q 11 := by
    refine E11.step fun o hd ho hg hw y w listed hsz hls hun hwt hdown D' R hinv K hK => ?_
    rw [ha0] at hsz
    exact .inr ⟨wanted_no E7 hg (by rw [hsz]; decide) (r _ _ (E7.post D' (hw 7 (by simp)))), hK _ _ (q _ _ rfl) hinv⟩
  have s12 : S4 ops PP w0 a0 Q 12 := by
    refine E12.step fun o hd ho hg hw y w listed hsz hls hun hwt hdown D' R hinv K hK => ?_
    rw [ha0] at hsz
    refine .inl ⟨wanted_none hg, ?_⟩
    have f21 : y.eval (Operand.tmp 21) = .bool true := r _ _ (E7.post D' (hw 7 (by simp)))
    have f25 : y.eval (Operand.tmp 25) = undef := r _ _ (E11.post D' (hw 11 (by simp)))
    exact wp_value (ox_pick ho f21 rfl) (hK _ _ (q _ _ rfl) hinv)
  have s13 : S4 ops PP w0 a0 Q 13 := by
    refine E13.step fun o hd ho hg hw y w listed hsz hls hun hwt hdown D' R hinv K hK => ?_
    rw [ha0] at hsz
    refine .inl ⟨wanted_none hg, ?_⟩
    have f26 : y.eval (Operand.tmp 26) = .bool true := r _ _ (E12.post D' (hw 12 (by simp)))
    exact wp_value (ox_move ho f26) (hK _ _ (q _ _ rfl) hinv)
  have s14 : S4 ops PP w0 a0 Q 14 := by
    refine E14.step fun o hd ho hg hw y w listed hsz hls hun hwt hdown D' R hinv K hK => ?_
    rw [ha0] at hsz
    exact .inr ⟨wanted_no E13 hg (by rw [hsz]; decide) (r _ _ (E13.post D' (hw 13 (by simp)))), hK _ _ (q _ _ rfl) hinv⟩
  have s15 : S4 ops PP w0 a0 Q 15 := by
    refine E15.step fun o hd ho hg hw y w listed hsz hls hun hwt hdown D' R hinv K hK => ?_
    rw [ha0] at hsz
    exact .inr ⟨wanted_no E13 hg (by rw [hsz]; decide) (r _ _ (E13.post D' (hw 13 (by simp)))), hK _ _ (q _ _ rfl) hinv⟩
  have s16 : S4 ops PP w0 a0 Q 16 := by
    refine E16.step fun o hd ho hg hw y w listed hsz hls hun hwt hdown D' R hinv K hK => ?_
    rw [ha0] at hsz
    exact .inr ⟨wanted_no E13 hg (by rw [hsz]; decide) (r _ _ (E13.post D' (hw 13 (by simp)))), hK _ _ (q _ _ rfl) hinv⟩
  have s17 : S4 ops PP w0 a0 Q 17 := by
    refine E17.step fun o hd ho hg hw y w listed hsz hls hun hwt hdown D' R hinv K hK => ?_
    rw [ha0] at hsz
    exact .inr ⟨wanted_no E13 hg (by rw [hsz]; decide) (r _ _ (E13.post D' (hw 13 (by simp)))), hK _ _ (q _ _ rfl) hinv⟩
  have s18 : S4 ops PP w0 a0 Q 18 := by
    refine E18.step fun o hd ho hg hw y w listed hsz hls hun hwt hdown D' R hinv K hK => ?_
    rw [ha0] at hsz
    refine .inl ⟨wanted_none hg, ?_⟩
    have f27 : y.eval (Operand.tmp 27) = .bool true := r _ _ (E13.post D' (hw 13 (by simp)))
    have f31 : y.eval (Operand.tmp 31) = undef := r _ _ (E17.post D' (hw 17 (by simp)))
    exact wp_value (ox_pick ho f27 rfl) (hK _ _ (q _ _ rfl) hinv)
  have s19 : S4 ops PP w0 a0 Q 19 := by
    refine E19.step fun o hd ho hg hw y w listed hsz hls hun hwt hdown D' R hinv K hK => ?_
    rw [ha0] at hsz
    refine .inl ⟨wanted_none hg, ?_⟩
    have f32 : y.eval (Operand.tmp 32) = .bool true := r _ _ (E18.post D' (hw 18 (by simp)))
    exact wp_value (ox_move ho f32) (hK _ _ (q _ _ rfl) hinv)
  have s20 : S4 ops PP w0 a0 Q 20 := by
    refine E20.step fun o hd ho hg hw y w listed hsz hls hun hwt hdown D' R hinv K hK => ?_
    rw [ha0] at hsz
    exact .inr ⟨wanted_no E19 hg (by rw [hsz]; decide) (r _ _ (E19.post D' (hw 19 (by simp)))), hK _ _ (q _ _ rfl) hinv⟩
  have s21 : S4 ops PP w0 a0 Q 21 := by
    refine E21.step fun o hd ho hg hw y w listed hsz hls hun hwt hdown D' R hinv K hK => ?_
    rw [ha0] at hsz
    exact .inr ⟨wanted_no E19 hg (by rw [hsz]; decide) (r _ _ (E19.post D' (hw 19 (by simp)))), hK _ _ (q _ _ rfl) hinv⟩
  have s22 : S4 ops PP w0 a0 Q 22 := by
    refine E22.step fun o hd ho hg hw y w listed hsz hls hun hwt hdown D' R hinv K hK => ?_
    rw [ha0] at hsz
    exact .inr ⟨wanted_no E19 hg (by rw [hsz]; decide) (r _ _ (E19.post D' (hw 19 (by simp)))), hK _ _ (q _ _ rfl) hinv⟩
  have s23 : S4 ops PP w0 a0 Q 23 := by
    refine E23.step fun o hd ho hg hw y w listed hsz hls hun hwt hdown D' R hinv K hK => ?_
    rw [ha0] at hsz
    exact .inr ⟨wanted_no E19 hg (by rw [hsz]; decide) (r _ _ (E19.post D' (hw 19 (by simp)))), hK _ _ (q _ _ rfl) hinv⟩
  have s24 : S4 ops PP w0 a0 Q 24 := by
    refine E24.step fun o hd ho hg hw y w listed hsz hls hun hwt hdown D' R hinv K hK => ?_
    rw [ha0] at hsz
    exact .inr ⟨wanted_no E19 hg (by rw [hsz]; decide) (r _ _ (E19.post D' (hw 19 (by simp)))), hK _ _ (q _ _ rfl) hinv⟩
  have s25 : S4 ops PP w0 a0 Q 25 := by
    refine E25.step fun o hd ho hg hw y w listed hsz hls hun hwt hdown D' R hinv K hK => ?_
    rw [ha0] at hsz
    exact .inr ⟨wanted_no E19 hg (by rw [hsz]; decide) (r _ _ (E19.post D' (hw 19 (by simp)))), hK _ _ (q _ _ rfl) hinv⟩
  have s26 : S4 ops PP w0 a0 Q 26 := by
    refine E26.step fun o hd ho hg hw y w listed hsz hls hun hwt hdown D' R hinv K hK => ?_
    rw [ha0] at hsz
    refine .inl ⟨wanted_none hg, ?_⟩
    have f33 : y.eval (Operand.tmp 33) = .bool true := r _ _ (E19.post D' (hw 19 (by simp)))
    have f39 : y.eval (Operand.tmp 39) = undef := r _ _ (E25.post D' (hw 25 (by simp)))
    exact wp_value (ox_pick ho f33 rfl) (hK _ _ (q _ _ rfl) hinv)
  have s27 : S4 ops PP w0 a0 Q 27 := by
    refine E27.step fun o hd ho hg hw y w listed hsz hls hun hwt hdown D' R hinv K hK => ?_
    rw [ha0] at hsz
    refine .inl ⟨wanted_none hg, ?_⟩
    have f40 : y.eval (Operand.tmp 40) = .bool true := r _ _ (E26.post D' (hw 26 (by simp)))
    exact wp_value (ox_move ho f40) (hK _ _ (q _ _ rfl) hinv)
  have s28 : S4 ops PP w0 a0 Q 28 := by
    refine E28.step fun o hd ho hg hw y w listed hsz hls hun hwt hdown D' R hinv K hK => ?_
    rw [ha0] at hsz
    exact .inr ⟨wanted_no E27 hg (by rw [hsz]; decide) (r _ _ (E27.post D' (hw 27 (by simp)))), hK _ _ (q _ _ rfl) hinv⟩
  have s29 : S4 ops PP w0 a0 Q 29 := by
    refine E29.step fun o hd ho hg hw y w listed hsz hls hun hwt hdown D' R hinv K hK => ?_
    rw [ha0] at hsz
    exact .inr ⟨wanted_no E27 hg (by rw [hsz]; decide) (r _ _ (E27.post D' (hw 27 (by simp)))), hK _ _ (q _ _ rfl) hinv⟩
  have s30 : S4 ops PP w0 a0 Q 30 := by
    refine E30.step fun o hd ho hg hw y w listed hsz hls hun hwt hdown D' R hinv K hK => ?_
    rw [ha0] at hsz
    exact .inr ⟨wanted_no E27 hg (by rw [hsz]; decide) (r _ _ (E27.post D' (hw 27 (by simp)))), hK _ _ (q _ _ rfl) hinv⟩
  have s31 : S4 ops PP w0 a0 Q 31 := by
    refine E31.step fun o hd ho hg hw y w listed hsz hls hun hwt hdown D' R hinv K hK => ?_
    rw [ha0] at hsz
    exact .inr ⟨wanted_no E27 hg (by rw [hsz]; decide) (r _ _ (E27.post D' (hw 27 (by simp)))), hK _ _ (q _ _ rfl) hinv⟩
  have s32 : S4 ops PP w0 a0 Q 32 := by
    refine E32.step fun o hd ho hg hw y w listed hsz hls hun hwt hdown D' R hinv K hK => ?_
    rw [ha0] at hsz
    refine .inl ⟨wanted_none hg, ?_⟩
    have f41 : y.eval (Operand.tmp 41) = .bool true := r _ _ (E27.post D' (hw 27 (by simp)))
    have f45 : y.eval (Operand.tmp 45) = undef := r _ _ (E31.post D' (hw 31 (by simp)))
    exact wp_value (ox_pick ho f41 rfl) (hK _ _ (q _ _ rfl) hinv)
  refine region_free (Post := PP) (Inv := M0 w0) hmx (low_of hlow) (fun i o ho => by rw [ha0]; exact dst_of (by rw [hds]; decide) i o ho) (inj_of hnd) (Mod.refl _ _) ?_ ?_
  · intro i o ho
    have hi : i < 33 := by
      rw [← hN]
      rcases Nat.lt_or_ge i ops.size with h | h
      · exact h
      · rw [Array.getElem?_eq_none h] at ho; cases ho
    clear hend
    match i, hi with
    | 0, _ => exact s0 o ho
    | 1, _ => exact s1 o ho
    | 2, _ => exact s2 o ho
    | 3, _ => exact s3 o ho
    | 4, _ => exact s4 o ho
    | 5, _ => exact s5 o ho
    | 6, _ => exact s6 o ho
    | 7, _ => exact s7 o ho
    | 8, _ => exact s8 o ho
    | 9, _ => exact s9 o ho
    | 10, _ => exact s10 o ho
    | 11, _ => exact s11 o ho
    | 12, _ => exact s12 o ho
    | 13, _ => exact s13 o ho
    | 14, _ => exact s14 o ho
    | 15, _ => exact s15 o ho
    | 16, _ => exact s16 o ho
    | 17, _ => exact s17 o ho
    | 18, _ => exact s18 o ho
    | 19, _ => exact s19 o ho
    | 20, _ => exact s20 o ho
    | 21, _ => exact s21 o ho
    | 22, _ => exact s22 o ho
    | 23, _ => exact s23 o ho
    | 24, _ => exact s24 o ho
    | 25, _ => exact s25 o ho
    | 26, _ => exact s26 o ho
    | 27, _ => exact s27 o ho
    | 28, _ => exact s28 o ho
    | 29, _ => exact s29 o ho
    | 30, _ => exact s30 o ho
    | 31, _ => exact s31 o ho
    | 32, _ => exact s32 o ho
    | i + 33, hi => omega
  · intro y w listed hsz hdf hls hall hinv hp hr
    have e : y = puts a0 [(14, .pointer (some ⟨g, 0, none⟩)), (15, .int .i64 en), (16, .slice (some ⟨mb, mo, none⟩) M mcap), (17, .int .i64 (k : Int)), (18, .pointer (some ⟨mb, mo + k, none⟩)), (19, .int .i64 mk), (20, .bool true), (21, .bool true), (22, undef), (23, undef), (24, undef), (25, undef), (26, .bool true), (27, .bool true), (28, undef), (29, undef), (30, undef), (31, undef), (32, .bool true), (33, .bool true), (34, undef), (35, undef), (36, undef), (37, undef), (38, undef), (39, undef), (40, .bool true), (41, .bool true), (42, undef), (43, undef), (44, undef), (45, undef), (46, .bool true)] := by
      refine eq_puts hsz hdf (nodup_of (D := [some 14, some 15, some 16, some 17, some 18, some 19, some 20, some 21, some 22, some 23, some 24, some 25, some 26, some 27, some 28, some 29, some 30, some 31, some 32, some 33, some 34, some 35, some 36, some 37, some 38, some 39, some 40, some 41, some 42, some 43, some 44, some 45, some 46]) rfl (by decide)) (by rw [ha0]; simp) ?_ ?_
      · intro q hq
        simp only [List.mem_cons, List.not_mem_nil, or_false] at hq
        rcases hq with rfl | rfl | rfl | rfl | rfl | rfl | rfl | rfl | rfl | rfl | rfl | rfl | rfl | rfl | rfl | rfl | rfl | rfl | rfl | rfl | rfl | rfl | rfl | rfl | rfl | rfl | rfl | rfl | rfl | rfl | rfl | rfl | rfl
        · obtain ⟨o, h1, h2, _⟩ := E0.ex; exact r _ _ (hp 0 o _ h1 h2)
        · obtain ⟨o, h1, h2, _⟩ := E1.ex; exact r _ _ (hp 1 o _ h1 h2)
        · obtain ⟨o, h1, h2, _⟩ := E2.ex; exact r _ _ (hp 2 o _ h1 h2)
        · obtain ⟨o, h1, h2, _⟩ := E3.ex; exact r _ _ (hp 3 o _ h1 h2)
        · obtain ⟨o, h1, h2, _⟩ := E4.ex; exact r _ _ (hp 4 o _ h1 h2)
        · obtain ⟨o, h1, h2, _⟩ := E5.ex; exact r _ _ (hp 5 o _ h1 h2)
        · obtain ⟨o, h1, h2, _⟩ := E6.ex; exact r _ _ (hp 6 o _ h1 h2)
        · obtain ⟨o, h1, h2, _⟩ := E7.ex; exact r _ _ (hp 7 o _ h1 h2)
        · obtain ⟨o, h1, h2, _⟩ := E8.ex; exact r _ _ (hp 8 o _ h1 h2)
        · obtain ⟨o, h1, h2, _⟩ := E9.ex; exact r _ _ (hp 9 o _ h1 h2)
        · obtain ⟨o, h1, h2, _⟩ := E10.ex; exact r _ _ (hp 10 o _ h1 h2)
        · obtain ⟨o, h1, h2, _⟩ := E11.ex; exact r _ _ (hp 11 o _ h1 h2)
        · obtain ⟨o, h1, h2, _⟩ := E12.ex; exact r _ _ (hp 12 o _ h1 h2)
        · obtain ⟨o, h1, h2, _⟩ := E13.ex; exact r _ _ (hp 13 o _ h1 h2)
        · obtain ⟨o, h1, h2, _⟩ := E14.ex; exact r _ _ (hp 14 o _ h1 h2)
        · obtain ⟨o, h1, h2, _⟩ := E15.ex; exact r _ _ (hp 15 o _ h1 h2)
        · obtain ⟨o, h1, h2, _⟩ := E16.ex; exact r _ _ (hp 16 o _ h1 h2)
        · obtain ⟨o, h1, h2, _⟩ := E17.ex; exact r _ _ (hp 17 o _ h1 h2)
        · obtain ⟨o, h1, h2, _⟩ := E18.ex; exact r _ _ (hp 18 o _ h1 h2)
        · obtain ⟨o, h1, h2, _⟩ := E19.ex; exact r _ _ (hp 19 o _ h1 h2)
        · obtain ⟨o, h1, h2, _⟩ := E20.ex; exact r _ _ (hp 20 o _ h1 h2)
        · obtain ⟨o, h1, h2, _⟩ := E21.ex; exact r _ _ (hp 21 o _ h1 h2)
        · obtain ⟨o, h1, h2, _⟩ := E22.ex; exact r _ _ (hp 22 o _ h1 h2)
        · obtain ⟨o, h1, h2, _⟩ := E23.ex; exact r _ _ (hp 23 o _ h1 h2)
        · obtain ⟨o, h1, h2, _⟩ := E24.ex; exact r _ _ (hp 24 o _ h1 h2)
        · obtain ⟨o, h1, h2, _⟩ := E25.ex; exact r _ _ (hp 25 o _ h1 h2)
        · obtain ⟨o, h1, h2, _⟩ := E26.ex; exact r _ _ (hp 26 o _ h1 h2)
        · obtain ⟨o, h1, h2, _⟩ := E27.ex; exact r _ _ (hp 27 o _ h1 h2)
        · obtain ⟨o, h1, h2, _⟩ := E28.ex; exact r _ _ (hp 28 o _ h1 h2)
        · obtain ⟨o, h1, h2, _⟩ := E29.ex; exact r _ _ (hp 29 o _ h1 h2)
        · obtain ⟨o, h1, h2, _⟩ := E30.ex; exact r _ _ (hp 30 o _ h1 h2)
        · obtain ⟨o, h1, h2, _⟩ := E31.ex; exact r _ _ (hp 31 o _ h1 h2)
        · obtain ⟨o, h1, h2, _⟩ := E32.ex; exact r _ _ (hp 32 o _ h1 h2)
      · intro t ht
        refine hr t (not_of ?_)
        rw [hds]
        simp only [List.mem_cons, List.not_mem_nil, or_false, forall_eq_or_imp, forall_eq] at ht
        simp only [List.contains_cons, List.contains_nil, Bool.or_eq_false_iff, beq_eq_false_iff_ne, ne_eq, Option.some.injEq, Bool.or_false]
        simp only [eq_comm (a := t)]
        simp [ht]
    rw [e]
    exact hend w hinv
def v41 (g mb mo M mcap k : Nat) (en os od _ar _hh _ck mk : Int) : Nat → Value
  | 0 => .pointer (some ⟨g, 0, none⟩)
  | 1 => .int .i64 en
  | 2 => .slice (some ⟨mb, mo, none⟩) M mcap
  | 3 => .int .i64 (k : Int)
  | 4 => .pointer (some ⟨mb, mo + k, none⟩)
  | 5 => .int .i64 mk
  | 6 => .bool false
  | 7 => .bool false
  | 8 => .pointer (some ⟨g, 1, none⟩)
  | 9 => .agg #[.int .i64 os, .int .i64 od]
  | 10 => .bool false
  | 11 => .bool true
  | 12 => .bool true
  | 13 => .bool true
  | 18 => .bool true
  | 19 => .bool true
  | 26 => .bool true
  | 27 => .bool true
  | 32 => .bool true
  | _ => undef
set_option maxRecDepth 100000 in
set_option maxHeartbeats 4000000 in
theorem region41 {ops : Array Oper} {id : Nat} {a0 : Act} {w0 : World} {Q : Exit → Act → World → Prop} (g mb mo M mcap k : Nat) (en os od ar hh ck mk : Int)
    (EE : Ops40 ops)
    (hN : ops.size = 33) (hlow : lowB ops = true) (hds : dsts ops = [some 14, some 15, some 16, some 17, some 18, some 19, some 20, some 21, some 22, some 23, some 24, some 25, some 26, some 27, some 28, some 29, some 30, some 31, some 32, some 33, some 34, some 35, some 36, some 37, some 38, some 39, some 40, some 41, some 42, some 43, some 44, some 45, some 46]) (hnd : injB ops = true)
    (hmx : Try.prog.follows .mixedOrders = true) (ha0 : a0.tmps.size = 48) (h6 : a0.tmps.getD 6 undef = .pointer (some ⟨g, 0, none⟩)) (h1 : a0.tmps.getD 1 undef = .slice (some ⟨mb, mo, none⟩) M mcap) (h5 : a0.tmps.getD 5 undef = .int .i64 (k : Int))
    (hk : k < M) (hne : (en != mk) = false) (d0 : w0.cell? ⟨g, 0, none⟩ = some (.int .i64 en)) (d1 : w0.cell? ⟨g, 1, none⟩ = some (.int .i64 os)) (d2 : w0.cell? ⟨g, 2, none⟩ = some (.int .i64 od)) (_d3 : w0.cell? ⟨g, 3, none⟩ = some (.int .i64 ar)) (_d4 : w0.cell? ⟨g, 4, none⟩ = some (.int .i64 hh)) (_d5 : w0.cell? ⟨g, 5, none⟩ = some (.int .i64 ck)) (dm : w0.cell? ⟨mb, mo + k, none⟩ = some (.int .i64 mk))
    (H1 : ∀ W, Calls Try.prog 117 #[.agg #[.int .i64 os, .int .i64 od]] W fun e w' => e = .returned (.bool false) ∧ Mod (fun _ => False) W w')
    (hend : ∀ w, Mod (fun _ => False) w0.drew w → Q .normal (puts a0 [(14, .pointer (some ⟨g, 0, none⟩)), (15, .int .i64 en), (16, .slice (some ⟨mb, mo, none⟩) M mcap), (17, .int .i64 (k : Int)), (18, .pointer (some ⟨mb, mo + k, none⟩)), (19, .int .i64 mk), (20, .bool false), (21, .bool false), (22, .pointer (some ⟨g, 1, none⟩)), (23, .agg #[.int .i64 os, .int .i64 od]), (24, .bool false), (25, .bool true), (26, .bool true), (27, .bool true), (28, undef), (29, undef), (30, undef), (31, undef), (32, .bool true), (33, .bool true), (34, undef), (35, undef), (36, undef), (37, undef), (38, undef), (39, undef), (40, .bool true), (41, .bool true), (42, undef), (43, undef), (44, undef), (45, undef), (46, .bool true)]) w) :
    (Code.region id ops true).wp Try.prog Q a0 w0 := by
  obtain ⟨E0, E1, E2, E3, E4, E5, E6, E7, E8, E9, E10, E11, E12, E13, E14, E15, E16, E17, E18, E19, E20, E21, E22, E23, E24, E25, E26, E27, E28, E29, E30, E31, E32⟩ := EE
  obtain ⟨PP, q, r⟩ : ∃ PP : Nat → Value → Prop, (∀ i v, (fun i' v => v = v41 g mb mo M mcap k en os od ar hh ck mk i') i v → PP i v) ∧ (∀ i v, PP i v → (fun i' v => v = v41 g mb mo M mcap k en os od ar hh ck mk i') i v) := ⟨(fun i' v => v = v41 g mb mo M mcap k en os od ar hh ck mk i'), fun _ _ h => h, fun _ _ h => h⟩
  have D : ∀ {W : World} {a : Addr} {v : Value}, Mod (fun _ => False) w0.drew W → w0.cell? a = some v → W.cell? a = some v := fun hW hc => hW.cell (by simpa using hc) (fun h => h)
  have s0 : S4 ops PP w0 a0 Q 0 := by
    refine E0.step fun o hd ho hg hw y w listed hsz hls hun hwt hdown D' R hinv K hK => ?_
    rw [ha0] at hsz
    refine .inl ⟨wanted_none hg, ?_⟩
    have f6 : y.eval (Operand.tmp 6) = .pointer (some ⟨g, 0, none⟩) := (R 6 (not_of (by rw [hds]; decide))).trans h6
    exact wp_value (ox_field ho f6 (fle0 w)) (hK _ _ (q _ _ rfl) hinv)
  have s1 : S4 ops PP w0 a0 Q 1 := by
    refine E1.step fun o hd ho hg hw y w listed hsz hls hun hwt hdown D' R hinv K hK => ?_
    rw [ha0] at hsz
    refine .inl ⟨wanted_none hg, ?_⟩
    have f14 : y.eval (Operand.tmp 14) = .pointer (some ⟨g, 0, none⟩) := r _ _ (E0.post D' (hw 0 (by simp)))
    exact wp_value (ox_load ho f14 (ld1 (D hinv d0))) (hK _ _ (q _ _ rfl) hinv)
  have s2 : S4 ops PP w0 a0 Q 2 := by
    refine E2.step fun o hd ho hg hw y w listed hsz hls hun hwt hdown D' R hinv K hK => ?_
    rw [ha0] at hsz
    refine .inl ⟨wanted_none hg, ?_⟩
    have f1 : y.eval (Operand.tmp 1) = .slice (some ⟨mb, mo, none⟩) M mcap := (R 1 (not_of (by rw [hds]; decide))).trans h1
    exact wp_value (ox_move ho f1) (hK _ _ (q _ _ rfl) hinv)
  have s3 : S4 ops PP w0 a0 Q 3 := by
    refine E3.step fun o hd ho hg hw y w listed hsz hls hun hwt hdown D' R hinv K hK => ?_
    rw [ha0] at hsz
    refine .inl ⟨wanted_none hg, ?_⟩
    have f5 : y.eval (Operand.tmp 5) = .int .i64 (k : Int) := (R 5 (not_of (by rw [hds]; decide))).trans h5
    exact wp_value (ox_move ho f5) (hK _ _ (q _ _ rfl) hinv)
  have s4 : S4 ops PP w0 a0 Q 4 := by
    refine E4.step fun o hd ho hg hw y w listed hsz hls hun hwt hdown D' R hinv K hK => ?_
    rw [ha0] at hsz
    refine .inl ⟨wanted_none hg, ?_⟩
    have f16 : y.eval (Operand.tmp 16) = .slice (some ⟨mb, mo, none⟩) M mcap := r _ _ (E2.post D' (hw 2 (by simp)))
    have f17 : y.eval (Operand.tmp 17) = .int .i64 (k : Int) := r _ _ (E3.post D' (hw 3 (by simp)))
    exact wp_value (ox_index ho f16 f17 (idx1 hk w)) (hK _ _ (q _ _ rfl) hinv)
  have s5 : S4 ops PP w0 a0 Q 5 := by
    refine E5.step fun o hd ho hg hw y w listed hsz hls hun hwt hdown D' R hinv K hK => ?_
    rw [ha0] at hsz
    refine .inl ⟨wanted_none hg, ?_⟩
    have f18 : y.eval (Operand.tmp 18) = .pointer (some ⟨mb, mo + k, none⟩) := r _ _ (E4.post D' (hw 4 (by simp)))
    exact wp_value (ox_load ho f18 (ld1 (D hinv dm))) (hK _ _ (q _ _ rfl) hinv)
  have s6 : S4 ops PP w0 a0 Q 6 := by
    refine E6.step fun o hd ho hg hw y w listed hsz hls hun hwt hdown D' R hinv K hK => ?_
    rw [ha0] at hsz
    refine .inl ⟨wanted_none hg, ?_⟩
    have f15 : y.eval (Operand.tmp 15) = .int .i64 en := r _ _ (E1.post D' (hw 1 (by simp)))
    have f19 : y.eval (Operand.tmp 19) = .int .i64 mk := r _ _ (E5.post D' (hw 5 (by simp)))
    exact wp_value (ox_neq ho f15 f19 hne) (hK _ _ (q _ _ rfl) hinv)
  have s7 : S4 ops PP w0 a0 Q 7 := by
    refine E7.step fun o hd ho hg hw y w listed hsz hls hun hwt hdown D' R hinv K hK => ?_
    rw [ha0] at hsz
    refine .inl ⟨wanted_none hg, ?_⟩
    have f20 : y.eval (Operand.tmp 20) = .bool false := r _ _ (E6.post D' (hw 6 (by simp)))
    exact wp_value (ox_move ho f20) (hK _ _ (q _ _ rfl) hinv)
  have s8 : S4 ops PP w0 a0 Q 8 := by
    refine E8.step fun o hd ho hg hw y w listed hsz hls hun hwt hdown D' R hinv K hK => ?_
    rw [ha0] at hsz
    refine .inl ⟨wanted_yes E7 hg (by rw [hsz]; decide) (r _ _ (E7.post D' (hw 7 (by simp)))), ?_⟩
    have f6 : y.eval (Operand.tmp 6) = .pointer (some ⟨g, 0, none⟩) := (R 6 (not_of (by rw [hds]; decide))).trans h6
    exact wp_value (ox_field ho f6 (fle1 w)) (hK _ _ (q _ _ rfl) hinv)
  have s9 : S4 ops PP w0 a0 Q 9 := by
    refine E9.step fun o hd ho hg hw y w listed hsz hls hun hwt hdown D' R hinv K hK => ?_
    rw [ha0] at hsz
    refine .inl ⟨wanted_yes E7 hg (by rw [hsz]; decide) (r _ _ (E7.post D' (hw 7 (by simp)))), ?_⟩
    have f22 : y.eval (Operand.tmp 22) = .pointer (some ⟨g, 1, none⟩) := r _ _ (E8.post D' (hw 8 (by simp)))
    exact wp_value (ox_load ho f22 (ld2 (D hinv d1) (D hinv d2))) (hK _ _ (q _ _ rfl) hinv)
  have s10 : S4 ops PP w0 a0 Q 10 := by
    refine E10.step fun o hd ho hg hw y w listed hsz hls hun hwt hdown D' R hinv K hK => ?_
    rw [ha0] at hsz
    refine .inl ⟨wanted_yes E7 hg (by rw [hsz]; decide) (r _ _ (E7.post D' (hw 7 (by simp)))), ?_⟩
    have f23 : y.eval (Operand.tmp 23) = .agg #[.int .i64 os, .int .i64 od] := r _ _ (E9.post D' (hw 9 (by simp)))
    refine wp_enter (f := 117) (args := #[.agg #[.int .i64 os, .int .i64 od]]) ?_ (H1 w) ?_
    · rw [exec_call1 y.eval (fun args w => by simp [go_sem]) rfl ho, f23]
    · rintro e w' ⟨rfl, hm⟩
      exact ⟨_, rfl, hK _ _ (q _ _ rfl) (hinv.trans hm (fun _ _ h => h) (fun _ _ h => h))⟩
  have s11 : S4 ops PP w0 a0 Q 11 := by
    refine E11.step fun o hd ho hg hw y w listed hsz hls hun hwt hdown D' R hinv K hK => ?_
    rw [ha0] at hsz
    refine .inl ⟨wanted_yes E7 hg (by rw [hsz]; decide) (r _ _ (E7.post D' (hw 7 (by simp)))), ?_⟩
    have f24 : y.eval (Operand.tmp 24) = .bool false := r _ _ (E10.post D' (hw 10 (by simp)))
    exact wp_value (ox_not ho f24) (hK _ _ (q _ _ rfl) hinv)
  have s12 : S4 ops PP w0 a0 Q 12 := by
    refine E12.step fun o hd ho hg hw y w listed hsz hls hun hwt hdown D' R hinv K hK => ?_
    rw [ha0] at hsz
    refine .inl ⟨wanted_none hg, ?_⟩
    have f21 : y.eval (Operand.tmp 21) = .bool false := r _ _ (E7.post D' (hw 7 (by simp)))
    have f25 : y.eval (Operand.tmp 25) = .bool true := r _ _ (E11.post D' (hw 11 (by simp)))
    exact wp_value (ox_pick ho f21 f25) (hK _ _ (q _ _ rfl) hinv)
  have s13 : S4 ops PP w0 a0 Q 13 := by
    refine E13.step fun o hd ho hg hw y w listed hsz hls hun hwt hdown D' R hinv K hK => ?_
    rw [ha0] at hsz
    refine .inl ⟨wanted_none hg, ?_⟩
    have f26 : y.eval (Operand.tmp 26) = .bool true := r _ _ (E12.post D' (hw 12 (by simp)))
    exact wp_value (ox_move ho f26) (hK _ _ (q _ _ rfl) hinv)
  have s14 : S4 ops PP w0 a0 Q 14 := by
    refine E14.step fun o hd ho hg hw y w listed hsz hls hun hwt hdown D' R hinv K hK => ?_
    rw [ha0] at hsz
    exact .inr ⟨wanted_no E13 hg (by rw [hsz]; decide) (r _ _ (E13.post D' (hw 13 (by simp)))), hK _ _ (q _ _ rfl) hinv⟩
  have s15 : S4 ops PP w0 a0 Q 15 := by
    refine E15.step fun o hd ho hg hw y w listed hsz hls hun hwt hdown D' R hinv K hK => ?_
    rw [ha0] at hsz
    exact .inr ⟨wanted_no E13 hg (by rw [hsz]; decide) (r _ _ (E13.post D' (hw 13 (by simp)))), hK _ _ (q _ _ rfl) hinv⟩
  have s16 : S4 ops PP w0 a0 Q 16 := by
    refine E16.step fun o hd ho hg hw y w listed hsz hls hun hwt hdown D' R hinv K hK => ?_
    rw [ha0] at hsz
    exact .inr ⟨wanted_no E13 hg (by rw [hsz]; decide) (r _ _ (E13.post D' (hw 13 (by simp)))), hK _ _ (q _ _ rfl) hinv⟩
  have s17 : S4 ops PP w0 a0 Q 17 := by
    refine E17.step fun o hd ho hg hw y w listed hsz hls hun hwt hdown D' R hinv K hK => ?_
    rw [ha0] at hsz
    exact .inr ⟨wanted_no E13 hg (by rw [hsz]; decide) (r _ _ (E13.post D' (hw 13 (by simp)))), hK _ _ (q _ _ rfl) hinv⟩
  have s18 : S4 ops PP w0 a0 Q 18 := by
    refine E18.step fun o hd ho hg hw y w listed hsz hls hun hwt hdown D' R hinv K hK => ?_
    rw [ha0] at hsz
    refine .inl ⟨wanted_none hg, ?_⟩
    have f27 : y.eval (Operand.tmp 27) = .bool true := r _ _ (E13.post D' (hw 13 (by simp)))
    have f31 : y.eval (Operand.tmp 31) = undef := r _ _ (E17.post D' (hw 17 (by simp)))
    exact wp_value (ox_pick ho f27 rfl) (hK _ _ (q _ _ rfl) hinv)
  have s19 : S4 ops PP w0 a0 Q 19 := by
    refine E19.step fun o hd ho hg hw y w listed hsz hls hun hwt hdown D' R hinv K hK => ?_
    rw [ha0] at hsz
    refine .inl ⟨wanted_none hg, ?_⟩
    have f32 : y.eval (Operand.tmp 32) = .bool true := r _ _ (E18.post D' (hw 18 (by simp)))
    exact wp_value (ox_move ho f32) (hK _ _ (q _ _ rfl) hinv)
  have s20 : S4 ops PP w0 a0 Q 20 := by
    refine E20.step fun o hd ho hg hw y w listed hsz hls hun hwt hdown D' R hinv K hK => ?_
    rw [ha0] at hsz
    exact .inr ⟨wanted_no E19 hg (by rw [hsz]; decide) (r _ _ (E19.post D' (hw 19 (by simp)))), hK _ _ (q _ _ rfl) hinv⟩
  have s21 : S4 ops PP w0 a0 Q 21 := by
    refine E21.step fun o hd ho hg hw y w listed hsz hls hun hwt hdown D' R hinv K hK => ?_
    rw [ha0] at hsz
    exact .inr ⟨wanted_no E19 hg (by rw [hsz]; decide) (r _ _ (E19.post D' (hw 19 (by simp)))), hK _ _ (q _ _ rfl) hinv⟩
  have s22 : S4 ops PP w0 a0 Q 22 := by
    refine E22.step fun o hd ho hg hw y w listed hsz hls hun hwt hdown D' R hinv K hK => ?_
    rw [ha0] at hsz
    exact .inr ⟨wanted_no E19 hg (by rw [hsz]; decide) (r _ _ (E19.post D' (hw 19 (by simp)))), hK _ _ (q _ _ rfl) hinv⟩
  have s23 : S4 ops PP w0 a0 Q 23 := by
    refine E23.step fun o hd ho hg hw y w listed hsz hls hun hwt hdown D' R hinv K hK => ?_
    rw [ha0] at hsz
    exact .inr ⟨wanted_no E19 hg (by rw [hsz]; decide) (r _ _ (E19.post D' (hw 19 (by simp)))), hK _ _ (q _ _ rfl) hinv⟩
  have s24 : S4 ops PP w0 a0 Q 24 := by
    refine E24.step fun o hd ho hg hw y w listed hsz hls hun hwt hdown D' R hinv K hK => ?_
    rw [ha0] at hsz
    exact .inr ⟨wanted_no E19 hg (by rw [hsz]; decide) (r _ _ (E19.post D' (hw 19 (by simp)))), hK _ _ (q _ _ rfl) hinv⟩
  have s25 : S4 ops PP w0 a0 Q 25 := by
    refine E25.step fun o hd ho hg hw y w listed hsz hls hun hwt hdown D' R hinv K hK => ?_
    rw [ha0] at hsz
    exact .inr ⟨wanted_no E19 hg (by rw [hsz]; decide) (r _ _ (E19.post D' (hw 19 (by simp)))), hK _ _ (q _ _ rfl) hinv⟩
  have s26 : S4 ops PP w0 a0 Q 26 := by
    refine E26.step fun o hd ho hg hw y w listed hsz hls hun hwt hdown D' R hinv K hK => ?_
    rw [ha0] at hsz
    refine .inl ⟨wanted_none hg, ?_⟩
    have f33 : y.eval (Operand.tmp 33) = .bool true := r _ _ (E19.post D' (hw 19 (by simp)))
    have f39 : y.eval (Operand.tmp 39) = undef := r _ _ (E25.post D' (hw 25 (by simp)))
    exact wp_value (ox_pick ho f33 rfl) (hK _ _ (q _ _ rfl) hinv)
  have s27 : S4 ops PP w0 a0 Q 27 := by
    refine E27.step fun o hd ho hg hw y w listed hsz hls hun hwt hdown D' R hinv K hK => ?_
    rw [ha0] at hsz
    refine .inl ⟨wanted_none hg, ?_⟩
    have f40 : y.eval (Operand.tmp 40) = .bool true := r _ _ (E26.post D' (hw 26 (by simp)))
    exact wp_value (ox_move ho f40) (hK _ _ (q _ _ rfl) hinv)
  have s28 : S4 ops PP w0 a0 Q 28 := by
    refine E28.step fun o hd ho hg hw y w listed hsz hls hun hwt hdown D' R hinv K hK => ?_
    rw [ha0] at hsz
    exact .inr ⟨wanted_no E27 hg (by rw [hsz]; decide) (r _ _ (E27.post D' (hw 27 (by simp)))), hK _ _ (q _ _ rfl) hinv⟩
  have s29 : S4 ops PP w0 a0 Q 29 := by
    refine E29.step fun o hd ho hg hw y w listed hsz hls hun hwt hdown D' R hinv K hK => ?_
    rw [ha0] at hsz
    exact .inr ⟨wanted_no E27 hg (by rw [hsz]; decide) (r _ _ (E27.post D' (hw 27 (by simp)))), hK _ _ (q _ _ rfl) hinv⟩
  have s30 : S4 ops PP w0 a0 Q 30 := by
    refine E30.step fun o hd ho hg hw y w listed hsz hls hun hwt hdown D' R hinv K hK => ?_
    rw [ha0] at hsz
    exact .inr ⟨wanted_no E27 hg (by rw [hsz]; decide) (r _ _ (E27.post D' (hw 27 (by simp)))), hK _ _ (q _ _ rfl) hinv⟩
  have s31 : S4 ops PP w0 a0 Q 31 := by
    refine E31.step fun o hd ho hg hw y w listed hsz hls hun hwt hdown D' R hinv K hK => ?_
    rw [ha0] at hsz
    exact .inr ⟨wanted_no E27 hg (by rw [hsz]; decide) (r _ _ (E27.post D' (hw 27 (by simp)))), hK _ _ (q _ _ rfl) hinv⟩
  have s32 : S4 ops PP w0 a0 Q 32 := by
    refine E32.step fun o hd ho hg hw y w listed hsz hls hun hwt hdown D' R hinv K hK => ?_
    rw [ha0] at hsz
    refine .inl ⟨wanted_none hg, ?_⟩
    have f41 : y.eval (Operand.tmp 41) = .bool true := r _ _ (E27.post D' (hw 27 (by simp)))
    have f45 : y.eval (Operand.tmp 45) = undef := r _ _ (E31.post D' (hw 31 (by simp)))
    exact wp_value (ox_pick ho f41 rfl) (hK _ _ (q _ _ rfl) hinv)
  refine region_free (Post := PP) (Inv := M0 w0) hmx (low_of hlow) (fun i o ho => by rw [ha0]; exact dst_of (by rw [hds]; decide) i o ho) (inj_of hnd) (Mod.refl _ _) ?_ ?_
  · intro i o ho
    have hi : i < 33 := by
      rw [← hN]
      rcases Nat.lt_or_ge i ops.size with h | h
      · exact h
      · rw [Array.getElem?_eq_none h] at ho; cases ho
    clear hend
    match i, hi with
    | 0, _ => exact s0 o ho
    | 1, _ => exact s1 o ho
    | 2, _ => exact s2 o ho
    | 3, _ => exact s3 o ho
    | 4, _ => exact s4 o ho
    | 5, _ => exact s5 o ho
    | 6, _ => exact s6 o ho
    | 7, _ => exact s7 o ho
    | 8, _ => exact s8 o ho
    | 9, _ => exact s9 o ho
    | 10, _ => exact s10 o ho
    | 11, _ => exact s11 o ho
    | 12, _ => exact s12 o ho
    | 13, _ => exact s13 o ho
    | 14, _ => exact s14 o ho
    | 15, _ => exact s15 o ho
    | 16, _ => exact s16 o ho
    | 17, _ => exact s17 o ho
    | 18, _ => exact s18 o ho
    | 19, _ => exact s19 o ho
    | 20, _ => exact s20 o ho
    | 21, _ => exact s21 o ho
    | 22, _ => exact s22 o ho
    | 23, _ => exact s23 o ho
    | 24, _ => exact s24 o ho
    | 25, _ => exact s25 o ho
    | 26, _ => exact s26 o ho
    | 27, _ => exact s27 o ho
    | 28, _ => exact s28 o ho
    | 29, _ => exact s29 o ho
    | 30, _ => exact s30 o ho
    | 31, _ => exact s31 o ho
    | 32, _ => exact s32 o ho
    | i + 33, hi => omega
  · intro y w listed hsz hdf hls hall hinv hp hr
    have e : y = puts a0 [(14, .pointer (some ⟨g, 0, none⟩)), (15, .int .i64 en), (16, .slice (some ⟨mb, mo, none⟩) M mcap), (17, .int .i64 (k : Int)), (18, .pointer (some ⟨mb, mo + k, none⟩)), (19, .int .i64 mk), (20, .bool false), (21, .bool false), (22, .pointer (some ⟨g, 1, none⟩)), (23, .agg #[.int .i64 os, .int .i64 od]), (24, .bool false), (25, .bool true), (26, .bool true), (27, .bool true), (28, undef), (29, undef), (30, undef), (31, undef), (32, .bool true), (33, .bool true), (34, undef), (35, undef), (36, undef), (37, undef), (38, undef), (39, undef), (40, .bool true), (41, .bool true), (42, undef), (43, undef), (44, undef), (45, undef), (46, .bool true)] := by
      refine eq_puts hsz hdf (nodup_of (D := [some 14, some 15, some 16, some 17, some 18, some 19, some 20, some 21, some 22, some 23, some 24, some 25, some 26, some 27, some 28, some 29, some 30, some 31, some 32, some 33, some 34, some 35, some 36, some 37, some 38, some 39, some 40, some 41, some 42, some 43, some 44, some 45, some 46]) rfl (by decide)) (by rw [ha0]; simp) ?_ ?_
      · intro q hq
        simp only [List.mem_cons, List.not_mem_nil, or_false] at hq
        rcases hq with rfl | rfl | rfl | rfl | rfl | rfl | rfl | rfl | rfl | rfl | rfl | rfl | rfl | rfl | rfl | rfl | rfl | rfl | rfl | rfl | rfl | rfl | rfl | rfl | rfl | rfl | rfl | rfl | rfl | rfl | rfl | rfl | rfl
        · obtain ⟨o, h1, h2, _⟩ := E0.ex; exact r _ _ (hp 0 o _ h1 h2)
        · obtain ⟨o, h1, h2, _⟩ := E1.ex; exact r _ _ (hp 1 o _ h1 h2)
        · obtain ⟨o, h1, h2, _⟩ := E2.ex; exact r _ _ (hp 2 o _ h1 h2)
        · obtain ⟨o, h1, h2, _⟩ := E3.ex; exact r _ _ (hp 3 o _ h1 h2)
        · obtain ⟨o, h1, h2, _⟩ := E4.ex; exact r _ _ (hp 4 o _ h1 h2)
        · obtain ⟨o, h1, h2, _⟩ := E5.ex; exact r _ _ (hp 5 o _ h1 h2)
        · obtain ⟨o, h1, h2, _⟩ := E6.ex; exact r _ _ (hp 6 o _ h1 h2)
        · obtain ⟨o, h1, h2, _⟩ := E7.ex; exact r _ _ (hp 7 o _ h1 h2)
        · obtain ⟨o, h1, h2, _⟩ := E8.ex; exact r _ _ (hp 8 o _ h1 h2)
        · obtain ⟨o, h1, h2, _⟩ := E9.ex; exact r _ _ (hp 9 o _ h1 h2)
        · obtain ⟨o, h1, h2, _⟩ := E10.ex; exact r _ _ (hp 10 o _ h1 h2)
        · obtain ⟨o, h1, h2, _⟩ := E11.ex; exact r _ _ (hp 11 o _ h1 h2)
        · obtain ⟨o, h1, h2, _⟩ := E12.ex; exact r _ _ (hp 12 o _ h1 h2)
        · obtain ⟨o, h1, h2, _⟩ := E13.ex; exact r _ _ (hp 13 o _ h1 h2)
        · obtain ⟨o, h1, h2, _⟩ := E14.ex; exact r _ _ (hp 14 o _ h1 h2)
        · obtain ⟨o, h1, h2, _⟩ := E15.ex; exact r _ _ (hp 15 o _ h1 h2)
        · obtain ⟨o, h1, h2, _⟩ := E16.ex; exact r _ _ (hp 16 o _ h1 h2)
        · obtain ⟨o, h1, h2, _⟩ := E17.ex; exact r _ _ (hp 17 o _ h1 h2)
        · obtain ⟨o, h1, h2, _⟩ := E18.ex; exact r _ _ (hp 18 o _ h1 h2)
        · obtain ⟨o, h1, h2, _⟩ := E19.ex; exact r _ _ (hp 19 o _ h1 h2)
        · obtain ⟨o, h1, h2, _⟩ := E20.ex; exact r _ _ (hp 20 o _ h1 h2)
        · obtain ⟨o, h1, h2, _⟩ := E21.ex; exact r _ _ (hp 21 o _ h1 h2)
        · obtain ⟨o, h1, h2, _⟩ := E22.ex; exact r _ _ (hp 22 o _ h1 h2)
        · obtain ⟨o, h1, h2, _⟩ := E23.ex; exact r _ _ (hp 23 o _ h1 h2)
        · obtain ⟨o, h1, h2, _⟩ := E24.ex; exact r _ _ (hp 24 o _ h1 h2)
        · obtain ⟨o, h1, h2, _⟩ := E25.ex; exact r _ _ (hp 25 o _ h1 h2)
        · obtain ⟨o, h1, h2, _⟩ := E26.ex; exact r _ _ (hp 26 o _ h1 h2)
        · obtain ⟨o, h1, h2, _⟩ := E27.ex; exact r _ _ (hp 27 o _ h1 h2)
        · obtain ⟨o, h1, h2, _⟩ := E28.ex; exact r _ _ (hp 28 o _ h1 h2)
        · obtain ⟨o, h1, h2, _⟩ := E29.ex; exact r _ _ (hp 29 o _ h1 h2)
        · obtain ⟨o, h1, h2, _⟩ := E30.ex; exact r _ _ (hp 30 o _ h1 h2)
        · obtain ⟨o, h1, h2, _⟩ := E31.ex; exact r _ _ (hp 31 o _ h1 h2)
        · obtain ⟨o, h1, h2, _⟩ := E32.ex; exact r _ _ (hp 32 o _ h1 h2)
      · intro t ht
        refine hr t (not_of ?_)
        rw [hds]
        simp only [List.mem_cons, List.not_mem_nil, or_false, forall_eq_or_imp, forall_eq] at ht
        simp only [List.contains_cons, List.contains_nil, Bool.or_eq_false_iff, beq_eq_false_iff_ne, ne_eq, Option.some.injEq, Bool.or_false]
        simp only [eq_comm (a := t)]
        simp [ht]
    rw [e]
    exact hend w hinv
def v42 (g mb mo M mcap k : Nat) (en os od _ar hh _ck mk : Int) : Nat → Value
  | 0 => .pointer (some ⟨g, 0, none⟩)
  | 1 => .int .i64 en
  | 2 => .slice (some ⟨mb, mo, none⟩) M mcap
  | 3 => .int .i64 (k : Int)
  | 4 => .pointer (some ⟨mb, mo + k, none⟩)
  | 5 => .int .i64 mk
  | 6 => .bool false
  | 7 => .bool false
  | 8 => .pointer (some ⟨g, 1, none⟩)
  | 9 => .agg #[.int .i64 os, .int .i64 od]
  | 10 => .bool true
  | 11 => .bool false
  | 12 => .bool false
  | 13 => .bool false
  | 14 => .pointer (some ⟨g, 4, none⟩)
  | 15 => .int .i64 hh
  | 16 => .bool false
  | 17 => .bool true
  | 18 => .bool true
  | 19 => .bool true
  | 26 => .bool true
  | 27 => .bool true
  | 32 => .bool true
  | _ => undef
set_option maxRecDepth 100000 in
set_option maxHeartbeats 4000000 in
theorem region42 {ops : Array Oper} {id : Nat} {a0 : Act} {w0 : World} {Q : Exit → Act → World → Prop} (g mb mo M mcap k : Nat) (en os od ar hh ck mk : Int)
    (EE : Ops40 ops)
    (hN : ops.size = 33) (hlow : lowB ops = true) (hds : dsts ops = [some 14, some 15, some 16, some 17, some 18, some 19, some 20, some 21, some 22, some 23, some 24, some 25, some 26, some 27, some 28, some 29, some 30, some 31, some 32, some 33, some 34, some 35, some 36, some 37, some 38, some 39, some 40, some 41, some 42, some 43, some 44, some 45, some 46]) (hnd : injB ops = true)
    (hmx : Try.prog.follows .mixedOrders = true) (ha0 : a0.tmps.size = 48) (h6 : a0.tmps.getD 6 undef = .pointer (some ⟨g, 0, none⟩)) (h1 : a0.tmps.getD 1 undef = .slice (some ⟨mb, mo, none⟩) M mcap) (h5 : a0.tmps.getD 5 undef = .int .i64 (k : Int))
    (hk : k < M) (hne : (en != mk) = false) (d0 : w0.cell? ⟨g, 0, none⟩ = some (.int .i64 en)) (d1 : w0.cell? ⟨g, 1, none⟩ = some (.int .i64 os)) (d2 : w0.cell? ⟨g, 2, none⟩ = some (.int .i64 od)) (_d3 : w0.cell? ⟨g, 3, none⟩ = some (.int .i64 ar)) (d4 : w0.cell? ⟨g, 4, none⟩ = some (.int .i64 hh)) (_d5 : w0.cell? ⟨g, 5, none⟩ = some (.int .i64 ck)) (dm : w0.cell? ⟨mb, mo + k, none⟩ = some (.int .i64 mk))
    (H1 : ∀ W, Calls Try.prog 117 #[.agg #[.int .i64 os, .int .i64 od]] W fun e w' => e = .returned (.bool true) ∧ Mod (fun _ => False) W w')
    (H2 : ∀ W, Calls Try.prog 134 #[.int .i64 hh] W fun e w' => e = .returned (.bool false) ∧ Mod (fun _ => False) W w')
    (hend : ∀ w, Mod (fun _ => False) w0.drew w → Q .normal (puts a0 [(14, .pointer (some ⟨g, 0, none⟩)), (15, .int .i64 en), (16, .slice (some ⟨mb, mo, none⟩) M mcap), (17, .int .i64 (k : Int)), (18, .pointer (some ⟨mb, mo + k, none⟩)), (19, .int .i64 mk), (20, .bool false), (21, .bool false), (22, .pointer (some ⟨g, 1, none⟩)), (23, .agg #[.int .i64 os, .int .i64 od]), (24, .bool true), (25, .bool false), (26, .bool false), (27, .bool false), (28, .pointer (some ⟨g, 4, none⟩)), (29, .int .i64 hh), (30, .bool false), (31, .bool true), (32, .bool true), (33, .bool true), (34, undef), (35, undef), (36, undef), (37, undef), (38, undef), (39, undef), (40, .bool true), (41, .bool true), (42, undef), (43, undef), (44, undef), (45, undef), (46, .bool true)]) w) :
    (Code.region id ops true).wp Try.prog Q a0 w0 := by
  obtain ⟨E0, E1, E2, E3, E4, E5, E6, E7, E8, E9, E10, E11, E12, E13, E14, E15, E16, E17, E18, E19, E20, E21, E22, E23, E24, E25, E26, E27, E28, E29, E30, E31, E32⟩ := EE
  obtain ⟨PP, q, r⟩ : ∃ PP : Nat → Value → Prop, (∀ i v, (fun i' v => v = v42 g mb mo M mcap k en os od ar hh ck mk i') i v → PP i v) ∧ (∀ i v, PP i v → (fun i' v => v = v42 g mb mo M mcap k en os od ar hh ck mk i') i v) := ⟨(fun i' v => v = v42 g mb mo M mcap k en os od ar hh ck mk i'), fun _ _ h => h, fun _ _ h => h⟩
  have D : ∀ {W : World} {a : Addr} {v : Value}, Mod (fun _ => False) w0.drew W → w0.cell? a = some v → W.cell? a = some v := fun hW hc => hW.cell (by simpa using hc) (fun h => h)
  have s0 : S4 ops PP w0 a0 Q 0 := by
    refine E0.step fun o hd ho hg hw y w listed hsz hls hun hwt hdown D' R hinv K hK => ?_
    rw [ha0] at hsz
    refine .inl ⟨wanted_none hg, ?_⟩
    have f6 : y.eval (Operand.tmp 6) = .pointer (some ⟨g, 0, none⟩) := (R 6 (not_of (by rw [hds]; decide))).trans h6
    exact wp_value (ox_field ho f6 (fle0 w)) (hK _ _ (q _ _ rfl) hinv)
  have s1 : S4 ops PP w0 a0 Q 1 := by
    refine E1.step fun o hd ho hg hw y w listed hsz hls hun hwt hdown D' R hinv K hK => ?_
    rw [ha0] at hsz
    refine .inl ⟨wanted_none hg, ?_⟩
    have f14 : y.eval (Operand.tmp 14) = .pointer (some ⟨g, 0, none⟩) := r _ _ (E0.post D' (hw 0 (by simp)))
    exact wp_value (ox_load ho f14 (ld1 (D hinv d0))) (hK _ _ (q _ _ rfl) hinv)
  have s2 : S4 ops PP w0 a0 Q 2 := by
    refine E2.step fun o hd ho hg hw y w listed hsz hls hun hwt hdown D' R hinv K hK => ?_
    rw [ha0] at hsz
    refine .inl ⟨wanted_none hg, ?_⟩
    have f1 : y.eval (Operand.tmp 1) = .slice (some ⟨mb, mo, none⟩) M mcap := (R 1 (not_of (by rw [hds]; decide))).trans h1
    exact wp_value (ox_move ho f1) (hK _ _ (q _ _ rfl) hinv)
  have s3 : S4 ops PP w0 a0 Q 3 := by
    refine E3.step fun o hd ho hg hw y w listed hsz hls hun hwt hdown D' R hinv K hK => ?_
    rw [ha0] at hsz
    refine .inl ⟨wanted_none hg, ?_⟩
    have f5 : y.eval (Operand.tmp 5) = .int .i64 (k : Int) := (R 5 (not_of (by rw [hds]; decide))).trans h5
    exact wp_value (ox_move ho f5) (hK _ _ (q _ _ rfl) hinv)
  have s4 : S4 ops PP w0 a0 Q 4 := by
    refine E4.step fun o hd ho hg hw y w listed hsz hls hun hwt hdown D' R hinv K hK => ?_
    rw [ha0] at hsz
    refine .inl ⟨wanted_none hg, ?_⟩
    have f16 : y.eval (Operand.tmp 16) = .slice (some ⟨mb, mo, none⟩) M mcap := r _ _ (E2.post D' (hw 2 (by simp)))
    have f17 : y.eval (Operand.tmp 17) = .int .i64 (k : Int) := r _ _ (E3.post D' (hw 3 (by simp)))
    exact wp_value (ox_index ho f16 f17 (idx1 hk w)) (hK _ _ (q _ _ rfl) hinv)
  have s5 : S4 ops PP w0 a0 Q 5 := by
    refine E5.step fun o hd ho hg hw y w listed hsz hls hun hwt hdown D' R hinv K hK => ?_
    rw [ha0] at hsz
    refine .inl ⟨wanted_none hg, ?_⟩
    have f18 : y.eval (Operand.tmp 18) = .pointer (some ⟨mb, mo + k, none⟩) := r _ _ (E4.post D' (hw 4 (by simp)))
    exact wp_value (ox_load ho f18 (ld1 (D hinv dm))) (hK _ _ (q _ _ rfl) hinv)
  have s6 : S4 ops PP w0 a0 Q 6 := by
    refine E6.step fun o hd ho hg hw y w listed hsz hls hun hwt hdown D' R hinv K hK => ?_
    rw [ha0] at hsz
    refine .inl ⟨wanted_none hg, ?_⟩
    have f15 : y.eval (Operand.tmp 15) = .int .i64 en := r _ _ (E1.post D' (hw 1 (by simp)))
    have f19 : y.eval (Operand.tmp 19) = .int .i64 mk := r _ _ (E5.post D' (hw 5 (by simp)))
    exact wp_value (ox_neq ho f15 f19 hne) (hK _ _ (q _ _ rfl) hinv)
  have s7 : S4 ops PP w0 a0 Q 7 := by
    refine E7.step fun o hd ho hg hw y w listed hsz hls hun hwt hdown D' R hinv K hK => ?_
    rw [ha0] at hsz
    refine .inl ⟨wanted_none hg, ?_⟩
    have f20 : y.eval (Operand.tmp 20) = .bool false := r _ _ (E6.post D' (hw 6 (by simp)))
    exact wp_value (ox_move ho f20) (hK _ _ (q _ _ rfl) hinv)
  have s8 : S4 ops PP w0 a0 Q 8 := by
    refine E8.step fun o hd ho hg hw y w listed hsz hls hun hwt hdown D' R hinv K hK => ?_
    rw [ha0] at hsz
    refine .inl ⟨wanted_yes E7 hg (by rw [hsz]; decide) (r _ _ (E7.post D' (hw 7 (by simp)))), ?_⟩
    have f6 : y.eval (Operand.tmp 6) = .pointer (some ⟨g, 0, none⟩) := (R 6 (not_of (by rw [hds]; decide))).trans h6
    exact wp_value (ox_field ho f6 (fle1 w)) (hK _ _ (q _ _ rfl) hinv)
  have s9 : S4 ops PP w0 a0 Q 9 := by
    refine E9.step fun o hd ho hg hw y w listed hsz hls hun hwt hdown D' R hinv K hK => ?_
    rw [ha0] at hsz
    refine .inl ⟨wanted_yes E7 hg (by rw [hsz]; decide) (r _ _ (E7.post D' (hw 7 (by simp)))), ?_⟩
    have f22 : y.eval (Operand.tmp 22) = .pointer (some ⟨g, 1, none⟩) := r _ _ (E8.post D' (hw 8 (by simp)))
    exact wp_value (ox_load ho f22 (ld2 (D hinv d1) (D hinv d2))) (hK _ _ (q _ _ rfl) hinv)
  have s10 : S4 ops PP w0 a0 Q 10 := by
    refine E10.step fun o hd ho hg hw y w listed hsz hls hun hwt hdown D' R hinv K hK => ?_
    rw [ha0] at hsz
    refine .inl ⟨wanted_yes E7 hg (by rw [hsz]; decide) (r _ _ (E7.post D' (hw 7 (by simp)))), ?_⟩
    have f23 : y.eval (Operand.tmp 23) = .agg #[.int .i64 os, .int .i64 od] := r _ _ (E9.post D' (hw 9 (by simp)))
    refine wp_enter (f := 117) (args := #[.agg #[.int .i64 os, .int .i64 od]]) ?_ (H1 w) ?_
    · rw [exec_call1 y.eval (fun args w => by simp [go_sem]) rfl ho, f23]
    · rintro e w' ⟨rfl, hm⟩
      exact ⟨_, rfl, hK _ _ (q _ _ rfl) (hinv.trans hm (fun _ _ h => h) (fun _ _ h => h))⟩
  have s11 : S4 ops PP w0 a0 Q 11 := by
    refine E11.step fun o hd ho hg hw y w listed hsz hls hun hwt hdown D' R hinv K hK => ?_
    rw [ha0] at hsz
    refine .inl ⟨wanted_yes E7 hg (by rw [hsz]; decide) (r _ _ (E7.post D' (hw 7 (by simp)))), ?_⟩
    have f24 : y.eval (Operand.tmp 24) = .bool true := r _ _ (E10.post D' (hw 10 (by simp)))
    exact wp_value (ox_not ho f24) (hK _ _ (q _ _ rfl) hinv)
  have s12 : S4 ops PP w0 a0 Q 12 := by
    refine E12.step fun o hd ho hg hw y w listed hsz hls hun hwt hdown D' R hinv K hK => ?_
    rw [ha0] at hsz
    refine .inl ⟨wanted_none hg, ?_⟩
    have f21 : y.eval (Operand.tmp 21) = .bool false := r _ _ (E7.post D' (hw 7 (by simp)))
    have f25 : y.eval (Operand.tmp 25) = .bool false := r _ _ (E11.post D' (hw 11 (by simp)))
    exact wp_value (ox_pick ho f21 f25) (hK _ _ (q _ _ rfl) hinv)
  have s13 : S4 ops PP w0 a0 Q 13 := by
    refine E13.step fun o hd ho hg hw y w listed hsz hls hun hwt hdown D' R hinv K hK => ?_
    rw [ha0] at hsz
    refine .inl ⟨wanted_none hg, ?_⟩
    have f26 : y.eval (Operand.tmp 26) = .bool false := r _ _ (E12.post D' (hw 12 (by simp)))
    exact wp_value (ox_move ho f26) (hK _ _ (q _ _ rfl) hinv)
  have s14 : S4 ops PP w0 a0 Q 14 := by
    refine E14.step fun o hd ho hg hw y w listed hsz hls hun hwt hdown D' R hinv K hK => ?_
    rw [ha0] at hsz
    refine .inl ⟨wanted_yes E13 hg (by rw [hsz]; decide) (r _ _ (E13.post D' (hw 13 (by simp)))), ?_⟩
    have f6 : y.eval (Operand.tmp 6) = .pointer (some ⟨g, 0, none⟩) := (R 6 (not_of (by rw [hds]; decide))).trans h6
    exact wp_value (ox_field ho f6 (fle3 w)) (hK _ _ (q _ _ rfl) hinv)
  have s15 : S4 ops PP w0 a0 Q 15 := by
    refine E15.step fun o hd ho hg hw y w listed hsz hls hun hwt hdown D' R hinv K hK => ?_
    rw [ha0] at hsz
    refine .inl ⟨wanted_yes E13 hg (by rw [hsz]; decide) (r _ _ (E13.post D' (hw 13 (by simp)))), ?_⟩
    have f28 : y.eval (Operand.tmp 28) = .pointer (some ⟨g, 4, none⟩) := r _ _ (E14.post D' (hw 14 (by simp)))
    exact wp_value (ox_load ho f28 (ld1 (D hinv d4))) (hK _ _ (q _ _ rfl) hinv)
  have s16 : S4 ops PP w0 a0 Q 16 := by
    refine E16.step fun o hd ho hg hw y w listed hsz hls hun hwt hdown D' R hinv K hK => ?_
    rw [ha0] at hsz
    refine .inl ⟨wanted_yes E13 hg (by rw [hsz]; decide) (r _ _ (E13.post D' (hw 13 (by simp)))), ?_⟩
    have f29 : y.eval (Operand.tmp 29) = .int .i64 hh := r _ _ (E15.post D' (hw 15 (by simp)))
    refine wp_enter (f := 134) (args := #[.int .i64 hh]) ?_ (H2 w) ?_
    · rw [exec_call1 y.eval (fun args w => by simp [go_sem]) rfl ho, f29]
    · rintro e w' ⟨rfl, hm⟩
      exact ⟨_, rfl, hK _ _ (q _ _ rfl) (hinv.trans hm (fun _ _ h => h) (fun _ _ h => h))⟩
  have s17 : S4 ops PP w0 a0 Q 17 := by
    refine E17.step fun o hd ho hg hw y w listed hsz hls hun hwt hdown D' R hinv K hK => ?_
    rw [ha0] at hsz
    refine .inl ⟨wanted_yes E13 hg (by rw [hsz]; decide) (r _ _ (E13.post D' (hw 13 (by simp)))), ?_⟩
    have f30 : y.eval (Operand.tmp 30) = .bool false := r _ _ (E16.post D' (hw 16 (by simp)))
    exact wp_value (ox_not ho f30) (hK _ _ (q _ _ rfl) hinv)
  have s18 : S4 ops PP w0 a0 Q 18 := by
    refine E18.step fun o hd ho hg hw y w listed hsz hls hun hwt hdown D' R hinv K hK => ?_
    rw [ha0] at hsz
    refine .inl ⟨wanted_none hg, ?_⟩
    have f27 : y.eval (Operand.tmp 27) = .bool false := r _ _ (E13.post D' (hw 13 (by simp)))
    have f31 : y.eval (Operand.tmp 31) = .bool true := r _ _ (E17.post D' (hw 17 (by simp)))
    exact wp_value (ox_pick ho f27 f31) (hK _ _ (q _ _ rfl) hinv)
  have s19 : S4 ops PP w0 a0 Q 19 := by
    refine E19.step fun o hd ho hg hw y w listed hsz hls hun hwt hdown D' R hinv K hK => ?_
    rw [ha0] at hsz
    refine .inl ⟨wanted_none hg, ?_⟩
    have f32 : y.eval (Operand.tmp 32) = .bool true := r _ _ (E18.post D' (hw 18 (by simp)))
    exact wp_value (ox_move ho f32) (hK _ _ (q _ _ rfl) hinv)
  have s20 : S4 ops PP w0 a0 Q 20 := by
    refine E20.step fun o hd ho hg hw y w listed hsz hls hun hwt hdown D' R hinv K hK => ?_
    rw [ha0] at hsz
    exact .inr ⟨wanted_no E19 hg (by rw [hsz]; decide) (r _ _ (E19.post D' (hw 19 (by simp)))), hK _ _ (q _ _ rfl) hinv⟩
  have s21 : S4 ops PP w0 a0 Q 21 := by
    refine E21.step fun o hd ho hg hw y w listed hsz hls hun hwt hdown D' R hinv K hK => ?_
    rw [ha0] at hsz
    exact .inr ⟨wanted_no E19 hg (by rw [hsz]; decide) (r _ _ (E19.post D' (hw 19 (by simp)))), hK _ _ (q _ _ rfl) hinv⟩
  have s22 : S4 ops PP w0 a0 Q 22 := by
    refine E22.step fun o hd ho hg hw y w listed hsz hls hun hwt hdown D' R hinv K hK => ?_
    rw [ha0] at hsz
    exact .inr ⟨wanted_no E19 hg (by rw [hsz]; decide) (r _ _ (E19.post D' (hw 19 (by simp)))), hK _ _ (q _ _ rfl) hinv⟩
  have s23 : S4 ops PP w0 a0 Q 23 := by
    refine E23.step fun o hd ho hg hw y w listed hsz hls hun hwt hdown D' R hinv K hK => ?_
    rw [ha0] at hsz
    exact .inr ⟨wanted_no E19 hg (by rw [hsz]; decide) (r _ _ (E19.post D' (hw 19 (by simp)))), hK _ _ (q _ _ rfl) hinv⟩
  have s24 : S4 ops PP w0 a0 Q 24 := by
    refine E24.step fun o hd ho hg hw y w listed hsz hls hun hwt hdown D' R hinv K hK => ?_
    rw [ha0] at hsz
    exact .inr ⟨wanted_no E19 hg (by rw [hsz]; decide) (r _ _ (E19.post D' (hw 19 (by simp)))), hK _ _ (q _ _ rfl) hinv⟩
  have s25 : S4 ops PP w0 a0 Q 25 := by
    refine E25.step fun o hd ho hg hw y w listed hsz hls hun hwt hdown D' R hinv K hK => ?_
    rw [ha0] at hsz
    exact .inr ⟨wanted_no E19 hg (by rw [hsz]; decide) (r _ _ (E19.post D' (hw 19 (by simp)))), hK _ _ (q _ _ rfl) hinv⟩
  have s26 : S4 ops PP w0 a0 Q 26 := by
    refine E26.step fun o hd ho hg hw y w listed hsz hls hun hwt hdown D' R hinv K hK => ?_
    rw [ha0] at hsz
    refine .inl ⟨wanted_none hg, ?_⟩
    have f33 : y.eval (Operand.tmp 33) = .bool true := r _ _ (E19.post D' (hw 19 (by simp)))
    have f39 : y.eval (Operand.tmp 39) = undef := r _ _ (E25.post D' (hw 25 (by simp)))
    exact wp_value (ox_pick ho f33 rfl) (hK _ _ (q _ _ rfl) hinv)
  have s27 : S4 ops PP w0 a0 Q 27 := by
    refine E27.step fun o hd ho hg hw y w listed hsz hls hun hwt hdown D' R hinv K hK => ?_
    rw [ha0] at hsz
    refine .inl ⟨wanted_none hg, ?_⟩
    have f40 : y.eval (Operand.tmp 40) = .bool true := r _ _ (E26.post D' (hw 26 (by simp)))
    exact wp_value (ox_move ho f40) (hK _ _ (q _ _ rfl) hinv)
  have s28 : S4 ops PP w0 a0 Q 28 := by
    refine E28.step fun o hd ho hg hw y w listed hsz hls hun hwt hdown D' R hinv K hK => ?_
    rw [ha0] at hsz
    exact .inr ⟨wanted_no E27 hg (by rw [hsz]; decide) (r _ _ (E27.post D' (hw 27 (by simp)))), hK _ _ (q _ _ rfl) hinv⟩
  have s29 : S4 ops PP w0 a0 Q 29 := by
    refine E29.step fun o hd ho hg hw y w listed hsz hls hun hwt hdown D' R hinv K hK => ?_
    rw [ha0] at hsz
    exact .inr ⟨wanted_no E27 hg (by rw [hsz]; decide) (r _ _ (E27.post D' (hw 27 (by simp)))), hK _ _ (q _ _ rfl) hinv⟩
  have s30 : S4 ops PP w0 a0 Q 30 := by
    refine E30.step fun o hd ho hg hw y w listed hsz hls hun hwt hdown D' R hinv K hK => ?_
    rw [ha0] at hsz
    exact .inr ⟨wanted_no E27 hg (by rw [hsz]; decide) (r _ _ (E27.post D' (hw 27 (by simp)))), hK _ _ (q _ _ rfl) hinv⟩
  have s31 : S4 ops PP w0 a0 Q 31 := by
    refine E31.step fun o hd ho hg hw y w listed hsz hls hun hwt hdown D' R hinv K hK => ?_
    rw [ha0] at hsz
    exact .inr ⟨wanted_no E27 hg (by rw [hsz]; decide) (r _ _ (E27.post D' (hw 27 (by simp)))), hK _ _ (q _ _ rfl) hinv⟩
  have s32 : S4 ops PP w0 a0 Q 32 := by
    refine E32.step fun o hd ho hg hw y w listed hsz hls hun hwt hdown D' R hinv K hK => ?_
    rw [ha0] at hsz
    refine .inl ⟨wanted_none hg, ?_⟩
    have f41 : y.eval (Operand.tmp 41) = .bool true := r _ _ (E27.post D' (hw 27 (by simp)))
    have f45 : y.eval (Operand.tmp 45) = undef := r _ _ (E31.post D' (hw 31 (by simp)))
    exact wp_value (ox_pick ho f41 rfl) (hK _ _ (q _ _ rfl) hinv)
  refine region_free (Post := PP) (Inv := M0 w0) hmx (low_of hlow) (fun i o ho => by rw [ha0]; exact dst_of (by rw [hds]; decide) i o ho) (inj_of hnd) (Mod.refl _ _) ?_ ?_
  · intro i o ho
    have hi : i < 33 := by
      rw [← hN]
      rcases Nat.lt_or_ge i ops.size with h | h
      · exact h
      · rw [Array.getElem?_eq_none h] at ho; cases ho
    clear hend
    match i, hi with
    | 0, _ => exact s0 o ho
    | 1, _ => exact s1 o ho
    | 2, _ => exact s2 o ho
    | 3, _ => exact s3 o ho
    | 4, _ => exact s4 o ho
    | 5, _ => exact s5 o ho
    | 6, _ => exact s6 o ho
    | 7, _ => exact s7 o ho
    | 8, _ => exact s8 o ho
    | 9, _ => exact s9 o ho
    | 10, _ => exact s10 o ho
    | 11, _ => exact s11 o ho
    | 12, _ => exact s12 o ho
    | 13, _ => exact s13 o ho
    | 14, _ => exact s14 o ho
    | 15, _ => exact s15 o ho
    | 16, _ => exact s16 o ho
    | 17, _ => exact s17 o ho
    | 18, _ => exact s18 o ho
    | 19, _ => exact s19 o ho
    | 20, _ => exact s20 o ho
    | 21, _ => exact s21 o ho
    | 22, _ => exact s22 o ho
    | 23, _ => exact s23 o ho
    | 24, _ => exact s24 o ho
    | 25, _ => exact s25 o ho
    | 26, _ => exact s26 o ho
    | 27, _ => exact s27 o ho
    | 28, _ => exact s28 o ho
    | 29, _ => exact s29 o ho
    | 30, _ => exact s30 o ho
    | 31, _ => exact s31 o ho
    | 32, _ => exact s32 o ho
    | i + 33, hi => omega
  · intro y w listed hsz hdf hls hall hinv hp hr
    have e : y = puts a0 [(14, .pointer (some ⟨g, 0, none⟩)), (15, .int .i64 en), (16, .slice (some ⟨mb, mo, none⟩) M mcap), (17, .int .i64 (k : Int)), (18, .pointer (some ⟨mb, mo + k, none⟩)), (19, .int .i64 mk), (20, .bool false), (21, .bool false), (22, .pointer (some ⟨g, 1, none⟩)), (23, .agg #[.int .i64 os, .int .i64 od]), (24, .bool true), (25, .bool false), (26, .bool false), (27, .bool false), (28, .pointer (some ⟨g, 4, none⟩)), (29, .int .i64 hh), (30, .bool false), (31, .bool true), (32, .bool true), (33, .bool true), (34, undef), (35, undef), (36, undef), (37, undef), (38, undef), (39, undef), (40, .bool true), (41, .bool true), (42, undef), (43, undef), (44, undef), (45, undef), (46, .bool true)] := by
      refine eq_puts hsz hdf (nodup_of (D := [some 14, some 15, some 16, some 17, some 18, some 19, some 20, some 21, some 22, some 23, some 24, some 25, some 26, some 27, some 28, some 29, some 30, some 31, some 32, some 33, some 34, some 35, some 36, some 37, some 38, some 39, some 40, some 41, some 42, some 43, some 44, some 45, some 46]) rfl (by decide)) (by rw [ha0]; simp) ?_ ?_
      · intro q hq
        simp only [List.mem_cons, List.not_mem_nil, or_false] at hq
        rcases hq with rfl | rfl | rfl | rfl | rfl | rfl | rfl | rfl | rfl | rfl | rfl | rfl | rfl | rfl | rfl | rfl | rfl | rfl | rfl | rfl | rfl | rfl | rfl | rfl | rfl | rfl | rfl | rfl | rfl | rfl | rfl | rfl | rfl
        · obtain ⟨o, h1, h2, _⟩ := E0.ex; exact r _ _ (hp 0 o _ h1 h2)
        · obtain ⟨o, h1, h2, _⟩ := E1.ex; exact r _ _ (hp 1 o _ h1 h2)
        · obtain ⟨o, h1, h2, _⟩ := E2.ex; exact r _ _ (hp 2 o _ h1 h2)
        · obtain ⟨o, h1, h2, _⟩ := E3.ex; exact r _ _ (hp 3 o _ h1 h2)
        · obtain ⟨o, h1, h2, _⟩ := E4.ex; exact r _ _ (hp 4 o _ h1 h2)
        · obtain ⟨o, h1, h2, _⟩ := E5.ex; exact r _ _ (hp 5 o _ h1 h2)
        · obtain ⟨o, h1, h2, _⟩ := E6.ex; exact r _ _ (hp 6 o _ h1 h2)
        · obtain ⟨o, h1, h2, _⟩ := E7.ex; exact r _ _ (hp 7 o _ h1 h2)
        · obtain ⟨o, h1, h2, _⟩ := E8.ex; exact r _ _ (hp 8 o _ h1 h2)
        · obtain ⟨o, h1, h2, _⟩ := E9.ex; exact r _ _ (hp 9 o _ h1 h2)
        · obtain ⟨o, h1, h2, _⟩ := E10.ex; exact r _ _ (hp 10 o _ h1 h2)
        · obtain ⟨o, h1, h2, _⟩ := E11.ex; exact r _ _ (hp 11 o _ h1 h2)
        · obtain ⟨o, h1, h2, _⟩ := E12.ex; exact r _ _ (hp 12 o _ h1 h2)
        · obtain ⟨o, h1, h2, _⟩ := E13.ex; exact r _ _ (hp 13 o _ h1 h2)
        · obtain ⟨o, h1, h2, _⟩ := E14.ex; exact r _ _ (hp 14 o _ h1 h2)
        · obtain ⟨o, h1, h2, _⟩ := E15.ex; exact r _ _ (hp 15 o _ h1 h2)
        · obtain ⟨o, h1, h2, _⟩ := E16.ex; exact r _ _ (hp 16 o _ h1 h2)
        · obtain ⟨o, h1, h2, _⟩ := E17.ex; exact r _ _ (hp 17 o _ h1 h2)
        · obtain ⟨o, h1, h2, _⟩ := E18.ex; exact r _ _ (hp 18 o _ h1 h2)
        · obtain ⟨o, h1, h2, _⟩ := E19.ex; exact r _ _ (hp 19 o _ h1 h2)
        · obtain ⟨o, h1, h2, _⟩ := E20.ex; exact r _ _ (hp 20 o _ h1 h2)
        · obtain ⟨o, h1, h2, _⟩ := E21.ex; exact r _ _ (hp 21 o _ h1 h2)
        · obtain ⟨o, h1, h2, _⟩ := E22.ex; exact r _ _ (hp 22 o _ h1 h2)
        · obtain ⟨o, h1, h2, _⟩ := E23.ex; exact r _ _ (hp 23 o _ h1 h2)
        · obtain ⟨o, h1, h2, _⟩ := E24.ex; exact r _ _ (hp 24 o _ h1 h2)
        · obtain ⟨o, h1, h2, _⟩ := E25.ex; exact r _ _ (hp 25 o _ h1 h2)
        · obtain ⟨o, h1, h2, _⟩ := E26.ex; exact r _ _ (hp 26 o _ h1 h2)
        · obtain ⟨o, h1, h2, _⟩ := E27.ex; exact r _ _ (hp 27 o _ h1 h2)
        · obtain ⟨o, h1, h2, _⟩ := E28.ex; exact r _ _ (hp 28 o _ h1 h2)
        · obtain ⟨o, h1, h2, _⟩ := E29.ex; exact r _ _ (hp 29 o _ h1 h2)
        · obtain ⟨o, h1, h2, _⟩ := E30.ex; exact r _ _ (hp 30 o _ h1 h2)
        · obtain ⟨o, h1, h2, _⟩ := E31.ex; exact r _ _ (hp 31 o _ h1 h2)
        · obtain ⟨o, h1, h2, _⟩ := E32.ex; exact r _ _ (hp 32 o _ h1 h2)
      · intro t ht
        refine hr t (not_of ?_)
        rw [hds]
        simp only [List.mem_cons, List.not_mem_nil, or_false, forall_eq_or_imp, forall_eq] at ht
        simp only [List.contains_cons, List.contains_nil, Bool.or_eq_false_iff, beq_eq_false_iff_ne, ne_eq, Option.some.injEq, Bool.or_false]
        simp only [eq_comm (a := t)]
        simp [ht]
    rw [e]
    exact hend w hinv
def v43 (g mb mo M mcap k : Nat) (en os od ar hh _ck mk : Int) : Nat → Value
  | 0 => .pointer (some ⟨g, 0, none⟩)
  | 1 => .int .i64 en
  | 2 => .slice (some ⟨mb, mo, none⟩) M mcap
  | 3 => .int .i64 (k : Int)
  | 4 => .pointer (some ⟨mb, mo + k, none⟩)
  | 5 => .int .i64 mk
  | 6 => .bool false
  | 7 => .bool false
  | 8 => .pointer (some ⟨g, 1, none⟩)
  | 9 => .agg #[.int .i64 os, .int .i64 od]
  | 10 => .bool true
  | 11 => .bool false
  | 12 => .bool false
  | 13 => .bool false
  | 14 => .pointer (some ⟨g, 4, none⟩)
  | 15 => .int .i64 hh
  | 16 => .bool true
  | 17 => .bool false
  | 18 => .bool false
  | 19 => .bool false
  | 20 => .pointer (some ⟨g, 3, none⟩)
  | 21 => .int .i64 ar
  | 22 => .pointer (some ⟨g, 4, none⟩)
  | 23 => .int .i64 hh
  | 24 => .bool false
  | 25 => .bool true
  | 26 => .bool true
  | 27 => .bool true
  | 32 => .bool true
  | _ => undef
set_option maxRecDepth 100000 in
set_option maxHeartbeats 4000000 in
theorem region43 {ops : Array Oper} {id : Nat} {a0 : Act} {w0 : World} {Q : Exit → Act → World → Prop} (g mb mo M mcap k : Nat) (en os od ar hh ck mk : Int)
    (EE : Ops40 ops)
    (hN : ops.size = 33) (hlow : lowB ops = true) (hds : dsts ops = [some 14, some 15, some 16, some 17, some 18, some 19, some 20, some 21, some 22, some 23, some 24, some 25, some 26, some 27, some 28, some 29, some 30, some 31, some 32, some 33, some 34, some 35, some 36, some 37, some 38, some 39, some 40, some 41, some 42, some 43, some 44, some 45, some 46]) (hnd : injB ops = true)
    (hmx : Try.prog.follows .mixedOrders = true) (ha0 : a0.tmps.size = 48) (h6 : a0.tmps.getD 6 undef = .pointer (some ⟨g, 0, none⟩)) (h1 : a0.tmps.getD 1 undef = .slice (some ⟨mb, mo, none⟩) M mcap) (h5 : a0.tmps.getD 5 undef = .int .i64 (k : Int))
    (hk : k < M) (hne : (en != mk) = false) (d0 : w0.cell? ⟨g, 0, none⟩ = some (.int .i64 en)) (d1 : w0.cell? ⟨g, 1, none⟩ = some (.int .i64 os)) (d2 : w0.cell? ⟨g, 2, none⟩ = some (.int .i64 od)) (d3 : w0.cell? ⟨g, 3, none⟩ = some (.int .i64 ar)) (d4 : w0.cell? ⟨g, 4, none⟩ = some (.int .i64 hh)) (_d5 : w0.cell? ⟨g, 5, none⟩ = some (.int .i64 ck)) (dm : w0.cell? ⟨mb, mo + k, none⟩ = some (.int .i64 mk))
    (H1 : ∀ W, Calls Try.prog 117 #[.agg #[.int .i64 os, .int .i64 od]] W fun e w' => e = .returned (.bool true) ∧ Mod (fun _ => False) W w')
    (H2 : ∀ W, Calls Try.prog 134 #[.int .i64 hh] W fun e w' => e = .returned (.bool true) ∧ Mod (fun _ => False) W w')
    (H3 : ∀ W, Calls Try.prog 135 #[.int .i64 ar, .int .i64 0, .int .i64 hh] W fun e w' => e = .returned (.bool false) ∧ Mod (fun _ => False) W w')
    (hend : ∀ w, Mod (fun _ => False) w0.drew w → Q .normal (puts a0 [(14, .pointer (some ⟨g, 0, none⟩)), (15, .int .i64 en), (16, .slice (some ⟨mb, mo, none⟩) M mcap), (17, .int .i64 (k : Int)), (18, .pointer (some ⟨mb, mo + k, none⟩)), (19, .int .i64 mk), (20, .bool false), (21, .bool false), (22, .pointer (some ⟨g, 1, none⟩)), (23, .agg #[.int .i64 os, .int .i64 od]), (24, .bool true), (25, .bool false), (26, .bool false), (27, .bool false), (28, .pointer (some ⟨g, 4, none⟩)), (29, .int .i64 hh), (30, .bool true), (31, .bool false), (32, .bool false), (33, .bool false), (34, .pointer (some ⟨g, 3, none⟩)), (35, .int .i64 ar), (36, .pointer (some ⟨g, 4, none⟩)), (37, .int .i64 hh), (38, .bool false), (39, .bool true), (40, .bool true), (41, .bool true), (42, undef), (43, undef), (44, undef), (45, undef), (46, .bool true)]) w) :
    (Code.region id ops true).wp Try.prog Q a0 w0 := by
  obtain ⟨E0, E1, E2, E3, E4, E5, E6, E7, E8, E9, E10, E11, E12, E13, E14, E15, E16, E17, E18, E19, E20, E21, E22, E23, E24, E25, E26, E27, E28, E29, E30, E31, E32⟩ := EE
  obtain ⟨PP, q, r⟩ : ∃ PP : Nat → Value → Prop, (∀ i v, (fun i' v => v = v43 g mb mo M mcap k en os od ar hh ck mk i') i v → PP i v) ∧ (∀ i v, PP i v → (fun i' v => v = v43 g mb mo M mcap k en os od ar hh ck mk i') i v) := ⟨(fun i' v => v = v43 g mb mo M mcap k en os od ar hh ck mk i'), fun _ _ h => h, fun _ _ h => h⟩
  have D : ∀ {W : World} {a : Addr} {v : Value}, Mod (fun _ => False) w0.drew W → w0.cell? a = some v → W.cell? a = some v := fun hW hc => hW.cell (by simpa using hc) (fun h => h)
  have s0 : S4 ops PP w0 a0 Q 0 := by
    refine E0.step fun o hd ho hg hw y w listed hsz hls hun hwt hdown D' R hinv K hK => ?_
    rw [ha0] at hsz
    refine .inl ⟨wanted_none hg, ?_⟩
    have f6 : y.eval (Operand.tmp 6) = .pointer (some ⟨g, 0, none⟩) := (R 6 (not_of (by rw [hds]; decide))).trans h6
    exact wp_value (ox_field ho f6 (fle0 w)) (hK _ _ (q _ _ rfl) hinv)
  have s1 : S4 ops PP w0 a0 Q 1 := by
    refine E1.step fun o hd ho hg hw y w listed hsz hls hun hwt hdown D' R hinv K hK => ?_
    rw [ha0] at hsz
    refine .inl ⟨wanted_none hg, ?_⟩
    have f14 : y.eval (Operand.tmp 14) = .pointer (some ⟨g, 0, none⟩) := r _ _ (E0.post D' (hw 0 (by simp)))
    exact wp_value (ox_load ho f14 (ld1 (D hinv d0))) (hK _ _ (q _ _ rfl) hinv)
  have s2 : S4 ops PP w0 a0 Q 2 := by
    refine E2.step fun o hd ho hg hw y w listed hsz hls hun hwt hdown D' R hinv K hK => ?_
    rw [ha0] at hsz
    refine .inl ⟨wanted_none hg, ?_⟩
    have f1 : y.eval (Operand.tmp 1) = .slice (some ⟨mb, mo, none⟩) M mcap := (R 1 (not_of (by rw [hds]; decide))).trans h1
    exact wp_value (ox_move ho f1) (hK _ _ (q _ _ rfl) hinv)
  have s3 : S4 ops PP w0 a0 Q 3 := by
    refine E3.step fun o hd ho hg hw y w listed hsz hls hun hwt hdown D' R hinv K hK => ?_
    rw [ha0] at hsz
    refine .inl ⟨wanted_none hg, ?_⟩
    have f5 : y.eval (Operand.tmp 5) = .int .i64 (k : Int) := (R 5 (not_of (by rw [hds]; decide))).trans h5
    exact wp_value (ox_move ho f5) (hK _ _ (q _ _ rfl) hinv)
  have s4 : S4 ops PP w0 a0 Q 4 := by
    refine E4.step fun o hd ho hg hw y w listed hsz hls hun hwt hdown D' R hinv K hK => ?_
    rw [ha0] at hsz
    refine .inl ⟨wanted_none hg, ?_⟩
    have f16 : y.eval (Operand.tmp 16) = .slice (some ⟨mb, mo, none⟩) M mcap := r _ _ (E2.post D' (hw 2 (by simp)))
    have f17 : y.eval (Operand.tmp 17) = .int .i64 (k : Int) := r _ _ (E3.post D' (hw 3 (by simp)))
    exact wp_value (ox_index ho f16 f17 (idx1 hk w)) (hK _ _ (q _ _ rfl) hinv)
  have s5 : S4 ops PP w0 a0 Q 5 := by
    refine E5.step fun o hd ho hg hw y w listed hsz hls hun hwt hdown D' R hinv K hK => ?_
    rw [ha0] at hsz
    refine .inl ⟨wanted_none hg, ?_⟩
    have f18 : y.eval (Operand.tmp 18) = .pointer (some ⟨mb, mo + k, none⟩) := r _ _ (E4.post D' (hw 4 (by simp)))
    exact wp_value (ox_load ho f18 (ld1 (D hinv dm))) (hK _ _ (q _ _ rfl) hinv)
  have s6 : S4 ops PP w0 a0 Q 6 := by
    refine E6.step fun o hd ho hg hw y w listed hsz hls hun hwt hdown D' R hinv K hK => ?_
    rw [ha0] at hsz
    refine .inl ⟨wanted_none hg, ?_⟩
    have f15 : y.eval (Operand.tmp 15) = .int .i64 en := r _ _ (E1.post D' (hw 1 (by simp)))
    have f19 : y.eval (Operand.tmp 19) = .int .i64 mk := r _ _ (E5.post D' (hw 5 (by simp)))
    exact wp_value (ox_neq ho f15 f19 hne) (hK _ _ (q _ _ rfl) hinv)
  have s7 : S4 ops PP w0 a0 Q 7 := by
    refine E7.step fun o hd ho hg hw y w listed hsz hls hun hwt hdown D' R hinv K hK => ?_
    rw [ha0] at hsz
    refine .inl ⟨wanted_none hg, ?_⟩
    have f20 : y.eval (Operand.tmp 20) = .bool false := r _ _ (E6.post D' (hw 6 (by simp)))
    exact wp_value (ox_move ho f20) (hK _ _ (q _ _ rfl) hinv)
  have s8 : S4 ops PP w0 a0 Q 8 := by
    refine E8.step fun o hd ho hg hw y w listed hsz hls hun hwt hdown D' R hinv K hK => ?_
    rw [ha0] at hsz
    refine .inl ⟨wanted_yes E7 hg (by rw [hsz]; decide) (r _ _ (E7.post D' (hw 7 (by simp)))), ?_⟩
    have f6 : y.eval (Operand.tmp 6) = .pointer (some ⟨g, 0, none⟩) := (R 6 (not_of (by rw [hds]; decide))).trans h6
    exact wp_value (ox_field ho f6 (fle1 w)) (hK _ _ (q _ _ rfl) hinv)
  have s9 : S4 ops PP w0 a0 Q 9 := by
    refine E9.step fun o hd ho hg hw y w listed hsz hls hun hwt hdown D' R hinv K hK => ?_
    rw [ha0] at hsz
    refine .inl ⟨wanted_yes E7 hg (by rw [hsz]; decide) (r _ _ (E7.post D' (hw 7 (by simp)))), ?_⟩
    have f22 : y.eval (Operand.tmp 22) = .pointer (some ⟨g, 1, none⟩) := r _ _ (E8.post D' (hw 8 (by simp)))
    exact wp_value (ox_load ho f22 (ld2 (D hinv d1) (D hinv d2))) (hK _ _ (q _ _ rfl) hinv)
  have s10 : S4 ops PP w0 a0 Q 10 := by
    refine E10.step fun o hd ho hg hw y w listed hsz hls hun hwt hdown D' R hinv K hK => ?_
    rw [ha0] at hsz
    refine .inl ⟨wanted_yes E7 hg (by rw [hsz]; decide) (r _ _ (E7.post D' (hw 7 (by simp)))), ?_⟩
    have f23 : y.eval (Operand.tmp 23) = .agg #[.int .i64 os, .int .i64 od] := r _ _ (E9.post D' (hw 9 (by simp)))
    refine wp_enter (f := 117) (args := #[.agg #[.int .i64 os, .int .i64 od]]) ?_ (H1 w) ?_
    · rw [exec_call1 y.eval (fun args w => by simp [go_sem]) rfl ho, f23]
    · rintro e w' ⟨rfl, hm⟩
      exact ⟨_, rfl, hK _ _ (q _ _ rfl) (hinv.trans hm (fun _ _ h => h) (fun _ _ h => h))⟩
  have s11 : S4 ops PP w0 a0 Q 11 := by
    refine E11.step fun o hd ho hg hw y w listed hsz hls hun hwt hdown D' R hinv K hK => ?_
    rw [ha0] at hsz
    refine .inl ⟨wanted_yes E7 hg (by rw [hsz]; decide) (r _ _ (E7.post D' (hw 7 (by simp)))), ?_⟩
    have f24 : y.eval (Operand.tmp 24) = .bool true := r _ _ (E10.post D' (hw 10 (by simp)))
    exact wp_value (ox_not ho f24) (hK _ _ (q _ _ rfl) hinv)
  have s12 : S4 ops PP w0 a0 Q 12 := by
    refine E12.step fun o hd ho hg hw y w listed hsz hls hun hwt hdown D' R hinv K hK => ?_
    rw [ha0] at hsz
    refine .inl ⟨wanted_none hg, ?_⟩
    have f21 : y.eval (Operand.tmp 21) = .bool false := r _ _ (E7.post D' (hw 7 (by simp)))
    have f25 : y.eval (Operand.tmp 25) = .bool false := r _ _ (E11.post D' (hw 11 (by simp)))
    exact wp_value (ox_pick ho f21 f25) (hK _ _ (q _ _ rfl) hinv)
  have s13 : S4 ops PP w0 a0 Q 13 := by
    refine E13.step fun o hd ho hg hw y w listed hsz hls hun hwt hdown D' R hinv K hK => ?_
    rw [ha0] at hsz
    refine .inl ⟨wanted_none hg, ?_⟩
    have f26 : y.eval (Operand.tmp 26) = .bool false := r _ _ (E12.post D' (hw 12 (by simp)))
    exact wp_value (ox_move ho f26) (hK _ _ (q _ _ rfl) hinv)
  have s14 : S4 ops PP w0 a0 Q 14 := by
    refine E14.step fun o hd ho hg hw y w listed hsz hls hun hwt hdown D' R hinv K hK => ?_
    rw [ha0] at hsz
    refine .inl ⟨wanted_yes E13 hg (by rw [hsz]; decide) (r _ _ (E13.post D' (hw 13 (by simp)))), ?_⟩
    have f6 : y.eval (Operand.tmp 6) = .pointer (some ⟨g, 0, none⟩) := (R 6 (not_of (by rw [hds]; decide))).trans h6
    exact wp_value (ox_field ho f6 (fle3 w)) (hK _ _ (q _ _ rfl) hinv)
  have s15 : S4 ops PP w0 a0 Q 15 := by
    refine E15.step fun o hd ho hg hw y w listed hsz hls hun hwt hdown D' R hinv K hK => ?_
    rw [ha0] at hsz
    refine .inl ⟨wanted_yes E13 hg (by rw [hsz]; decide) (r _ _ (E13.post D' (hw 13 (by simp)))), ?_⟩
    have f28 : y.eval (Operand.tmp 28) = .pointer (some ⟨g, 4, none⟩) := r _ _ (E14.post D' (hw 14 (by simp)))
    exact wp_value (ox_load ho f28 (ld1 (D hinv d4))) (hK _ _ (q _ _ rfl) hinv)
  have s16 : S4 ops PP w0 a0 Q 16 := by
    refine E16.step fun o hd ho hg hw y w listed hsz hls hun hwt hdown D' R hinv K hK => ?_
    rw [ha0] at hsz
    refine .inl ⟨wanted_yes E13 hg (by rw [hsz]; decide) (r _ _ (E13.post D' (hw 13 (by simp)))), ?_⟩
    have f29 : y.eval (Operand.tmp 29) = .int .i64 hh := r _ _ (E15.post D' (hw 15 (by simp)))
    refine wp_enter (f := 134) (args := #[.int .i64 hh]) ?_ (H2 w) ?_
    · rw [exec_call1 y.eval (fun args w => by simp [go_sem]) rfl ho, f29]
    · rintro e w' ⟨rfl, hm⟩
      exact ⟨_, rfl, hK _ _ (q _ _ rfl) (hinv.trans hm (fun _ _ h => h) (fun _ _ h => h))⟩
  have s17 : S4 ops PP w0 a0 Q 17 := by
    refine E17.step fun o hd ho hg hw y w listed hsz hls hun hwt hdown D' R hinv K hK => ?_
    rw [ha0] at hsz
    refine .inl ⟨wanted_yes E13 hg (by rw [hsz]; decide) (r _ _ (E13.post D' (hw 13 (by simp)))), ?_⟩
    have f30 : y.eval (Operand.tmp 30) = .bool true := r _ _ (E16.post D' (hw 16 (by simp)))
    exact wp_value (ox_not ho f30) (hK _ _ (q _ _ rfl) hinv)
  have s18 : S4 ops PP w0 a0 Q 18 := by
    refine E18.step fun o hd ho hg hw y w listed hsz hls hun hwt hdown D' R hinv K hK => ?_
    rw [ha0] at hsz
    refine .inl ⟨wanted_none hg, ?_⟩
    have f27 : y.eval (Operand.tmp 27) = .bool false := r _ _ (E13.post D' (hw 13 (by simp)))
    have f31 : y.eval (Operand.tmp 31) = .bool false := r _ _ (E17.post D' (hw 17 (by simp)))
    exact wp_value (ox_pick ho f27 f31) (hK _ _ (q _ _ rfl) hinv)
  have s19 : S4 ops PP w0 a0 Q 19 := by
    refine E19.step fun o hd ho hg hw y w listed hsz hls hun hwt hdown D' R hinv K hK => ?_
    rw [ha0] at hsz
    refine .inl ⟨wanted_none hg, ?_⟩
    have f32 : y.eval (Operand.tmp 32) = .bool false := r _ _ (E18.post D' (hw 18 (by simp)))
    exact wp_value (ox_move ho f32) (hK _ _ (q _ _ rfl) hinv)
  have s20 : S4 ops PP w0 a0 Q 20 := by
    refine E20.step fun o hd ho hg hw y w listed hsz hls hun hwt hdown D' R hinv K hK => ?_
    rw [ha0] at hsz
    refine .inl ⟨wanted_yes E19 hg (by rw [hsz]; decide) (r _ _ (E19.post D' (hw 19 (by simp)))), ?_⟩
    have f6 : y.eval (Operand.tmp 6) = .pointer (some ⟨g, 0, none⟩) := (R 6 (not_of (by rw [hds]; decide))).trans h6
    exact wp_value (ox_field ho f6 (fle2 w)) (hK _ _ (q _ _ rfl) hinv)
  have s21 : S4 ops PP w0 a0 Q 21 := by
    refine E21.step fun o hd ho hg hw y w listed hsz hls hun hwt hdown D' R hinv K hK => ?_
    rw [ha0] at hsz
    refine .inl ⟨wanted_yes E19 hg (by rw [hsz]; decide) (r _ _ (E19.post D' (hw 19 (by simp)))), ?_⟩
    have f34 : y.eval (Operand.tmp 34) = .pointer (some ⟨g, 3, none⟩) := r _ _ (E20.post D' (hw 20 (by simp)))
    exact wp_value (ox_load ho f34 (ld1 (D hinv d3))) (hK _ _ (q _ _ rfl) hinv)
  have s22 : S4 ops PP w0 a0 Q 22 := by
    refine E22.step fun o hd ho hg hw y w listed hsz hls hun hwt hdown D' R hinv K hK => ?_
    rw [ha0] at hsz
    refine .inl ⟨wanted_yes E19 hg (by rw [hsz]; decide) (r _ _ (E19.post D' (hw 19 (by simp)))), ?_⟩
    have f6 : y.eval (Operand.tmp 6) = .pointer (some ⟨g, 0, none⟩) := (R 6 (not_of (by rw [hds]; decide))).trans h6
    exact wp_value (ox_field ho f6 (fle3 w)) (hK _ _ (q _ _ rfl) hinv)
  have s23 : S4 ops PP w0 a0 Q 23 := by
    refine E23.step fun o hd ho hg hw y w listed hsz hls hun hwt hdown D' R hinv K hK => ?_
    rw [ha0] at hsz
    refine .inl ⟨wanted_yes E19 hg (by rw [hsz]; decide) (r _ _ (E19.post D' (hw 19 (by simp)))), ?_⟩
    have f36 : y.eval (Operand.tmp 36) = .pointer (some ⟨g, 4, none⟩) := r _ _ (E22.post D' (hw 22 (by simp)))
    exact wp_value (ox_load ho f36 (ld1 (D hinv d4))) (hK _ _ (q _ _ rfl) hinv)
  have s24 : S4 ops PP w0 a0 Q 24 := by
    refine E24.step fun o hd ho hg hw y w listed hsz hls hun hwt hdown D' R hinv K hK => ?_
    rw [ha0] at hsz
    refine .inl ⟨wanted_yes E19 hg (by rw [hsz]; decide) (r _ _ (E19.post D' (hw 19 (by simp)))), ?_⟩
    have f35 : y.eval (Operand.tmp 35) = .int .i64 ar := r _ _ (E21.post D' (hw 21 (by simp)))
    have f37 : y.eval (Operand.tmp 37) = .int .i64 hh := r _ _ (E23.post D' (hw 23 (by simp)))
    refine wp_enter (f := 135) (args := #[.int .i64 ar, .int .i64 0, .int .i64 hh]) ?_ (H3 w) ?_
    · rw [exec_call3 y.eval (fun args w => by simp [go_sem]) rfl ho, f35, f37]; rfl
    · rintro e w' ⟨rfl, hm⟩
      exact ⟨_, rfl, hK _ _ (q _ _ rfl) (hinv.trans hm (fun _ _ h => h) (fun _ _ h => h))⟩
  have s25 : S4 ops PP w0 a0 Q 25 := by
    refine E25.step fun o hd ho hg hw y w listed hsz hls hun hwt hdown D' R hinv K hK => ?_
    rw [ha0] at hsz
    refine .inl ⟨wanted_yes E19 hg (by rw [hsz]; decide) (r _ _ (E19.post D' (hw 19 (by simp)))), ?_⟩
    have f38 : y.eval (Operand.tmp 38) = .bool false := r _ _ (E24.post D' (hw 24 (by simp)))
    exact wp_value (ox_not ho f38) (hK _ _ (q _ _ rfl) hinv)
  have s26 : S4 ops PP w0 a0 Q 26 := by
    refine E26.step fun o hd ho hg hw y w listed hsz hls hun hwt hdown D' R hinv K hK => ?_
    rw [ha0] at hsz
    refine .inl ⟨wanted_none hg, ?_⟩
    have f33 : y.eval (Operand.tmp 33) = .bool false := r _ _ (E19.post D' (hw 19 (by simp)))
    have f39 : y.eval (Operand.tmp 39) = .bool true := r _ _ (E25.post D' (hw 25 (by simp)))
    exact wp_value (ox_pick ho f33 f39) (hK _ _ (q _ _ rfl) hinv)
  have s27 : S4 ops PP w0 a0 Q 27 := by
    refine E27.step fun o hd ho hg hw y w listed hsz hls hun hwt hdown D' R hinv K hK => ?_
    rw [ha0] at hsz
    refine .inl ⟨wanted_none hg, ?_⟩
    have f40 : y.eval (Operand.tmp 40) = .bool true := r _ _ (E26.post D' (hw 26 (by simp)))
    exact wp_value (ox_move ho f40) (hK _ _ (q _ _ rfl) hinv)
  have s28 : S4 ops PP w0 a0 Q 28 := by
    refine E28.step fun o hd ho hg hw y w listed hsz hls hun hwt hdown D' R hinv K hK => ?_
    rw [ha0] at hsz
    exact .inr ⟨wanted_no E27 hg (by rw [hsz]; decide) (r _ _ (E27.post D' (hw 27 (by simp)))), hK _ _ (q _ _ rfl) hinv⟩
  have s29 : S4 ops PP w0 a0 Q 29 := by
    refine E29.step fun o hd ho hg hw y w listed hsz hls hun hwt hdown D' R hinv K hK => ?_
    rw [ha0] at hsz
    exact .inr ⟨wanted_no E27 hg (by rw [hsz]; decide) (r _ _ (E27.post D' (hw 27 (by simp)))), hK _ _ (q _ _ rfl) hinv⟩
  have s30 : S4 ops PP w0 a0 Q 30 := by
    refine E30.step fun o hd ho hg hw y w listed hsz hls hun hwt hdown D' R hinv K hK => ?_
    rw [ha0] at hsz
    exact .inr ⟨wanted_no E27 hg (by rw [hsz]; decide) (r _ _ (E27.post D' (hw 27 (by simp)))), hK _ _ (q _ _ rfl) hinv⟩
  have s31 : S4 ops PP w0 a0 Q 31 := by
    refine E31.step fun o hd ho hg hw y w listed hsz hls hun hwt hdown D' R hinv K hK => ?_
    rw [ha0] at hsz
    exact .inr ⟨wanted_no E27 hg (by rw [hsz]; decide) (r _ _ (E27.post D' (hw 27 (by simp)))), hK _ _ (q _ _ rfl) hinv⟩
  have s32 : S4 ops PP w0 a0 Q 32 := by
    refine E32.step fun o hd ho hg hw y w listed hsz hls hun hwt hdown D' R hinv K hK => ?_
    rw [ha0] at hsz
    refine .inl ⟨wanted_none hg, ?_⟩
    have f41 : y.eval (Operand.tmp 41) = .bool true := r _ _ (E27.post D' (hw 27 (by simp)))
    have f45 : y.eval (Operand.tmp 45) = undef := r _ _ (E31.post D' (hw 31 (by simp)))
    exact wp_value (ox_pick ho f41 rfl) (hK _ _ (q _ _ rfl) hinv)
  refine region_free (Post := PP) (Inv := M0 w0) hmx (low_of hlow) (fun i o ho => by rw [ha0]; exact dst_of (by rw [hds]; decide) i o ho) (inj_of hnd) (Mod.refl _ _) ?_ ?_
  · intro i o ho
    have hi : i < 33 := by
      rw [← hN]
      rcases Nat.lt_or_ge i ops.size with h | h
      · exact h
      · rw [Array.getElem?_eq_none h] at ho; cases ho
    clear hend
    match i, hi with
    | 0, _ => exact s0 o ho
    | 1, _ => exact s1 o ho
    | 2, _ => exact s2 o ho
    | 3, _ => exact s3 o ho
    | 4, _ => exact s4 o ho
    | 5, _ => exact s5 o ho
    | 6, _ => exact s6 o ho
    | 7, _ => exact s7 o ho
    | 8, _ => exact s8 o ho
    | 9, _ => exact s9 o ho
    | 10, _ => exact s10 o ho
    | 11, _ => exact s11 o ho
    | 12, _ => exact s12 o ho
    | 13, _ => exact s13 o ho
    | 14, _ => exact s14 o ho
    | 15, _ => exact s15 o ho
    | 16, _ => exact s16 o ho
    | 17, _ => exact s17 o ho
    | 18, _ => exact s18 o ho
    | 19, _ => exact s19 o ho
    | 20, _ => exact s20 o ho
    | 21, _ => exact s21 o ho
    | 22, _ => exact s22 o ho
    | 23, _ => exact s23 o ho
    | 24, _ => exact s24 o ho
    | 25, _ => exact s25 o ho
    | 26, _ => exact s26 o ho
    | 27, _ => exact s27 o ho
    | 28, _ => exact s28 o ho
    | 29, _ => exact s29 o ho
    | 30, _ => exact s30 o ho
    | 31, _ => exact s31 o ho
    | 32, _ => exact s32 o ho
    | i + 33, hi => omega
  · intro y w listed hsz hdf hls hall hinv hp hr
    have e : y = puts a0 [(14, .pointer (some ⟨g, 0, none⟩)), (15, .int .i64 en), (16, .slice (some ⟨mb, mo, none⟩) M mcap), (17, .int .i64 (k : Int)), (18, .pointer (some ⟨mb, mo + k, none⟩)), (19, .int .i64 mk), (20, .bool false), (21, .bool false), (22, .pointer (some ⟨g, 1, none⟩)), (23, .agg #[.int .i64 os, .int .i64 od]), (24, .bool true), (25, .bool false), (26, .bool false), (27, .bool false), (28, .pointer (some ⟨g, 4, none⟩)), (29, .int .i64 hh), (30, .bool true), (31, .bool false), (32, .bool false), (33, .bool false), (34, .pointer (some ⟨g, 3, none⟩)), (35, .int .i64 ar), (36, .pointer (some ⟨g, 4, none⟩)), (37, .int .i64 hh), (38, .bool false), (39, .bool true), (40, .bool true), (41, .bool true), (42, undef), (43, undef), (44, undef), (45, undef), (46, .bool true)] := by
      refine eq_puts hsz hdf (nodup_of (D := [some 14, some 15, some 16, some 17, some 18, some 19, some 20, some 21, some 22, some 23, some 24, some 25, some 26, some 27, some 28, some 29, some 30, some 31, some 32, some 33, some 34, some 35, some 36, some 37, some 38, some 39, some 40, some 41, some 42, some 43, some 44, some 45, some 46]) rfl (by decide)) (by rw [ha0]; simp) ?_ ?_
      · intro q hq
        simp only [List.mem_cons, List.not_mem_nil, or_false] at hq
        rcases hq with rfl | rfl | rfl | rfl | rfl | rfl | rfl | rfl | rfl | rfl | rfl | rfl | rfl | rfl | rfl | rfl | rfl | rfl | rfl | rfl | rfl | rfl | rfl | rfl | rfl | rfl | rfl | rfl | rfl | rfl | rfl | rfl | rfl
        · obtain ⟨o, h1, h2, _⟩ := E0.ex; exact r _ _ (hp 0 o _ h1 h2)
        · obtain ⟨o, h1, h2, _⟩ := E1.ex; exact r _ _ (hp 1 o _ h1 h2)
        · obtain ⟨o, h1, h2, _⟩ := E2.ex; exact r _ _ (hp 2 o _ h1 h2)
        · obtain ⟨o, h1, h2, _⟩ := E3.ex; exact r _ _ (hp 3 o _ h1 h2)
        · obtain ⟨o, h1, h2, _⟩ := E4.ex; exact r _ _ (hp 4 o _ h1 h2)
        · obtain ⟨o, h1, h2, _⟩ := E5.ex; exact r _ _ (hp 5 o _ h1 h2)
        · obtain ⟨o, h1, h2, _⟩ := E6.ex; exact r _ _ (hp 6 o _ h1 h2)
        · obtain ⟨o, h1, h2, _⟩ := E7.ex; exact r _ _ (hp 7 o _ h1 h2)
        · obtain ⟨o, h1, h2, _⟩ := E8.ex; exact r _ _ (hp 8 o _ h1 h2)
        · obtain ⟨o, h1, h2, _⟩ := E9.ex; exact r _ _ (hp 9 o _ h1 h2)
        · obtain ⟨o, h1, h2, _⟩ := E10.ex; exact r _ _ (hp 10 o _ h1 h2)
        · obtain ⟨o, h1, h2, _⟩ := E11.ex; exact r _ _ (hp 11 o _ h1 h2)
        · obtain ⟨o, h1, h2, _⟩ := E12.ex; exact r _ _ (hp 12 o _ h1 h2)
        · obtain ⟨o, h1, h2, _⟩ := E13.ex; exact r _ _ (hp 13 o _ h1 h2)
        · obtain ⟨o, h1, h2, _⟩ := E14.ex; exact r _ _ (hp 14 o _ h1 h2)
        · obtain ⟨o, h1, h2, _⟩ := E15.ex; exact r _ _ (hp 15 o _ h1 h2)
        · obtain ⟨o, h1, h2, _⟩ := E16.ex; exact r _ _ (hp 16 o _ h1 h2)
        · obtain ⟨o, h1, h2, _⟩ := E17.ex; exact r _ _ (hp 17 o _ h1 h2)
        · obtain ⟨o, h1, h2, _⟩ := E18.ex; exact r _ _ (hp 18 o _ h1 h2)
        · obtain ⟨o, h1, h2, _⟩ := E19.ex; exact r _ _ (hp 19 o _ h1 h2)
        · obtain ⟨o, h1, h2, _⟩ := E20.ex; exact r _ _ (hp 20 o _ h1 h2)
        · obtain ⟨o, h1, h2, _⟩ := E21.ex; exact r _ _ (hp 21 o _ h1 h2)
        · obtain ⟨o, h1, h2, _⟩ := E22.ex; exact r _ _ (hp 22 o _ h1 h2)
        · obtain ⟨o, h1, h2, _⟩ := E23.ex; exact r _ _ (hp 23 o _ h1 h2)
        · obtain ⟨o, h1, h2, _⟩ := E24.ex; exact r _ _ (hp 24 o _ h1 h2)
        · obtain ⟨o, h1, h2, _⟩ := E25.ex; exact r _ _ (hp 25 o _ h1 h2)
        · obtain ⟨o, h1, h2, _⟩ := E26.ex; exact r _ _ (hp 26 o _ h1 h2)
        · obtain ⟨o, h1, h2, _⟩ := E27.ex; exact r _ _ (hp 27 o _ h1 h2)
        · obtain ⟨o, h1, h2, _⟩ := E28.ex; exact r _ _ (hp 28 o _ h1 h2)
        · obtain ⟨o, h1, h2, _⟩ := E29.ex; exact r _ _ (hp 29 o _ h1 h2)
        · obtain ⟨o, h1, h2, _⟩ := E30.ex; exact r _ _ (hp 30 o _ h1 h2)
        · obtain ⟨o, h1, h2, _⟩ := E31.ex; exact r _ _ (hp 31 o _ h1 h2)
        · obtain ⟨o, h1, h2, _⟩ := E32.ex; exact r _ _ (hp 32 o _ h1 h2)
      · intro t ht
        refine hr t (not_of ?_)
        rw [hds]
        simp only [List.mem_cons, List.not_mem_nil, or_false, forall_eq_or_imp, forall_eq] at ht
        simp only [List.contains_cons, List.contains_nil, Bool.or_eq_false_iff, beq_eq_false_iff_ne, ne_eq, Option.some.injEq, Bool.or_false]
        simp only [eq_comm (a := t)]
        simp [ht]
    rw [e]
    exact hend w hinv
def v44 (g mb mo M mcap k : Nat) (en os od ar hh ck mk : Int) : Nat → Value
  | 0 => .pointer (some ⟨g, 0, none⟩)
  | 1 => .int .i64 en
  | 2 => .slice (some ⟨mb, mo, none⟩) M mcap
  | 3 => .int .i64 (k : Int)
  | 4 => .pointer (some ⟨mb, mo + k, none⟩)
  | 5 => .int .i64 mk
  | 6 => .bool false
  | 7 => .bool false
  | 8 => .pointer (some ⟨g, 1, none⟩)
  | 9 => .agg #[.int .i64 os, .int .i64 od]
  | 10 => .bool true
  | 11 => .bool false
  | 12 => .bool false
  | 13 => .bool false
  | 14 => .pointer (some ⟨g, 4, none⟩)
  | 15 => .int .i64 hh
  | 16 => .bool true
  | 17 => .bool false
  | 18 => .bool false
  | 19 => .bool false
  | 20 => .pointer (some ⟨g, 3, none⟩)
  | 21 => .int .i64 ar
  | 22 => .pointer (some ⟨g, 4, none⟩)
  | 23 => .int .i64 hh
  | 24 => .bool true
  | 25 => .bool false
  | 26 => .bool false
  | 27 => .bool false
  | 28 => .pointer (some ⟨g, 5, none⟩)
  | 29 => .int .i64 ck
  | 30 => .bool false
  | 31 => .bool true
  | 32 => .bool true
  | _ => undef
set_option maxRecDepth 100000 in
set_option maxHeartbeats 4000000 in
theorem region44 {ops : Array Oper} {id : Nat} {a0 : Act} {w0 : World} {Q : Exit → Act → World → Prop} (g mb mo M mcap k : Nat) (en os od ar hh ck mk : Int)
    (EE : Ops40 ops)
    (hN : ops.size = 33) (hlow : lowB ops = true) (hds : dsts ops = [some 14, some 15, some 16, some 17, some 18, some 19, some 20, some 21, some 22, some 23, some 24, some 25, some 26, some 27, some 28, some 29, some 30, some 31, some 32, some 33, some 34, some 35, some 36, some 37, some 38, some 39, some 40, some 41, some 42, some 43, some 44, some 45, some 46]) (hnd : injB ops = true)
    (hmx : Try.prog.follows .mixedOrders = true) (ha0 : a0.tmps.size = 48) (h6 : a0.tmps.getD 6 undef = .pointer (some ⟨g, 0, none⟩)) (h1 : a0.tmps.getD 1 undef = .slice (some ⟨mb, mo, none⟩) M mcap) (h5 : a0.tmps.getD 5 undef = .int .i64 (k : Int))
    (hk : k < M) (hne : (en != mk) = false) (d0 : w0.cell? ⟨g, 0, none⟩ = some (.int .i64 en)) (d1 : w0.cell? ⟨g, 1, none⟩ = some (.int .i64 os)) (d2 : w0.cell? ⟨g, 2, none⟩ = some (.int .i64 od)) (d3 : w0.cell? ⟨g, 3, none⟩ = some (.int .i64 ar)) (d4 : w0.cell? ⟨g, 4, none⟩ = some (.int .i64 hh)) (d5 : w0.cell? ⟨g, 5, none⟩ = some (.int .i64 ck)) (dm : w0.cell? ⟨mb, mo + k, none⟩ = some (.int .i64 mk))
    (H1 : ∀ W, Calls Try.prog 117 #[.agg #[.int .i64 os, .int .i64 od]] W fun e w' => e = .returned (.bool true) ∧ Mod (fun _ => False) W w')
    (H2 : ∀ W, Calls Try.prog 134 #[.int .i64 hh] W fun e w' => e = .returned (.bool true) ∧ Mod (fun _ => False) W w')
    (H3 : ∀ W, Calls Try.prog 135 #[.int .i64 ar, .int .i64 0, .int .i64 hh] W fun e w' => e = .returned (.bool true) ∧ Mod (fun _ => False) W w')
    (H4 : ∀ W, Calls Try.prog 134 #[.int .i64 ck] W fun e w' => e = .returned (.bool false) ∧ Mod (fun _ => False) W w')
    (hend : ∀ w, Mod (fun _ => False) w0.drew w → Q .normal (puts a0 [(14, .pointer (some ⟨g, 0, none⟩)), (15, .int .i64 en), (16, .slice (some ⟨mb, mo, none⟩) M mcap), (17, .int .i64 (k : Int)), (18, .pointer (some ⟨mb, mo + k, none⟩)), (19, .int .i64 mk), (20, .bool false), (21, .bool false), (22, .pointer (some ⟨g, 1, none⟩)), (23, .agg #[.int .i64 os, .int .i64 od]), (24, .bool true), (25, .bool false), (26, .bool false), (27, .bool false), (28, .pointer (some ⟨g, 4, none⟩)), (29, .int .i64 hh), (30, .bool true), (31, .bool false), (32, .bool false), (33, .bool false), (34, .pointer (some ⟨g, 3, none⟩)), (35, .int .i64 ar), (36, .pointer (some ⟨g, 4, none⟩)), (37, .int .i64 hh), (38, .bool true), (39, .bool false), (40, .bool false), (41, .bool false), (42, .pointer (some ⟨g, 5, none⟩)), (43, .int .i64 ck), (44, .bool false), (45, .bool true), (46, .bool true)]) w) :
    (Code.region id ops true).wp Try.prog Q a0 w0 := by
  obtain ⟨E0, E1, E2, E3, E4, E5, E6, E7, E8, E9, E10, E11, E12, E13, E14, E15, E16, E17, E18, E19, E20, E21, E22, E23, E24, E25, E26, E27, E28, E29, E30, E31, E32⟩ := EE
  obtain ⟨PP, q, r⟩ : ∃ PP : Nat → Value → Prop, (∀ i v, (fun i' v => v = v44 g mb mo M mcap k en os od ar hh ck mk i') i v → PP i v) ∧ (∀ i v, PP i v → (fun i' v => v = v44 g mb mo M mcap k en os od ar hh ck mk i') i v) := ⟨(fun i' v => v = v44 g mb mo M mcap k en os od ar hh ck mk i'), fun _ _ h => h, fun _ _ h => h⟩
  have D : ∀ {W : World} {a : Addr} {v : Value}, Mod (fun _ => False) w0.drew W → w0.cell? a = some v → W.cell? a = some v := fun hW hc => hW.cell (by simpa using hc) (fun h => h)
  have s0 : S4 ops PP w0 a0 Q 0 := by
    refine E0.step fun o hd ho hg hw y w listed hsz hls hun hwt hdown D' R hinv K hK => ?_
    rw [ha0] at hsz
    refine .inl ⟨wanted_none hg, ?_⟩
    have f6 : y.eval (Operand.tmp 6) = .pointer (some ⟨g, 0, none⟩) := (R 6 (not_of (by rw [hds]; decide))).trans h6
    exact wp_value (ox_field ho f6 (fle0 w)) (hK _ _ (q _ _ rfl) hinv)
  have s1 : S4 ops PP w0 a0 Q 1 := by
    refine E1.step fun o hd ho hg hw y w listed hsz hls hun hwt hdown D' R hinv K hK => ?_
    rw [ha0] at hsz
    refine .inl ⟨wanted_none hg, ?_⟩
    have f14 : y.eval (Operand.tmp 14) = .pointer (some ⟨g, 0, none⟩) := r _ _ (E0.post D' (hw 0 (by simp)))
    exact wp_value (ox_load ho f14 (ld1 (D hinv d0))) (hK _ _ (q _ _ rfl) hinv)
  have s2 : S4 ops PP w0 a0 Q 2 := by
    refine E2.step fun o hd ho hg hw y w listed hsz hls hun hwt hdown D' R hinv K hK => ?_
    rw [ha0] at hsz
    refine .inl ⟨wanted_none hg, ?_⟩
    have f1 : y.eval (Operand.tmp 1) = .slice (some ⟨mb, mo, none⟩) M mcap := (R 1 (not_of (by rw [hds]; decide))).trans h1
    exact wp_value (ox_move ho f1) (hK _ _ (q _ _ rfl) hinv)
  have s3 : S4 ops PP w0 a0 Q 3 := by
    refine E3.step fun o hd ho hg hw y w listed hsz hls hun hwt hdown D' R hinv K hK => ?_
    rw [ha0] at hsz
    refine .inl ⟨wanted_none hg, ?_⟩
    have f5 : y.eval (Operand.tmp 5) = .int .i64 (k : Int) := (R 5 (not_of (by rw [hds]; decide))).trans h5
    exact wp_value (ox_move ho f5) (hK _ _ (q _ _ rfl) hinv)
  have s4 : S4 ops PP w0 a0 Q 4 := by
    refine E4.step fun o hd ho hg hw y w listed hsz hls hun hwt hdown D' R hinv K hK => ?_
    rw [ha0] at hsz
    refine .inl ⟨wanted_none hg, ?_⟩
    have f16 : y.eval (Operand.tmp 16) = .slice (some ⟨mb, mo, none⟩) M mcap := r _ _ (E2.post D' (hw 2 (by simp)))
    have f17 : y.eval (Operand.tmp 17) = .int .i64 (k : Int) := r _ _ (E3.post D' (hw 3 (by simp)))
    exact wp_value (ox_index ho f16 f17 (idx1 hk w)) (hK _ _ (q _ _ rfl) hinv)
  have s5 : S4 ops PP w0 a0 Q 5 := by
    refine E5.step fun o hd ho hg hw y w listed hsz hls hun hwt hdown D' R hinv K hK => ?_
    rw [ha0] at hsz
    refine .inl ⟨wanted_none hg, ?_⟩
    have f18 : y.eval (Operand.tmp 18) = .pointer (some ⟨mb, mo + k, none⟩) := r _ _ (E4.post D' (hw 4 (by simp)))
    exact wp_value (ox_load ho f18 (ld1 (D hinv dm))) (hK _ _ (q _ _ rfl) hinv)
  have s6 : S4 ops PP w0 a0 Q 6 := by
    refine E6.step fun o hd ho hg hw y w listed hsz hls hun hwt hdown D' R hinv K hK => ?_
    rw [ha0] at hsz
    refine .inl ⟨wanted_none hg, ?_⟩
    have f15 : y.eval (Operand.tmp 15) = .int .i64 en := r _ _ (E1.post D' (hw 1 (by simp)))
    have f19 : y.eval (Operand.tmp 19) = .int .i64 mk := r _ _ (E5.post D' (hw 5 (by simp)))
    exact wp_value (ox_neq ho f15 f19 hne) (hK _ _ (q _ _ rfl) hinv)
  have s7 : S4 ops PP w0 a0 Q 7 := by
    refine E7.step fun o hd ho hg hw y w listed hsz hls hun hwt hdown D' R hinv K hK => ?_
    rw [ha0] at hsz
    refine .inl ⟨wanted_none hg, ?_⟩
    have f20 : y.eval (Operand.tmp 20) = .bool false := r _ _ (E6.post D' (hw 6 (by simp)))
    exact wp_value (ox_move ho f20) (hK _ _ (q _ _ rfl) hinv)
  have s8 : S4 ops PP w0 a0 Q 8 := by
    refine E8.step fun o hd ho hg hw y w listed hsz hls hun hwt hdown D' R hinv K hK => ?_
    rw [ha0] at hsz
    refine .inl ⟨wanted_yes E7 hg (by rw [hsz]; decide) (r _ _ (E7.post D' (hw 7 (by simp)))), ?_⟩
    have f6 : y.eval (Operand.tmp 6) = .pointer (some ⟨g, 0, none⟩) := (R 6 (not_of (by rw [hds]; decide))).trans h6
    exact wp_value (ox_field ho f6 (fle1 w)) (hK _ _ (q _ _ rfl) hinv)
  have s9 : S4 ops PP w0 a0 Q 9 := by
    refine E9.step fun o hd ho hg hw y w listed hsz hls hun hwt hdown D' R hinv K hK => ?_
    rw [ha0] at hsz
    refine .inl ⟨wanted_yes E7 hg (by rw [hsz]; decide) (r _ _ (E7.post D' (hw 7 (by simp)))), ?_⟩
    have f22 : y.eval (Operand.tmp 22) = .pointer (some ⟨g, 1, none⟩) := r _ _ (E8.post D' (hw 8 (by simp)))
    exact wp_value (ox_load ho f22 (ld2 (D hinv d1) (D hinv d2))) (hK _ _ (q _ _ rfl) hinv)
  have s10 : S4 ops PP w0 a0 Q 10 := by
    refine E10.step fun o hd ho hg hw y w listed hsz hls hun hwt hdown D' R hinv K hK => ?_
    rw [ha0] at hsz
    refine .inl ⟨wanted_yes E7 hg (by rw [hsz]; decide) (r _ _ (E7.post D' (hw 7 (by simp)))), ?_⟩
    have f23 : y.eval (Operand.tmp 23) = .agg #[.int .i64 os, .int .i64 od] := r _ _ (E9.post D' (hw 9 (by simp)))
    refine wp_enter (f := 117) (args := #[.agg #[.int .i64 os, .int .i64 od]]) ?_ (H1 w) ?_
    · rw [exec_call1 y.eval (fun args w => by simp [go_sem]) rfl ho, f23]
    · rintro e w' ⟨rfl, hm⟩
      exact ⟨_, rfl, hK _ _ (q _ _ rfl) (hinv.trans hm (fun _ _ h => h) (fun _ _ h => h))⟩
  have s11 : S4 ops PP w0 a0 Q 11 := by
    refine E11.step fun o hd ho hg hw y w listed hsz hls hun hwt hdown D' R hinv K hK => ?_
    rw [ha0] at hsz
    refine .inl ⟨wanted_yes E7 hg (by rw [hsz]; decide) (r _ _ (E7.post D' (hw 7 (by simp)))), ?_⟩
    have f24 : y.eval (Operand.tmp 24) = .bool true := r _ _ (E10.post D' (hw 10 (by simp)))
    exact wp_value (ox_not ho f24) (hK _ _ (q _ _ rfl) hinv)
  have s12 : S4 ops PP w0 a0 Q 12 := by
    refine E12.step fun o hd ho hg hw y w listed hsz hls hun hwt hdown D' R hinv K hK => ?_
    rw [ha0] at hsz
    refine .inl ⟨wanted_none hg, ?_⟩
    have f21 : y.eval (Operand.tmp 21) = .bool false := r _ _ (E7.post D' (hw 7 (by simp)))
    have f25 : y.eval (Operand.tmp 25) = .bool false := r _ _ (E11.post D' (hw 11 (by simp)))
    exact wp_value (ox_pick ho f21 f25) (hK _ _ (q _ _ rfl) hinv)
  have s13 : S4 ops PP w0 a0 Q 13 := by
    refine E13.step fun o hd ho hg hw y w listed hsz hls hun hwt hdown D' R hinv K hK => ?_
    rw [ha0] at hsz
    refine .inl ⟨wanted_none hg, ?_⟩
    have f26 : y.eval (Operand.tmp 26) = .bool false := r _ _ (E12.post D' (hw 12 (by simp)))
    exact wp_value (ox_move ho f26) (hK _ _ (q _ _ rfl) hinv)
  have s14 : S4 ops PP w0 a0 Q 14 := by
    refine E14.step fun o hd ho hg hw y w listed hsz hls hun hwt hdown D' R hinv K hK => ?_
    rw [ha0] at hsz
    refine .inl ⟨wanted_yes E13 hg (by rw [hsz]; decide) (r _ _ (E13.post D' (hw 13 (by simp)))), ?_⟩
    have f6 : y.eval (Operand.tmp 6) = .pointer (some ⟨g, 0, none⟩) := (R 6 (not_of (by rw [hds]; decide))).trans h6
    exact wp_value (ox_field ho f6 (fle3 w)) (hK _ _ (q _ _ rfl) hinv)
  have s15 : S4 ops PP w0 a0 Q 15 := by
    refine E15.step fun o hd ho hg hw y w listed hsz hls hun hwt hdown D' R hinv K hK => ?_
    rw [ha0] at hsz
    refine .inl ⟨wanted_yes E13 hg (by rw [hsz]; decide) (r _ _ (E13.post D' (hw 13 (by simp)))), ?_⟩
    have f28 : y.eval (Operand.tmp 28) = .pointer (some ⟨g, 4, none⟩) := r _ _ (E14.post D' (hw 14 (by simp)))
    exact wp_value (ox_load ho f28 (ld1 (D hinv d4))) (hK _ _ (q _ _ rfl) hinv)
  have s16 : S4 ops PP w0 a0 Q 16 := by
    refine E16.step fun o hd ho hg hw y w listed hsz hls hun hwt hdown D' R hinv K hK => ?_
    rw [ha0] at hsz
    refine .inl ⟨wanted_yes E13 hg (by rw [hsz]; decide) (r _ _ (E13.post D' (hw 13 (by simp)))), ?_⟩
    have f29 : y.eval (Operand.tmp 29) = .int .i64 hh := r _ _ (E15.post D' (hw 15 (by simp)))
    refine wp_enter (f := 134) (args := #[.int .i64 hh]) ?_ (H2 w) ?_
    · rw [exec_call1 y.eval (fun args w => by simp [go_sem]) rfl ho, f29]
    · rintro e w' ⟨rfl, hm⟩
      exact ⟨_, rfl, hK _ _ (q _ _ rfl) (hinv.trans hm (fun _ _ h => h) (fun _ _ h => h))⟩
  have s17 : S4 ops PP w0 a0 Q 17 := by
    refine E17.step fun o hd ho hg hw y w listed hsz hls hun hwt hdown D' R hinv K hK => ?_
    rw [ha0] at hsz
    refine .inl ⟨wanted_yes E13 hg (by rw [hsz]; decide) (r _ _ (E13.post D' (hw 13 (by simp)))), ?_⟩
    have f30 : y.eval (Operand.tmp 30) = .bool true := r _ _ (E16.post D' (hw 16 (by simp)))
    exact wp_value (ox_not ho f30) (hK _ _ (q _ _ rfl) hinv)
  have s18 : S4 ops PP w0 a0 Q 18 := by
    refine E18.step fun o hd ho hg hw y w listed hsz hls hun hwt hdown D' R hinv K hK => ?_
    rw [ha0] at hsz
    refine .inl ⟨wanted_none hg, ?_⟩
    have f27 : y.eval (Operand.tmp 27) = .bool false := r _ _ (E13.post D' (hw 13 (by simp)))
    have f31 : y.eval (Operand.tmp 31) = .bool false := r _ _ (E17.post D' (hw 17 (by simp)))
    exact wp_value (ox_pick ho f27 f31) (hK _ _ (q _ _ rfl) hinv)
  have s19 : S4 ops PP w0 a0 Q 19 := by
    refine E19.step fun o hd ho hg hw y w listed hsz hls hun hwt hdown D' R hinv K hK => ?_
    rw [ha0] at hsz
    refine .inl ⟨wanted_none hg, ?_⟩
    have f32 : y.eval (Operand.tmp 32) = .bool false := r _ _ (E18.post D' (hw 18 (by simp)))
    exact wp_value (ox_move ho f32) (hK _ _ (q _ _ rfl) hinv)
  have s20 : S4 ops PP w0 a0 Q 20 := by
    refine E20.step fun o hd ho hg hw y w listed hsz hls hun hwt hdown D' R hinv K hK => ?_
    rw [ha0] at hsz
    refine .inl ⟨wanted_yes E19 hg (by rw [hsz]; decide) (r _ _ (E19.post D' (hw 19 (by simp)))), ?_⟩
    have f6 : y.eval (Operand.tmp 6) = .pointer (some ⟨g, 0, none⟩) := (R 6 (not_of (by rw [hds]; decide))).trans h6
    exact wp_value (ox_field ho f6 (fle2 w)) (hK _ _ (q _ _ rfl) hinv)
  have s21 : S4 ops PP w0 a0 Q 21 := by
    refine E21.step fun o hd ho hg hw y w listed hsz hls hun hwt hdown D' R hinv K hK => ?_
    rw [ha0] at hsz
    refine .inl ⟨wanted_yes E19 hg (by rw [hsz]; decide) (r _ _ (E19.post D' (hw 19 (by simp)))), ?_⟩
    have f34 : y.eval (Operand.tmp 34) = .pointer (some ⟨g, 3, none⟩) := r _ _ (E20.post D' (hw 20 (by simp)))
    exact wp_value (ox_load ho f34 (ld1 (D hinv d3))) (hK _ _ (q _ _ rfl) hinv)
  have s22 : S4 ops PP w0 a0 Q 22 := by
    refine E22.step fun o hd ho hg hw y w listed hsz hls hun hwt hdown D' R hinv K hK => ?_
    rw [ha0] at hsz
    refine .inl ⟨wanted_yes E19 hg (by rw [hsz]; decide) (r _ _ (E19.post D' (hw 19 (by simp)))), ?_⟩
    have f6 : y.eval (Operand.tmp 6) = .pointer (some ⟨g, 0, none⟩) := (R 6 (not_of (by rw [hds]; decide))).trans h6
    exact wp_value (ox_field ho f6 (fle3 w)) (hK _ _ (q _ _ rfl) hinv)
  have s23 : S4 ops PP w0 a0 Q 23 := by
    refine E23.step fun o hd ho hg hw y w listed hsz hls hun hwt hdown D' R hinv K hK => ?_
    rw [ha0] at hsz
    refine .inl ⟨wanted_yes E19 hg (by rw [hsz]; decide) (r _ _ (E19.post D' (hw 19 (by simp)))), ?_⟩
    have f36 : y.eval (Operand.tmp 36) = .pointer (some ⟨g, 4, none⟩) := r _ _ (E22.post D' (hw 22 (by simp)))
    exact wp_value (ox_load ho f36 (ld1 (D hinv d4))) (hK _ _ (q _ _ rfl) hinv)
  have s24 : S4 ops PP w0 a0 Q 24 := by
    refine E24.step fun o hd ho hg hw y w listed hsz hls hun hwt hdown D' R hinv K hK => ?_
    rw [ha0] at hsz
    refine .inl ⟨wanted_yes E19 hg (by rw [hsz]; decide) (r _ _ (E19.post D' (hw 19 (by simp)))), ?_⟩
    have f35 : y.eval (Operand.tmp 35) = .int .i64 ar := r _ _ (E21.post D' (hw 21 (by simp)))
    have f37 : y.eval (Operand.tmp 37) = .int .i64 hh := r _ _ (E23.post D' (hw 23 (by simp)))
    refine wp_enter (f := 135) (args := #[.int .i64 ar, .int .i64 0, .int .i64 hh]) ?_ (H3 w) ?_
    · rw [exec_call3 y.eval (fun args w => by simp [go_sem]) rfl ho, f35, f37]; rfl
    · rintro e w' ⟨rfl, hm⟩
      exact ⟨_, rfl, hK _ _ (q _ _ rfl) (hinv.trans hm (fun _ _ h => h) (fun _ _ h => h))⟩
  have s25 : S4 ops PP w0 a0 Q 25 := by
    refine E25.step fun o hd ho hg hw y w listed hsz hls hun hwt hdown D' R hinv K hK => ?_
    rw [ha0] at hsz
    refine .inl ⟨wanted_yes E19 hg (by rw [hsz]; decide) (r _ _ (E19.post D' (hw 19 (by simp)))), ?_⟩
    have f38 : y.eval (Operand.tmp 38) = .bool true := r _ _ (E24.post D' (hw 24 (by simp)))
    exact wp_value (ox_not ho f38) (hK _ _ (q _ _ rfl) hinv)
  have s26 : S4 ops PP w0 a0 Q 26 := by
    refine E26.step fun o hd ho hg hw y w listed hsz hls hun hwt hdown D' R hinv K hK => ?_
    rw [ha0] at hsz
    refine .inl ⟨wanted_none hg, ?_⟩
    have f33 : y.eval (Operand.tmp 33) = .bool false := r _ _ (E19.post D' (hw 19 (by simp)))
    have f39 : y.eval (Operand.tmp 39) = .bool false := r _ _ (E25.post D' (hw 25 (by simp)))
    exact wp_value (ox_pick ho f33 f39) (hK _ _ (q _ _ rfl) hinv)
  have s27 : S4 ops PP w0 a0 Q 27 := by
    refine E27.step fun o hd ho hg hw y w listed hsz hls hun hwt hdown D' R hinv K hK => ?_
    rw [ha0] at hsz
    refine .inl ⟨wanted_none hg, ?_⟩
    have f40 : y.eval (Operand.tmp 40) = .bool false := r _ _ (E26.post D' (hw 26 (by simp)))
    exact wp_value (ox_move ho f40) (hK _ _ (q _ _ rfl) hinv)
  have s28 : S4 ops PP w0 a0 Q 28 := by
    refine E28.step fun o hd ho hg hw y w listed hsz hls hun hwt hdown D' R hinv K hK => ?_
    rw [ha0] at hsz
    refine .inl ⟨wanted_yes E27 hg (by rw [hsz]; decide) (r _ _ (E27.post D' (hw 27 (by simp)))), ?_⟩
    have f6 : y.eval (Operand.tmp 6) = .pointer (some ⟨g, 0, none⟩) := (R 6 (not_of (by rw [hds]; decide))).trans h6
    exact wp_value (ox_field ho f6 (fle4 w)) (hK _ _ (q _ _ rfl) hinv)
  have s29 : S4 ops PP w0 a0 Q 29 := by
    refine E29.step fun o hd ho hg hw y w listed hsz hls hun hwt hdown D' R hinv K hK => ?_
    rw [ha0] at hsz
    refine .inl ⟨wanted_yes E27 hg (by rw [hsz]; decide) (r _ _ (E27.post D' (hw 27 (by simp)))), ?_⟩
    have f42 : y.eval (Operand.tmp 42) = .pointer (some ⟨g, 5, none⟩) := r _ _ (E28.post D' (hw 28 (by simp)))
    exact wp_value (ox_load ho f42 (ld1 (D hinv d5))) (hK _ _ (q _ _ rfl) hinv)
  have s30 : S4 ops PP w0 a0 Q 30 := by
    refine E30.step fun o hd ho hg hw y w listed hsz hls hun hwt hdown D' R hinv K hK => ?_
    rw [ha0] at hsz
    refine .inl ⟨wanted_yes E27 hg (by rw [hsz]; decide) (r _ _ (E27.post D' (hw 27 (by simp)))), ?_⟩
    have f43 : y.eval (Operand.tmp 43) = .int .i64 ck := r _ _ (E29.post D' (hw 29 (by simp)))
    refine wp_enter (f := 134) (args := #[.int .i64 ck]) ?_ (H4 w) ?_
    · rw [exec_call1 y.eval (fun args w => by simp [go_sem]) rfl ho, f43]
    · rintro e w' ⟨rfl, hm⟩
      exact ⟨_, rfl, hK _ _ (q _ _ rfl) (hinv.trans hm (fun _ _ h => h) (fun _ _ h => h))⟩
  have s31 : S4 ops PP w0 a0 Q 31 := by
    refine E31.step fun o hd ho hg hw y w listed hsz hls hun hwt hdown D' R hinv K hK => ?_
    rw [ha0] at hsz
    refine .inl ⟨wanted_yes E27 hg (by rw [hsz]; decide) (r _ _ (E27.post D' (hw 27 (by simp)))), ?_⟩
    have f44 : y.eval (Operand.tmp 44) = .bool false := r _ _ (E30.post D' (hw 30 (by simp)))
    exact wp_value (ox_not ho f44) (hK _ _ (q _ _ rfl) hinv)
  have s32 : S4 ops PP w0 a0 Q 32 := by
    refine E32.step fun o hd ho hg hw y w listed hsz hls hun hwt hdown D' R hinv K hK => ?_
    rw [ha0] at hsz
    refine .inl ⟨wanted_none hg, ?_⟩
    have f41 : y.eval (Operand.tmp 41) = .bool false := r _ _ (E27.post D' (hw 27 (by simp)))
    have f45 : y.eval (Operand.tmp 45) = .bool true := r _ _ (E31.post D' (hw 31 (by simp)))
    exact wp_value (ox_pick ho f41 f45) (hK _ _ (q _ _ rfl) hinv)
  refine region_free (Post := PP) (Inv := M0 w0) hmx (low_of hlow) (fun i o ho => by rw [ha0]; exact dst_of (by rw [hds]; decide) i o ho) (inj_of hnd) (Mod.refl _ _) ?_ ?_
  · intro i o ho
    have hi : i < 33 := by
      rw [← hN]
      rcases Nat.lt_or_ge i ops.size with h | h
      · exact h
      · rw [Array.getElem?_eq_none h] at ho; cases ho
    clear hend
    match i, hi with
    | 0, _ => exact s0 o ho
    | 1, _ => exact s1 o ho
    | 2, _ => exact s2 o ho
    | 3, _ => exact s3 o ho
    | 4, _ => exact s4 o ho
    | 5, _ => exact s5 o ho
    | 6, _ => exact s6 o ho
    | 7, _ => exact s7 o ho
    | 8, _ => exact s8 o ho
    | 9, _ => exact s9 o ho
    | 10, _ => exact s10 o ho
    | 11, _ => exact s11 o ho
    | 12, _ => exact s12 o ho
    | 13, _ => exact s13 o ho
    | 14, _ => exact s14 o ho
    | 15, _ => exact s15 o ho
    | 16, _ => exact s16 o ho
    | 17, _ => exact s17 o ho
    | 18, _ => exact s18 o ho
    | 19, _ => exact s19 o ho
    | 20, _ => exact s20 o ho
    | 21, _ => exact s21 o ho
    | 22, _ => exact s22 o ho
    | 23, _ => exact s23 o ho
    | 24, _ => exact s24 o ho
    | 25, _ => exact s25 o ho
    | 26, _ => exact s26 o ho
    | 27, _ => exact s27 o ho
    | 28, _ => exact s28 o ho
    | 29, _ => exact s29 o ho
    | 30, _ => exact s30 o ho
    | 31, _ => exact s31 o ho
    | 32, _ => exact s32 o ho
    | i + 33, hi => omega
  · intro y w listed hsz hdf hls hall hinv hp hr
    have e : y = puts a0 [(14, .pointer (some ⟨g, 0, none⟩)), (15, .int .i64 en), (16, .slice (some ⟨mb, mo, none⟩) M mcap), (17, .int .i64 (k : Int)), (18, .pointer (some ⟨mb, mo + k, none⟩)), (19, .int .i64 mk), (20, .bool false), (21, .bool false), (22, .pointer (some ⟨g, 1, none⟩)), (23, .agg #[.int .i64 os, .int .i64 od]), (24, .bool true), (25, .bool false), (26, .bool false), (27, .bool false), (28, .pointer (some ⟨g, 4, none⟩)), (29, .int .i64 hh), (30, .bool true), (31, .bool false), (32, .bool false), (33, .bool false), (34, .pointer (some ⟨g, 3, none⟩)), (35, .int .i64 ar), (36, .pointer (some ⟨g, 4, none⟩)), (37, .int .i64 hh), (38, .bool true), (39, .bool false), (40, .bool false), (41, .bool false), (42, .pointer (some ⟨g, 5, none⟩)), (43, .int .i64 ck), (44, .bool false), (45, .bool true), (46, .bool true)] := by
      refine eq_puts hsz hdf (nodup_of (D := [some 14, some 15, some 16, some 17, some 18, some 19, some 20, some 21, some 22, some 23, some 24, some 25, some 26, some 27, some 28, some 29, some 30, some 31, some 32, some 33, some 34, some 35, some 36, some 37, some 38, some 39, some 40, some 41, some 42, some 43, some 44, some 45, some 46]) rfl (by decide)) (by rw [ha0]; simp) ?_ ?_
      · intro q hq
        simp only [List.mem_cons, List.not_mem_nil, or_false] at hq
        rcases hq with rfl | rfl | rfl | rfl | rfl | rfl | rfl | rfl | rfl | rfl | rfl | rfl | rfl | rfl | rfl | rfl | rfl | rfl | rfl | rfl | rfl | rfl | rfl | rfl | rfl | rfl | rfl | rfl | rfl | rfl | rfl | rfl | rfl
        · obtain ⟨o, h1, h2, _⟩ := E0.ex; exact r _ _ (hp 0 o _ h1 h2)
        · obtain ⟨o, h1, h2, _⟩ := E1.ex; exact r _ _ (hp 1 o _ h1 h2)
        · obtain ⟨o, h1, h2, _⟩ := E2.ex; exact r _ _ (hp 2 o _ h1 h2)
        · obtain ⟨o, h1, h2, _⟩ := E3.ex; exact r _ _ (hp 3 o _ h1 h2)
        · obtain ⟨o, h1, h2, _⟩ := E4.ex; exact r _ _ (hp 4 o _ h1 h2)
        · obtain ⟨o, h1, h2, _⟩ := E5.ex; exact r _ _ (hp 5 o _ h1 h2)
        · obtain ⟨o, h1, h2, _⟩ := E6.ex; exact r _ _ (hp 6 o _ h1 h2)
        · obtain ⟨o, h1, h2, _⟩ := E7.ex; exact r _ _ (hp 7 o _ h1 h2)
        · obtain ⟨o, h1, h2, _⟩ := E8.ex; exact r _ _ (hp 8 o _ h1 h2)
        · obtain ⟨o, h1, h2, _⟩ := E9.ex; exact r _ _ (hp 9 o _ h1 h2)
        · obtain ⟨o, h1, h2, _⟩ := E10.ex; exact r _ _ (hp 10 o _ h1 h2)
        · obtain ⟨o, h1, h2, _⟩ := E11.ex; exact r _ _ (hp 11 o _ h1 h2)
        · obtain ⟨o, h1, h2, _⟩ := E12.ex; exact r _ _ (hp 12 o _ h1 h2)
        · obtain ⟨o, h1, h2, _⟩ := E13.ex; exact r _ _ (hp 13 o _ h1 h2)
        · obtain ⟨o, h1, h2, _⟩ := E14.ex; exact r _ _ (hp 14 o _ h1 h2)
        · obtain ⟨o, h1, h2, _⟩ := E15.ex; exact r _ _ (hp 15 o _ h1 h2)
        · obtain ⟨o, h1, h2, _⟩ := E16.ex; exact r _ _ (hp 16 o _ h1 h2)
        · obtain ⟨o, h1, h2, _⟩ := E17.ex; exact r _ _ (hp 17 o _ h1 h2)
        · obtain ⟨o, h1, h2, _⟩ := E18.ex; exact r _ _ (hp 18 o _ h1 h2)
        · obtain ⟨o, h1, h2, _⟩ := E19.ex; exact r _ _ (hp 19 o _ h1 h2)
        · obtain ⟨o, h1, h2, _⟩ := E20.ex; exact r _ _ (hp 20 o _ h1 h2)
        · obtain ⟨o, h1, h2, _⟩ := E21.ex; exact r _ _ (hp 21 o _ h1 h2)
        · obtain ⟨o, h1, h2, _⟩ := E22.ex; exact r _ _ (hp 22 o _ h1 h2)
        · obtain ⟨o, h1, h2, _⟩ := E23.ex; exact r _ _ (hp 23 o _ h1 h2)
        · obtain ⟨o, h1, h2, _⟩ := E24.ex; exact r _ _ (hp 24 o _ h1 h2)
        · obtain ⟨o, h1, h2, _⟩ := E25.ex; exact r _ _ (hp 25 o _ h1 h2)
        · obtain ⟨o, h1, h2, _⟩ := E26.ex; exact r _ _ (hp 26 o _ h1 h2)
        · obtain ⟨o, h1, h2, _⟩ := E27.ex; exact r _ _ (hp 27 o _ h1 h2)
        · obtain ⟨o, h1, h2, _⟩ := E28.ex; exact r _ _ (hp 28 o _ h1 h2)
        · obtain ⟨o, h1, h2, _⟩ := E29.ex; exact r _ _ (hp 29 o _ h1 h2)
        · obtain ⟨o, h1, h2, _⟩ := E30.ex; exact r _ _ (hp 30 o _ h1 h2)
        · obtain ⟨o, h1, h2, _⟩ := E31.ex; exact r _ _ (hp 31 o _ h1 h2)
        · obtain ⟨o, h1, h2, _⟩ := E32.ex; exact r _ _ (hp 32 o _ h1 h2)
      · intro t ht
        refine hr t (not_of ?_)
        rw [hds]
        simp only [List.mem_cons, List.not_mem_nil, or_false, forall_eq_or_imp, forall_eq] at ht
        simp only [List.contains_cons, List.contains_nil, Bool.or_eq_false_iff, beq_eq_false_iff_ne, ne_eq, Option.some.injEq, Bool.or_false]
        simp only [eq_comm (a := t)]
        simp [ht]
    rw [e]
    exact hend w hinv
def v45 (g mb mo M mcap k : Nat) (en os od ar hh ck mk : Int) : Nat → Value
  | 0 => .pointer (some ⟨g, 0, none⟩)
  | 1 => .int .i64 en
  | 2 => .slice (some ⟨mb, mo, none⟩) M mcap
  | 3 => .int .i64 (k : Int)
  | 4 => .pointer (some ⟨mb, mo + k, none⟩)
  | 5 => .int .i64 mk
  | 6 => .bool false
  | 7 => .bool false
  | 8 => .pointer (some ⟨g, 1, none⟩)
  | 9 => .agg #[.int .i64 os, .int .i64 od]
  | 10 => .bool true
  | 11 => .bool false
  | 12 => .bool false
  | 13 => .bool false
  | 14 => .pointer (some ⟨g, 4, none⟩)
  | 15 => .int .i64 hh
  | 16 => .bool true
  | 17 => .bool false
  | 18 => .bool false
  | 19 => .bool false
  | 20 => .pointer (some ⟨g, 3, none⟩)
  | 21 => .int .i64 ar
  | 22 => .pointer (some ⟨g, 4, none⟩)
  | 23 => .int .i64 hh
  | 24 => .bool true
  | 25 => .bool false
  | 26 => .bool false
  | 27 => .bool false
  | 28 => .pointer (some ⟨g, 5, none⟩)
  | 29 => .int .i64 ck
  | 30 => .bool true
  | 31 => .bool false
  | 32 => .bool false
  | _ => undef
set_option maxRecDepth 100000 in
set_option maxHeartbeats 4000000 in
theorem region45 {ops : Array Oper} {id : Nat} {a0 : Act} {w0 : World} {Q : Exit → Act → World → Prop} (g mb mo M mcap k : Nat) (en os od ar hh ck mk : Int)
    (EE : Ops40 ops)
    (hN : ops.size = 33) (hlow : lowB ops = true) (hds : dsts ops = [some 14, some 15, some 16, some 17, some 18, some 19, some 20, some 21, some 22, some 23, some 24, some 25, some 26, some 27, some 28, some 29, some 30, some 31, some 32, some 33, some 34, some 35, some 36, some 37, some 38, some 39, some 40, some 41, some 42, some 43, some 44, some 45, some 46]) (hnd : injB ops = true)
    (hmx : Try.prog.follows .mixedOrders = true) (ha0 : a0.tmps.size = 48) (h6 : a0.tmps.getD 6 undef = .pointer (some ⟨g, 0, none⟩)) (h1 : a0.tmps.getD 1 undef = .slice (some ⟨mb, mo, none⟩) M mcap) (h5 : a0.tmps.getD 5 undef = .int .i64 (k : Int))
    (hk : k < M) (hne : (en != mk) = false) (d0 : w0.cell? ⟨g, 0, none⟩ = some (.int .i64 en)) (d1 : w0.cell? ⟨g, 1, none⟩ = some (.int .i64 os)) (d2 : w0.cell? ⟨g, 2, none⟩ = some (.int .i64 od)) (d3 : w0.cell? ⟨g, 3, none⟩ = some (.int .i64 ar)) (d4 : w0.cell? ⟨g, 4, none⟩ = some (.int .i64 hh)) (d5 : w0.cell? ⟨g, 5, none⟩ = some (.int .i64 ck)) (dm : w0.cell? ⟨mb, mo + k, none⟩ = some (.int .i64 mk))
    (H1 : ∀ W, Calls Try.prog 117 #[.agg #[.int .i64 os, .int .i64 od]] W fun e w' => e = .returned (.bool true) ∧ Mod (fun _ => False) W w')
    (H2 : ∀ W, Calls Try.prog 134 #[.int .i64 hh] W fun e w' => e = .returned (.bool true) ∧ Mod (fun _ => False) W w')
    (H3 : ∀ W, Calls Try.prog 135 #[.int .i64 ar, .int .i64 0, .int .i64 hh] W fun e w' => e = .returned (.bool true) ∧ Mod (fun _ => False) W w')
    (H4 : ∀ W, Calls Try.prog 134 #[.int .i64 ck] W fun e w' => e = .returned (.bool true) ∧ Mod (fun _ => False) W w')
    (hend : ∀ w, Mod (fun _ => False) w0.drew w → Q .normal (puts a0 [(14, .pointer (some ⟨g, 0, none⟩)), (15, .int .i64 en), (16, .slice (some ⟨mb, mo, none⟩) M mcap), (17, .int .i64 (k : Int)), (18, .pointer (some ⟨mb, mo + k, none⟩)), (19, .int .i64 mk), (20, .bool false), (21, .bool false), (22, .pointer (some ⟨g, 1, none⟩)), (23, .agg #[.int .i64 os, .int .i64 od]), (24, .bool true), (25, .bool false), (26, .bool false), (27, .bool false), (28, .pointer (some ⟨g, 4, none⟩)), (29, .int .i64 hh), (30, .bool true), (31, .bool false), (32, .bool false), (33, .bool false), (34, .pointer (some ⟨g, 3, none⟩)), (35, .int .i64 ar), (36, .pointer (some ⟨g, 4, none⟩)), (37, .int .i64 hh), (38, .bool true), (39, .bool false), (40, .bool false), (41, .bool false), (42, .pointer (some ⟨g, 5, none⟩)), (43, .int .i64 ck), (44, .bool true), (45, .bool false), (46, .bool false)]) w) :
    (Code.region id ops true).wp Try.prog Q a0 w0 := by
  obtain ⟨E0, E1, E2, E3, E4, E5, E6, E7, E8, E9, E10, E11, E12, E13, E14, E15, E16, E17, E18, E19, E20, E21, E22, E23, E24, E25, E26, E27, E28, E29, E30, E31, E32⟩ := EE
  obtain ⟨PP, q, r⟩ : ∃ PP : Nat → Value → Prop, (∀ i v, (fun i' v => v = v45 g mb mo M mcap k en os od ar hh ck mk i') i v → PP i v) ∧ (∀ i v, PP i v → (fun i' v => v = v45 g mb mo M mcap k en os od ar hh ck mk i') i v) := ⟨(fun i' v => v = v45 g mb mo M mcap k en os od ar hh ck mk i'), fun _ _ h => h, fun _ _ h => h⟩
  have D : ∀ {W : World} {a : Addr} {v : Value}, Mod (fun _ => False) w0.drew W → w0.cell? a = some v → W.cell? a = some v := fun hW hc => hW.cell (by simpa using hc) (fun h => h)
  have s0 : S4 ops PP w0 a0 Q 0 := by
    refine E0.step fun o hd ho hg hw y w listed hsz hls hun hwt hdown D' R hinv K hK => ?_
    rw [ha0] at hsz
    refine .inl ⟨wanted_none hg, ?_⟩
    have f6 : y.eval (Operand.tmp 6) = .pointer (some ⟨g, 0, none⟩) := (R 6 (not_of (by rw [hds]; decide))).trans h6
    exact wp_value (ox_field ho f6 (fle0 w)) (hK _ _ (q _ _ rfl) hinv)
  have s1 : S4 ops PP w0 a0 Q 1 := by
    refine E1.step fun o hd ho hg hw y w listed hsz hls hun hwt hdown D' R hinv K hK => ?_
    rw [ha0] at hsz
    refine .inl ⟨wanted_none hg, ?_⟩
    have f14 : y.eval (Operand.tmp 14) = .pointer (some ⟨g, 0, none⟩) := r _ _ (E0.post D' (hw 0 (by simp)))
    exact wp_value (ox_load ho f14 (ld1 (D hinv d0))) (hK _ _ (q _ _ rfl) hinv)
  have s2 : S4 ops PP w0 a0 Q 2 := by
    refine E2.step fun o hd ho hg hw y w listed hsz hls hun hwt hdown D' R hinv K hK => ?_
    rw [ha0] at hsz
    refine .inl ⟨wanted_none hg, ?_⟩
    have f1 : y.eval (Operand.tmp 1) = .slice (some ⟨mb, mo, none⟩) M mcap := (R 1 (not_of (by rw [hds]; decide))).trans h1
    exact wp_value (ox_move ho f1) (hK _ _ (q _ _ rfl) hinv)
  have s3 : S4 ops PP w0 a0 Q 3 := by
    refine E3.step fun o hd ho hg hw y w listed hsz hls hun hwt hdown D' R hinv K hK => ?_
    rw [ha0] at hsz
    refine .inl ⟨wanted_none hg, ?_⟩
    have f5 : y.eval (Operand.tmp 5) = .int .i64 (k : Int) := (R 5 (not_of (by rw [hds]; decide))).trans h5
    exact wp_value (ox_move ho f5) (hK _ _ (q _ _ rfl) hinv)
  have s4 : S4 ops PP w0 a0 Q 4 := by
    refine E4.step fun o hd ho hg hw y w listed hsz hls hun hwt hdown D' R hinv K hK => ?_
    rw [ha0] at hsz
    refine .inl ⟨wanted_none hg, ?_⟩
    have f16 : y.eval (Operand.tmp 16) = .slice (some ⟨mb, mo, none⟩) M mcap := r _ _ (E2.post D' (hw 2 (by simp)))
    have f17 : y.eval (Operand.tmp 17) = .int .i64 (k : Int) := r _ _ (E3.post D' (hw 3 (by simp)))
    exact wp_value (ox_index ho f16 f17 (idx1 hk w)) (hK _ _ (q _ _ rfl) hinv)
  have s5 : S4 ops PP w0 a0 Q 5 := by
    refine E5.step fun o hd ho hg hw y w listed hsz hls hun hwt hdown D' R hinv K hK => ?_
    rw [ha0] at hsz
    refine .inl ⟨wanted_none hg, ?_⟩
    have f18 : y.eval (Operand.tmp 18) = .pointer (some ⟨mb, mo + k, none⟩) := r _ _ (E4.post D' (hw 4 (by simp)))
    exact wp_value (ox_load ho f18 (ld1 (D hinv dm))) (hK _ _ (q _ _ rfl) hinv)
  have s6 : S4 ops PP w0 a0 Q 6 := by
    refine E6.step fun o hd ho hg hw y w listed hsz hls hun hwt hdown D' R hinv K hK => ?_
    rw [ha0] at hsz
    refine .inl ⟨wanted_none hg, ?_⟩
    have f15 : y.eval (Operand.tmp 15) = .int .i64 en := r _ _ (E1.post D' (hw 1 (by simp)))
    have f19 : y.eval (Operand.tmp 19) = .int .i64 mk := r _ _ (E5.post D' (hw 5 (by simp)))
    exact wp_value (ox_neq ho f15 f19 hne) (hK _ _ (q _ _ rfl) hinv)
  have s7 : S4 ops PP w0 a0 Q 7 := by
    refine E7.step fun o hd ho hg hw y w listed hsz hls hun hwt hdown D' R hinv K hK => ?_
    rw [ha0] at hsz
    refine .inl ⟨wanted_none hg, ?_⟩
    have f20 : y.eval (Operand.tmp 20) = .bool false := r _ _ (E6.post D' (hw 6 (by simp)))
    exact wp_value (ox_move ho f20) (hK _ _ (q _ _ rfl) hinv)
  have s8 : S4 ops PP w0 a0 Q 8 := by
    refine E8.step fun o hd ho hg hw y w listed hsz hls hun hwt hdown D' R hinv K hK => ?_
    rw [ha0] at hsz
    refine .inl ⟨wanted_yes E7 hg (by rw [hsz]; decide) (r _ _ (E7.post D' (hw 7 (by simp)))), ?_⟩
    have f6 : y.eval (Operand.tmp 6) = .pointer (some ⟨g, 0, none⟩) := (R 6 (not_of (by rw [hds]; decide))).trans h6
    exact wp_value (ox_field ho f6 (fle1 w)) (hK _ _ (q _ _ rfl) hinv)
  have s9 : S4 ops PP w0 a0 Q 9 := by
    refine E9.step fun o hd ho hg hw y w listed hsz hls hun hwt hdown D' R hinv K hK => ?_
    rw [ha0] at hsz
    refine .inl ⟨wanted_yes E7 hg (by rw [hsz]; decide) (r _ _ (E7.post D' (hw 7 (by simp)))), ?_⟩
    have f22 : y.eval (Operand.tmp 22) = .pointer (some ⟨g, 1, none⟩) := r _ _ (E8.post D' (hw 8 (by simp)))
    exact wp_value (ox_load ho f22 (ld2 (D hinv d1) (D hinv d2))) (hK _ _ (q _ _ rfl) hinv)
  have s10 : S4 ops PP w0 a0 Q 10 := by
    refine E10.step fun o hd ho hg hw y w listed hsz hls hun hwt hdown D' R hinv K hK => ?_
    rw [ha0] at hsz
    refine .inl ⟨wanted_yes E7 hg (by rw [hsz]; decide) (r _ _ (E7.post D' (hw 7 (by simp)))), ?_⟩
    have f23 : y.eval (Operand.tmp 23) = .agg #[.int .i64 os, .int .i64 od] := r _ _ (E9.post D' (hw 9 (by simp)))
    refine wp_enter (f := 117) (args := #[.agg #[.int .i64 os, .int .i64 od]]) ?_ (H1 w) ?_
    · rw [exec_call1 y.eval (fun args w => by simp [go_sem]) rfl ho, f23]
    · rintro e w' ⟨rfl, hm⟩
      exact ⟨_, rfl, hK _ _ (q _ _ rfl) (hinv.trans hm (fun _ _ h => h) (fun _ _ h => h))⟩
  have s11 : S4 ops PP w0 a0 Q 11 := by
    refine E11.step fun o hd ho hg hw y w listed hsz hls hun hwt hdown D' R hinv K hK => ?_
    rw [ha0] at hsz
    refine .inl ⟨wanted_yes E7 hg (by rw [hsz]; decide) (r _ _ (E7.post D' (hw 7 (by simp)))), ?_⟩
    have f24 : y.eval (Operand.tmp 24) = .bool true := r _ _ (E10.post D' (hw 10 (by simp)))
    exact wp_value (ox_not ho f24) (hK _ _ (q _ _ rfl) hinv)
  have s12 : S4 ops PP w0 a0 Q 12 := by
    refine E12.step fun o hd ho hg hw y w listed hsz hls hun hwt hdown D' R hinv K hK => ?_
    rw [ha0] at hsz
    refine .inl ⟨wanted_none hg, ?_⟩
    have f21 : y.eval (Operand.tmp 21) = .bool false := r _ _ (E7.post D' (hw 7 (by simp)))
    have f25 : y.eval (Operand.tmp 25) = .bool false := r _ _ (E11.post D' (hw 11 (by simp)))
    exact wp_value (ox_pick ho f21 f25) (hK _ _ (q _ _ rfl) hinv)
  have s13 : S4 ops PP w0 a0 Q 13 := by
    refine E13.step fun o hd ho hg hw y w listed hsz hls hun hwt hdown D' R hinv K hK => ?_
    rw [ha0] at hsz
    refine .inl ⟨wanted_none hg, ?_⟩
    have f26 : y.eval (Operand.tmp 26) = .bool false := r _ _ (E12.post D' (hw 12 (by simp)))
    exact wp_value (ox_move ho f26) (hK _ _ (q _ _ rfl) hinv)
  have s14 : S4 ops PP w0 a0 Q 14 := by
    refine E14.step fun o hd ho hg hw y w listed hsz hls hun hwt hdown D' R hinv K hK => ?_
    rw [ha0] at hsz
    refine .inl ⟨wanted_yes E13 hg (by rw [hsz]; decide) (r _ _ (E13.post D' (hw 13 (by simp)))), ?_⟩
    have f6 : y.eval (Operand.tmp 6) = .pointer (some ⟨g, 0, none⟩) := (R 6 (not_of (by rw [hds]; decide))).trans h6
    exact wp_value (ox_field ho f6 (fle3 w)) (hK _ _ (q _ _ rfl) hinv)
  have s15 : S4 ops PP w0 a0 Q 15 := by
    refine E15.step fun o hd ho hg hw y w listed hsz hls hun hwt hdown D' R hinv K hK => ?_
    rw [ha0] at hsz
    refine .inl ⟨wanted_yes E13 hg (by rw [hsz]; decide) (r _ _ (E13.post D' (hw 13 (by simp)))), ?_⟩
    have f28 : y.eval (Operand.tmp 28) = .pointer (some ⟨g, 4, none⟩) := r _ _ (E14.post D' (hw 14 (by simp)))
    exact wp_value (ox_load ho f28 (ld1 (D hinv d4))) (hK _ _ (q _ _ rfl) hinv)
  have s16 : S4 ops PP w0 a0 Q 16 := by
    refine E16.step fun o hd ho hg hw y w listed hsz hls hun hwt hdown D' R hinv K hK => ?_
    rw [ha0] at hsz
    refine .inl ⟨wanted_yes E13 hg (by rw [hsz]; decide) (r _ _ (E13.post D' (hw 13 (by simp)))), ?_⟩
    have f29 : y.eval (Operand.tmp 29) = .int .i64 hh := r _ _ (E15.post D' (hw 15 (by simp)))
    refine wp_enter (f := 134) (args := #[.int .i64 hh]) ?_ (H2 w) ?_
    · rw [exec_call1 y.eval (fun args w => by simp [go_sem]) rfl ho, f29]
    · rintro e w' ⟨rfl, hm⟩
      exact ⟨_, rfl, hK _ _ (q _ _ rfl) (hinv.trans hm (fun _ _ h => h) (fun _ _ h => h))⟩
  have s17 : S4 ops PP w0 a0 Q 17 := by
    refine E17.step fun o hd ho hg hw y w listed hsz hls hun hwt hdown D' R hinv K hK => ?_
    rw [ha0] at hsz
    refine .inl ⟨wanted_yes E13 hg (by rw [hsz]; decide) (r _ _ (E13.post D' (hw 13 (by simp)))), ?_⟩
    have f30 : y.eval (Operand.tmp 30) = .bool true := r _ _ (E16.post D' (hw 16 (by simp)))
    exact wp_value (ox_not ho f30) (hK _ _ (q _ _ rfl) hinv)
  have s18 : S4 ops PP w0 a0 Q 18 := by
    refine E18.step fun o hd ho hg hw y w listed hsz hls hun hwt hdown D' R hinv K hK => ?_
    rw [ha0] at hsz
    refine .inl ⟨wanted_none hg, ?_⟩
    have f27 : y.eval (Operand.tmp 27) = .bool false := r _ _ (E13.post D' (hw 13 (by simp)))
    have f31 : y.eval (Operand.tmp 31) = .bool false := r _ _ (E17.post D' (hw 17 (by simp)))
    exact wp_value (ox_pick ho f27 f31) (hK _ _ (q _ _ rfl) hinv)
  have s19 : S4 ops PP w0 a0 Q 19 := by
    refine E19.step fun o hd ho hg hw y w listed hsz hls hun hwt hdown D' R hinv K hK => ?_
    rw [ha0] at hsz
    refine .inl ⟨wanted_none hg, ?_⟩
    have f32 : y.eval (Operand.tmp 32) = .bool false := r _ _ (E18.post D' (hw 18 (by simp)))
    exact wp_value (ox_move ho f32) (hK _ _ (q _ _ rfl) hinv)
  have s20 : S4 ops PP w0 a0 Q 20 := by
    refine E20.step fun o hd ho hg hw y w listed hsz hls hun hwt hdown D' R hinv K hK => ?_
    rw [ha0] at hsz
    refine .inl ⟨wanted_yes E19 hg (by rw [hsz]; decide) (r _ _ (E19.post D' (hw 19 (by simp)))), ?_⟩
    have f6 : y.eval (Operand.tmp 6) = .pointer (some ⟨g, 0, none⟩) := (R 6 (not_of (by rw [hds]; decide))).trans h6
    exact wp_value (ox_field ho f6 (fle2 w)) (hK _ _ (q _ _ rfl) hinv)
  have s21 : S4 ops PP w0 a0 Q 21 := by
    refine E21.step fun o hd ho hg hw y w listed hsz hls hun hwt hdown D' R hinv K hK => ?_
    rw [ha0] at hsz
    refine .inl ⟨wanted_yes E19 hg (by rw [hsz]; decide) (r _ _ (E19.post D' (hw 19 (by simp)))), ?_⟩
    have f34 : y.eval (Operand.tmp 34) = .pointer (some ⟨g, 3, none⟩) := r _ _ (E20.post D' (hw 20 (by simp)))
    exact wp_value (ox_load ho f34 (ld1 (D hinv d3))) (hK _ _ (q _ _ rfl) hinv)
  have s22 : S4 ops PP w0 a0 Q 22 := by
    refine E22.step fun o hd ho hg hw y w listed hsz hls hun hwt hdown D' R hinv K hK => ?_
    rw [ha0] at hsz
    refine .inl ⟨wanted_yes E19 hg (by rw [hsz]; decide) (r _ _ (E19.post D' (hw 19 (by simp)))), ?_⟩
    have f6 : y.eval (Operand.tmp 6) = .pointer (some ⟨g, 0, none⟩) := (R 6 (not_of (by rw [hds]; decide))).trans h6
    exact wp_value (ox_field ho f6 (fle3 w)) (hK _ _ (q _ _ rfl) hinv)
  have s23 : S4 ops PP w0 a0 Q 23 := by
    refine E23.step fun o hd ho hg hw y w listed hsz hls hun hwt hdown D' R hinv K hK => ?_
    rw [ha0] at hsz
    refine .inl ⟨wanted_yes E19 hg (by rw [hsz]; decide) (r _ _ (E19.post D' (hw 19 (by simp)))), ?_⟩
    have f36 : y.eval (Operand.tmp 36) = .pointer (some ⟨g, 4, none⟩) := r _ _ (E22.post D' (hw 22 (by simp)))
    exact wp_value (ox_load ho f36 (ld1 (D hinv d4))) (hK _ _ (q _ _ rfl) hinv)
  have s24 : S4 ops PP w0 a0 Q 24 := by
    refine E24.step fun o hd ho hg hw y w listed hsz hls hun hwt hdown D' R hinv K hK => ?_
    rw [ha0] at hsz
    refine .inl ⟨wanted_yes E19 hg (by rw [hsz]; decide) (r _ _ (E19.post D' (hw 19 (by simp)))), ?_⟩
    have f35 : y.eval (Operand.tmp 35) = .int .i64 ar := r _ _ (E21.post D' (hw 21 (by simp)))
    have f37 : y.eval (Operand.tmp 37) = .int .i64 hh := r _ _ (E23.post D' (hw 23 (by simp)))
    refine wp_enter (f := 135) (args := #[.int .i64 ar, .int .i64 0, .int .i64 hh]) ?_ (H3 w) ?_
    · rw [exec_call3 y.eval (fun args w => by simp [go_sem]) rfl ho, f35, f37]; rfl
    · rintro e w' ⟨rfl, hm⟩
      exact ⟨_, rfl, hK _ _ (q _ _ rfl) (hinv.trans hm (fun _ _ h => h) (fun _ _ h => h))⟩
  have s25 : S4 ops PP w0 a0 Q 25 := by
    refine E25.step fun o hd ho hg hw y w listed hsz hls hun hwt hdown D' R hinv K hK => ?_
    rw [ha0] at hsz
    refine .inl ⟨wanted_yes E19 hg (by rw [hsz]; decide) (r _ _ (E19.post D' (hw 19 (by simp)))), ?_⟩
    have f38 : y.eval (Operand.tmp 38) = .bool true := r _ _ (E24.post D' (hw 24 (by simp)))
    exact wp_value (ox_not ho f38) (hK _ _ (q _ _ rfl) hinv)
  have s26 : S4 ops PP w0 a0 Q 26 := by
    refine E26.step fun o hd ho hg hw y w listed hsz hls hun hwt hdown D' R hinv K hK => ?_
    rw [ha0] at hsz
    refine .inl ⟨wanted_none hg, ?_⟩
    have f33 : y.eval (Operand.tmp 33) = .bool false := r _ _ (E19.post D' (hw 19 (by simp)))
    have f39 : y.eval (Operand.tmp 39) = .bool false := r _ _ (E25.post D' (hw 25 (by simp)))
    exact wp_value (ox_pick ho f33 f39) (hK _ _ (q _ _ rfl) hinv)
  have s27 : S4 ops PP w0 a0 Q 27 := by
    refine E27.step fun o hd ho hg hw y w listed hsz hls hun hwt hdown D' R hinv K hK => ?_
    rw [ha0] at hsz
    refine .inl ⟨wanted_none hg, ?_⟩
    have f40 : y.eval (Operand.tmp 40) = .bool false := r _ _ (E26.post D' (hw 26 (by simp)))
    exact wp_value (ox_move ho f40) (hK _ _ (q _ _ rfl) hinv)
  have s28 : S4 ops PP w0 a0 Q 28 := by
    refine E28.step fun o hd ho hg hw y w listed hsz hls hun hwt hdown D' R hinv K hK => ?_
    rw [ha0] at hsz
    refine .inl ⟨wanted_yes E27 hg (by rw [hsz]; decide) (r _ _ (E27.post D' (hw 27 (by simp)))), ?_⟩
    have f6 : y.eval (Operand.tmp 6) = .pointer (some ⟨g, 0, none⟩) := (R 6 (not_of (by rw [hds]; decide))).trans h6
    exact wp_value (ox_field ho f6 (fle4 w)) (hK _ _ (q _ _ rfl) hinv)
  have s29 : S4 ops PP w0 a0 Q 29 := by
    refine E29.step fun o hd ho hg hw y w listed hsz hls hun hwt hdown D' R hinv K hK => ?_
    rw [ha0] at hsz
    refine .inl ⟨wanted_yes E27 hg (by rw [hsz]; decide) (r _ _ (E27.post D' (hw 27 (by simp)))), ?_⟩
    have f42 : y.eval (Operand.tmp 42) = .pointer (some ⟨g, 5, none⟩) := r _ _ (E28.post D' (hw 28 (by simp)))
    exact wp_value (ox_load ho f42 (ld1 (D hinv d5))) (hK _ _ (q _ _ rfl) hinv)
  have s30 : S4 ops PP w0 a0 Q 30 := by
    refine E30.step fun o hd ho hg hw y w listed hsz hls hun hwt hdown D' R hinv K hK => ?_
    rw [ha0] at hsz
    refine .inl ⟨wanted_yes E27 hg (by rw [hsz]; decide) (r _ _ (E27.post D' (hw 27 (by simp)))), ?_⟩
    have f43 : y.eval (Operand.tmp 43) = .int .i64 ck := r _ _ (E29.post D' (hw 29 (by simp)))
    refine wp_enter (f := 134) (args := #[.int .i64 ck]) ?_ (H4 w) ?_
    · rw [exec_call1 y.eval (fun args w => by simp [go_sem]) rfl ho, f43]
    · rintro e w' ⟨rfl, hm⟩
      exact ⟨_, rfl, hK _ _ (q _ _ rfl) (hinv.trans hm (fun _ _ h => h) (fun _ _ h => h))⟩
  have s31 : S4 ops PP w0 a0 Q 31 := by
    refine E31.step fun o hd ho hg hw y w listed hsz hls hun hwt hdown D' R hinv K hK => ?_
    rw [ha0] at hsz
    refine .inl ⟨wanted_yes E27 hg (by rw [hsz]; decide) (r _ _ (E27.post D' (hw 27 (by simp)))), ?_⟩
    have f44 : y.eval (Operand.tmp 44) = .bool true := r _ _ (E30.post D' (hw 30 (by simp)))
    exact wp_value (ox_not ho f44) (hK _ _ (q _ _ rfl) hinv)
  have s32 : S4 ops PP w0 a0 Q 32 := by
    refine E32.step fun o hd ho hg hw y w listed hsz hls hun hwt hdown D' R hinv K hK => ?_
    rw [ha0] at hsz
    refine .inl ⟨wanted_none hg, ?_⟩
    have f41 : y.eval (Operand.tmp 41) = .bool false := r _ _ (E27.post D' (hw 27 (by simp)))
    have f45 : y.eval (Operand.tmp 45) = .bool false := r _ _ (E31.post D' (hw 31 (by simp)))
    exact wp_value (ox_pick ho f41 f45) (hK _ _ (q _ _ rfl) hinv)
  refine region_free (Post := PP) (Inv := M0 w0) hmx (low_of hlow) (fun i o ho => by rw [ha0]; exact dst_of (by rw [hds]; decide) i o ho) (inj_of hnd) (Mod.refl _ _) ?_ ?_
  · intro i o ho
    have hi : i < 33 := by
      rw [← hN]
      rcases Nat.lt_or_ge i ops.size with h | h
      · exact h
      · rw [Array.getElem?_eq_none h] at ho; cases ho
    clear hend
    match i, hi with
    | 0, _ => exact s0 o ho
    | 1, _ => exact s1 o ho
    | 2, _ => exact s2 o ho
    | 3, _ => exact s3 o ho
    | 4, _ => exact s4 o ho
    | 5, _ => exact s5 o ho
    | 6, _ => exact s6 o ho
    | 7, _ => exact s7 o ho
    | 8, _ => exact s8 o ho
    | 9, _ => exact s9 o ho
    | 10, _ => exact s10 o ho
    | 11, _ => exact s11 o ho
    | 12, _ => exact s12 o ho
    | 13, _ => exact s13 o ho
    | 14, _ => exact s14 o ho
    | 15, _ => exact s15 o ho
    | 16, _ => exact s16 o ho
    | 17, _ => exact s17 o ho
    | 18, _ => exact s18 o ho
    | 19, _ => exact s19 o ho
    | 20, _ => exact s20 o ho
    | 21, _ => exact s21 o ho
    | 22, _ => exact s22 o ho
    | 23, _ => exact s23 o ho
    | 24, _ => exact s24 o ho
    | 25, _ => exact s25 o ho
    | 26, _ => exact s26 o ho
    | 27, _ => exact s27 o ho
    | 28, _ => exact s28 o ho
    | 29, _ => exact s29 o ho
    | 30, _ => exact s30 o ho
    | 31, _ => exact s31 o ho
    | 32, _ => exact s32 o ho
    | i + 33, hi => omega
  · intro y w listed hsz hdf hls hall hinv hp hr
    have e : y = puts a0 [(14, .pointer (some ⟨g, 0, none⟩)), (15, .int .i64 en), (16, .slice (some ⟨mb, mo, none⟩) M mcap), (17, .int .i64 (k : Int)), (18, .pointer (some ⟨mb, mo + k, none⟩)), (19, .int .i64 mk), (20, .bool false), (21, .bool false), (22, .pointer (some ⟨g, 1, none⟩)), (23, .agg #[.int .i64 os, .int .i64 od]), (24, .bool true), (25, .bool false), (26, .bool false), (27, .bool false), (28, .pointer (some ⟨g, 4, none⟩)), (29, .int .i64 hh), (30, .bool true), (31, .bool false), (32, .bool false), (33, .bool false), (34, .pointer (some ⟨g, 3, none⟩)), (35, .int .i64 ar), (36, .pointer (some ⟨g, 4, none⟩)), (37, .int .i64 hh), (38, .bool true), (39, .bool false), (40, .bool false), (41, .bool false), (42, .pointer (some ⟨g, 5, none⟩)), (43, .int .i64 ck), (44, .bool true), (45, .bool false), (46, .bool false)] := by
      refine eq_puts hsz hdf (nodup_of (D := [some 14, some 15, some 16, some 17, some 18, some 19, some 20, some 21, some 22, some 23, some 24, some 25, some 26, some 27, some 28, some 29, some 30, some 31, some 32, some 33, some 34, some 35, some 36, some 37, some 38, some 39, some 40, some 41, some 42, some 43, some 44, some 45, some 46]) rfl (by decide)) (by rw [ha0]; simp) ?_ ?_
      · intro q hq
        simp only [List.mem_cons, List.not_mem_nil, or_false] at hq
        rcases hq with rfl | rfl | rfl | rfl | rfl | rfl | rfl | rfl | rfl | rfl | rfl | rfl | rfl | rfl | rfl | rfl | rfl | rfl | rfl | rfl | rfl | rfl | rfl | rfl | rfl | rfl | rfl | rfl | rfl | rfl | rfl | rfl | rfl
        · obtain ⟨o, h1, h2, _⟩ := E0.ex; exact r _ _ (hp 0 o _ h1 h2)
        · obtain ⟨o, h1, h2, _⟩ := E1.ex; exact r _ _ (hp 1 o _ h1 h2)
        · obtain ⟨o, h1, h2, _⟩ := E2.ex; exact r _ _ (hp 2 o _ h1 h2)
        · obtain ⟨o, h1, h2, _⟩ := E3.ex; exact r _ _ (hp 3 o _ h1 h2)
        · obtain ⟨o, h1, h2, _⟩ := E4.ex; exact r _ _ (hp 4 o _ h1 h2)
        · obtain ⟨o, h1, h2, _⟩ := E5.ex; exact r _ _ (hp 5 o _ h1 h2)
        · obtain ⟨o, h1, h2, _⟩ := E6.ex; exact r _ _ (hp 6 o _ h1 h2)
        · obtain ⟨o, h1, h2, _⟩ := E7.ex; exact r _ _ (hp 7 o _ h1 h2)
        · obtain ⟨o, h1, h2, _⟩ := E8.ex; exact r _ _ (hp 8 o _ h1 h2)
        · obtain ⟨o, h1, h2, _⟩ := E9.ex; exact r _ _ (hp 9 o _ h1 h2)
        · obtain ⟨o, h1, h2, _⟩ := E10.ex; exact r _ _ (hp 10 o _ h1 h2)
        · obtain ⟨o, h1, h2, _⟩ := E11.ex; exact r _ _ (hp 11 o _ h1 h2)
        · obtain ⟨o, h1, h2, _⟩ := E12.ex; exact r _ _ (hp 12 o _ h1 h2)
        · obtain ⟨o, h1, h2, _⟩ := E13.ex; exact r _ _ (hp 13 o _ h1 h2)
        · obtain ⟨o, h1, h2, _⟩ := E14.ex; exact r _ _ (hp 14 o _ h1 h2)
        · obtain ⟨o, h1, h2, _⟩ := E15.ex; exact r _ _ (hp 15 o _ h1 h2)
        · obtain ⟨o, h1, h2, _⟩ := E16.ex; exact r _ _ (hp 16 o _ h1 h2)
        · obtain ⟨o, h1, h2, _⟩ := E17.ex; exact r _ _ (hp 17 o _ h1 h2)
        · obtain ⟨o, h1, h2, _⟩ := E18.ex; exact r _ _ (hp 18 o _ h1 h2)
        · obtain ⟨o, h1, h2, _⟩ := E19.ex; exact r _ _ (hp 19 o _ h1 h2)
        · obtain ⟨o, h1, h2, _⟩ := E20.ex; exact r _ _ (hp 20 o _ h1 h2)
        · obtain ⟨o, h1, h2, _⟩ := E21.ex; exact r _ _ (hp 21 o _ h1 h2)
        · obtain ⟨o, h1, h2, _⟩ := E22.ex; exact r _ _ (hp 22 o _ h1 h2)
        · obtain ⟨o, h1, h2, _⟩ := E23.ex; exact r _ _ (hp 23 o _ h1 h2)
        · obtain ⟨o, h1, h2, _⟩ := E24.ex; exact r _ _ (hp 24 o _ h1 h2)
        · obtain ⟨o, h1, h2, _⟩ := E25.ex; exact r _ _ (hp 25 o _ h1 h2)
        · obtain ⟨o, h1, h2, _⟩ := E26.ex; exact r _ _ (hp 26 o _ h1 h2)
        · obtain ⟨o, h1, h2, _⟩ := E27.ex; exact r _ _ (hp 27 o _ h1 h2)
        · obtain ⟨o, h1, h2, _⟩ := E28.ex; exact r _ _ (hp 28 o _ h1 h2)
        · obtain ⟨o, h1, h2, _⟩ := E29.ex; exact r _ _ (hp 29 o _ h1 h2)
        · obtain ⟨o, h1, h2, _⟩ := E30.ex; exact r _ _ (hp 30 o _ h1 h2)
        · obtain ⟨o, h1, h2, _⟩ := E31.ex; exact r _ _ (hp 31 o _ h1 h2)
        · obtain ⟨o, h1, h2, _⟩ := E32.ex; exact r _ _ (hp 32 o _ h1 h2)
      · intro t ht
        refine hr t (not_of ?_)
        rw [hds]
        simp only [List.mem_cons, List.not_mem_nil, or_false, forall_eq_or_imp, forall_eq] at ht
        simp only [List.contains_cons, List.contains_nil, Bool.or_eq_false_iff, beq_eq_false_iff_ne, ne_eq, Option.some.injEq, Bool.or_false]
        simp only [eq_comm (a := t)]
        simp [ht]
    rw [e]
    exact hend w hinv
end Go.Proofs.Ytajhpnfpjickbaa
