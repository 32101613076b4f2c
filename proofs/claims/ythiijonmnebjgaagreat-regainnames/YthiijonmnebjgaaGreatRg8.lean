/- The statement of the document's Charts that draws its order, in its three cases. Conditions: what is said of the slots that it reads, and of the cells. -/
import Derived.Test.YthiijonmnebjgaaGreatFrx
import Derived.Test.YthiijonmnebjgaaGreatRc
namespace Go.Proofs.YthiijonmnebjgaaGreat
open Go.RowKit
theorem idx4 {b off n cap j : Nat} (hj : j < n) (w : World) : (Instr.indexAt 119 (.slice (some ⟨b, off, none⟩) n cap) (.int .i64 (j : Int))).run Tryz.prog w = .ok (.pointer (some ⟨b, off + j * 4, none⟩)) w := by
  have h1 : (j : Int) < (n : Int) := by omega
  simp [go_sem, h1]
theorem fld0 {b o : Nat} (w : World) : (Instr.fieldAt 147 (.pointer (some ⟨b, o, none⟩)) 0).run Tryz.prog w = .ok (.pointer (some ⟨b, o, none⟩)) w := by
  simp [go_sem]
theorem ld4 {b o : Nat} {p0 p1 p2 p3 : Int} {w : World} (h0 : w.cell? ⟨b, o, none⟩ = some (.int .i64 p0)) (h1 : w.cell? ⟨b, o + 1, none⟩ = some (.int .i64 p1)) (h2 : w.cell? ⟨b, o + 2, none⟩ = some (.int .i64 p2)) (h3 : w.cell? ⟨b, o + 3, none⟩ = some (.int .i64 p3)) :
    (Instr.loadAt 147 (.pointer (some ⟨b, o, none⟩))).run Tryz.prog w = .ok (.agg #[.int .i64 p0, .int .i64 p1, .int .i64 p2, .int .i64 p3]) w := by
  simp [go_sem, h0, h1, h2, h3]
theorem ld1 {b o : Nat} {p0 : Int} {w : World} (h0 : w.cell? ⟨b, o, none⟩ = some (.int .i64 p0)) : (Instr.loadAt 3 (.pointer (some ⟨b, o, none⟩))).run Tryz.prog w = .ok (.int .i64 p0) w := by
  simp [go_sem, h0]
section
variable {o : Oper} {w : World} {ρ : Operand → Value} {x y : Operand}
theorem ox_gtr0 (ho : o.op = .binOp .gtr 3 x (.const (.int .i64 0)) 3) (hc : ∀ v, ρ (.const v) = v) {c : Int} (hx : ρ x = .int .i64 c) {d : Bool} (hd : decide (0 < c) = d) : (execOp ρ o).run Tryz.prog w = .ok (.value (.bool d)) w := by
  subst hd
  simp [execOp, ho, hx, hc, go_sem]
theorem ox_sub1 (ho : o.op = .binOp .sub 3 x (.const (.int .i64 1)) 3) (hc : ∀ v, ρ (.const v) = v) {c d : Int} (hx : ρ x = .int .i64 c) (hd : IntKind.i64.wrap (c - 1) = d) : (execOp ρ o).run Tryz.prog w = .ok (.value (.int .i64 d)) w := by
  subst hd
  simp [execOp, ho, hx, hc, go_sem]
theorem ox_leq (ho : o.op = .binOp .leq 3 x y 3) {c d : Int} (hx : ρ x = .int .i64 c) (hy : ρ y = .int .i64 d) {e : Bool} (he : decide (c ≤ d) = e) : (execOp ρ o).run Tryz.prog w = .ok (.value (.bool e)) w := by
  subst he
  simp [execOp, ho, hx, hy, go_sem]
end
def v8f (b off n cap j : Nat) (p : Pl) : Nat → Value
  | 0 => .slice (some ⟨b, off, none⟩) n cap
  | 1 => .int .i64 (j : Int)
  | 2 => .pointer (some ⟨b, off + j * 4, none⟩)
  | 3 => .agg #[.int .i64 p.ring, .int .i64 p.ps, .int .i64 p.pr, .int .i64 p.mb]
  | 4 => .bool false
  | 5 => .bool true
  | 6 => .bool true
  | 23 => .bool true
  | _ => undef
set_option maxRecDepth 100000 in
set_option maxHeartbeats 4000000 in
theorem region8f {ops : Array Oper} {id : Nat} {a0 : Act} {w0 : World} {Q : Exit → Act → World → Prop} (b off n cap j : Nat) (p : Pl)
    (E0 : Is ops 0 (some 20) (Op.move (Operand.tmp 0)) none [])
    (E1 : Is ops 1 (some 21) (Op.move (Operand.tmp 5)) none [])
    (E2 : Is ops 2 (some 22) (Op.indexAddr 119 (Operand.tmp 20) (Operand.tmp 21)) none [0, 1])
    (E3 : Is ops 3 (some 23) (Op.load 147 (Operand.tmp 22)) none [2])
    (E4 : Is ops 4 (some 24) (Op.call { callee := Callee.value (Operand.func 126), args := #[Operand.tmp 23], argTypes := #[147] }) none [3])
    (E5 : Is ops 5 (some 25) (Op.unOp UnOp.not 4 (Operand.tmp 24)) none [4])
    (E6 : Is ops 6 (some 26) (Op.move (Operand.tmp 25)) none [4, 5])
    (E7 : Is ops 7 (some 27) (Op.move (Operand.tmp 5)) (some (6, false)) [6])
    (E8 : Is ops 8 (some 28) (Op.binOp BinOp.gtr 3 (Operand.tmp 27) (Operand.const (Value.int IntKind.i64 0)) 3) (some (6, false)) [6, 7])
    (E9 : Is ops 9 (some 29) (Op.move (Operand.tmp 28)) (some (6, false)) [6, 8])
    (E10 : Is ops 10 (some 30) (Op.move (Operand.tmp 0)) (some (9, true)) [9])
    (E11 : Is ops 11 (some 31) (Op.move (Operand.tmp 5)) (some (9, true)) [9])
    (E12 : Is ops 12 (some 32) (Op.indexAddr 119 (Operand.tmp 30) (Operand.tmp 31)) (some (9, true)) [9, 10, 11])
    (E13 : Is ops 13 (some 33) (Op.fieldAddr 147 (Operand.tmp 32) 0) (some (9, true)) [9, 12])
    (E14 : Is ops 14 (some 34) (Op.load 3 (Operand.tmp 33)) (some (9, true)) [9, 13])
    (E15 : Is ops 15 (some 35) (Op.move (Operand.tmp 0)) (some (9, true)) [9])
    (E16 : Is ops 16 (some 36) (Op.move (Operand.tmp 5)) (some (9, true)) [9])
    (E17 : Is ops 17 (some 37) (Op.binOp BinOp.sub 3 (Operand.tmp 36) (Operand.const (Value.int IntKind.i64 1)) 3) (some (9, true)) [9, 16])
    (E18 : Is ops 18 (some 38) (Op.indexAddr 119 (Operand.tmp 35) (Operand.tmp 37)) (some (9, true)) [9, 15, 17])
    (E19 : Is ops 19 (some 39) (Op.fieldAddr 147 (Operand.tmp 38) 0) (some (9, true)) [9, 18])
    (E20 : Is ops 20 (some 40) (Op.load 3 (Operand.tmp 39)) (some (9, true)) [9, 19])
    (E21 : Is ops 21 (some 41) (Op.binOp BinOp.leq 3 (Operand.tmp 34) (Operand.tmp 40) 3) (some (9, true)) [9, 14, 20])
    (E22 : Is ops 22 (some 42) (Op.pick (Operand.tmp 29) (Operand.tmp 41) (Operand.const (Value.bool false))) (some (6, false)) [6, 9, 21])
    (E23 : Is ops 23 (some 43) (Op.pick (Operand.tmp 26) (Operand.const (Value.bool true)) (Operand.tmp 42)) none [6, 22])
    (hN : ops.size = 24) (hlow : lowB ops = true) (hds : dsts ops = [some 20, some 21, some 22, some 23, some 24, some 25, some 26, some 27, some 28, some 29, some 30, some 31, some 32, some 33, some 34, some 35, some 36, some 37, some 38, some 39, some 40, some 41, some 42, some 43]) (hnd : injB ops = true)
    (hmx : Tryz.prog.follows .mixedOrders = true) (ha0 : a0.tmps.size = 76) (h0 : a0.tmps.getD 0 undef = .slice (some ⟨b, off, none⟩) n cap) (h5 : a0.tmps.getD 5 undef = .int .i64 (j : Int))
    (hj : j < n) (hc : Pc w0 b (off + j * 4) p) (HP : ∀ W, Calls Tryz.prog 126 #[.agg #[.int .i64 p.ring, .int .i64 p.ps, .int .i64 p.pr, .int .i64 p.mb]] W fun e w' => e = .returned (.bool false) ∧ Mod (fun _ => False) W w')
    (hend : ∀ w, Mod (fun _ => False) w0.drew w → Q .normal (puts a0 [(20, .slice (some ⟨b, off, none⟩) n cap), (21, .int .i64 (j : Int)), (22, .pointer (some ⟨b, off + j * 4, none⟩)), (23, .agg #[.int .i64 p.ring, .int .i64 p.ps, .int .i64 p.pr, .int .i64 p.mb]), (24, .bool false), (25, .bool true), (26, .bool true), (27, undef), (28, undef), (29, undef), (30, undef), (31, undef), (32, undef), (33, undef), (34, undef), (35, undef), (36, undef), (37, undef), (38, undef), (39, undef), (40, undef), (41, undef), (42, undef), (43, .bool true)]) w) :
    (Code.region id ops true).wp Tryz.prog Q a0 w0 := by
  have hc0 : ∀ W, Mod (fun _ => False) w0.drew W → W.cell? ⟨b, off + j * 4, none⟩ = some (.int .i64 p.ring) := fun W hW => ((hc.mod ((Mod.refl (fun _ => False) w0).drew) (fun h => h)).mod hW (fun h => h)).1
  have hc4 : ∀ W, Mod (fun _ => False) w0.drew W → (Instr.loadAt 147 (.pointer (some ⟨b, off + j * 4, none⟩))).run Tryz.prog W = .ok (.agg #[.int .i64 p.ring, .int .i64 p.ps, .int .i64 p.pr, .int .i64 p.mb]) W := fun W hW => by
    obtain ⟨c0, c1, c2, c3⟩ := (hc.mod ((Mod.refl (fun _ => False) w0).drew) (fun h => h)).mod hW (fun h => h)
    exact ld4 c0 c1 c2 c3
  have s0 : ∀ o, ops[0]? = some o → Step Tryz.prog ops (fun i' v => v = v8f b off n cap j p i') (fun _ W => Mod (fun _ => False) w0.drew W) a0 Q 0 o := by
    refine E0.step fun o hd ho hg hw => ?_
    intro y w listed hsz hls hun hwt hdown D R hinv K hK
    rw [ha0] at hsz
    refine .inl ⟨wanted_none hg, ?_⟩
    have f0 : y.eval (Operand.tmp 0) = .slice (some ⟨b, off, none⟩) n cap := (R 0 (not_of (by rw [hds]; decide))).trans h0
    exact wp_value (ox_move ho f0) (hK _ _ rfl hinv)
  have s1 : ∀ o, ops[1]? = some o → Step Tryz.prog ops (fun i' v => v = v8f b off n cap j p i') (fun _ W => Mod (fun _ => False) w0.drew W) a0 Q 1 o := by
    refine E1.step fun o hd ho hg hw => ?_
    intro y w listed hsz hls hun hwt hdown D R hinv K hK
    rw [ha0] at hsz
    refine .inl ⟨wanted_none hg, ?_⟩
    have f5 : y.eval (Operand.tmp 5) = .int .i64 (j : Int) := (R 5 (not_of (by rw [hds]; decide))).trans h5
    exact wp_value (ox_move ho f5) (hK _ _ rfl hinv)
  have s2 : ∀ o, ops[2]? = some o → Step Tryz.prog ops (fun i' v => v = v8f b off n cap j p i') (fun _ W => Mod (fun _ => False) w0.drew W) a0 Q 2 o := by
    refine E2.step fun o hd ho hg hw => ?_
    intro y w listed hsz hls hun hwt hdown D R hinv K hK
    rw [ha0] at hsz
    refine .inl ⟨wanted_none hg, ?_⟩
    have f20 : y.eval (Operand.tmp 20) = .slice (some ⟨b, off, none⟩) n cap := E0.post (Post := (fun i' v => v = v8f b off n cap j p i')) (a := y) D (hw 0 (by simp))
    have f21 : y.eval (Operand.tmp 21) = .int .i64 (j : Int) := E1.post (Post := (fun i' v => v = v8f b off n cap j p i')) (a := y) D (hw 1 (by simp))
    exact wp_value (ox_index ho f20 f21 (idx4 hj w)) (hK _ _ rfl hinv)
  have s3 : ∀ o, ops[3]? = some o → Step Tryz.prog ops (fun i' v => v = v8f b off n cap j p i') (fun _ W => Mod (fun _ => False) w0.drew W) a0 Q 3 o := by
    refine E3.step fun o hd ho hg hw => ?_
    intro y w listed hsz hls hun hwt hdown D R hinv K hK
    rw [ha0] at hsz
    refine .inl ⟨wanted_none hg, ?_⟩
    have f22 : y.eval (Operand.tmp 22) = .pointer (some ⟨b, off + j * 4, none⟩) := E2.post (Post := (fun i' v => v = v8f b off n cap j p i')) (a := y) D (hw 2 (by simp))
    exact wp_value (ox_load ho f22 (hc4 w hinv)) (hK _ _ rfl hinv)
  have s4 : ∀ o, ops[4]? = some o → Step Tryz.prog ops (fun i' v => v = v8f b off n cap j p i') (fun _ W => Mod (fun _ => False) w0.drew W) a0 Q 4 o := by
    refine E4.step fun o hd ho hg hw => ?_
    intro y w listed hsz hls hun hwt hdown D R hinv K hK
    rw [ha0] at hsz
    refine .inl ⟨wanted_none hg, ?_⟩
    have f23 : y.eval (Operand.tmp 23) = .agg #[.int .i64 p.ring, .int .i64 p.ps, .int .i64 p.pr, .int .i64 p.mb] := E3.post (Post := (fun i' v => v = v8f b off n cap j p i')) (a := y) D (hw 3 (by simp))
    refine wp_enter (f := 126) (args := #[.agg #[.int .i64 p.ring, .int .i64 p.ps, .int .i64 p.pr, .int .i64 p.mb]]) ?_ (HP w) ?_
    · rw [exec_call1 y.eval (fun args w => by simp [go_sem]) rfl ho, f23]
    · rintro e w' ⟨rfl, hm⟩
      exact ⟨_, rfl, hK _ _ rfl (hinv.trans hm (fun _ _ h => h) (fun _ _ h => h))⟩
  have s5 : ∀ o, ops[5]? = some o → Step Tryz.prog ops (fun i' v => v = v8f b off n cap j p i') (fun _ W => Mod (fun _ => False) w0.drew W) a0 Q 5 o := by
    refine E5.step fun o hd ho hg hw => ?_
    intro y w listed hsz hls hun hwt hdown D R hinv K hK
    rw [ha0] at hsz
    refine .inl ⟨wanted_none hg, ?_⟩
    have f24 : y.eval (Operand.tmp 24) = .bool false := E4.post (Post := (fun i' v => v = v8f b off n cap j p i')) (a := y) D (hw 4 (by simp))
    exact wp_value (ox_not ho f24) (hK _ _ rfl hinv)
  have s6 : ∀ o, ops[6]? = some o → Step Tryz.prog ops (fun i' v => v = v8f b off n cap j p i') (fun _ W => Mod (fun _ => False) w0.drew W) a0 Q 6 o := by
    refine E6.step fun o hd ho hg hw => ?_
    intro y w listed hsz hls hun hwt hdown D R hinv K hK
    rw [ha0] at hsz
    refine .inl ⟨wanted_none hg, ?_⟩
    have f25 : y.eval (Operand.tmp 25) = .bool true := E5.post (Post := (fun i' v => v = v8f b off n cap j p i')) (a := y) D (hw 5 (by simp))
    exact wp_value (ox_move ho f25) (hK _ _ rfl hinv)
  have s7 : ∀ o, ops[7]? = some o → Step Tryz.prog ops (fun i' v => v = v8f b off n cap j p i') (fun _ W => Mod (fun _ => False) w0.drew W) a0 Q 7 o := by
    refine E7.step fun o hd ho hg hw => ?_
    intro y w listed hsz hls hun hwt hdown D R hinv K hK
    rw [ha0] at hsz
    exact .inr ⟨wanted_no E6 hg (by rw [hsz]; decide) (E6.post (Post := (fun i' v => v = v8f b off n cap j p i')) (a := y) D (hw 6 (by simp))), hK _ _ rfl hinv⟩
  have s8 : ∀ o, ops[8]? = some o → Step Tryz.prog ops (fun i' v => v = v8f b off n cap j p i') (fun _ W => Mod (fun _ => False) w0.drew W) a0 Q 8 o := by
    refine E8.step fun o hd ho hg hw => ?_
    intro y w listed hsz hls hun hwt hdown D R hinv K hK
    rw [ha0] at hsz
    exact .inr ⟨wanted_no E6 hg (by rw [hsz]; decide) (E6.post (Post := (fun i' v => v = v8f b off n cap j p i')) (a := y) D (hw 6 (by simp))), hK _ _ rfl hinv⟩
  have s9 : ∀ o, ops[9]? = some o → Step Tryz.prog ops (fun i' v => v = v8f b off n cap j p i') (fun _ W => Mod (fun _ => False) w0.drew W) a0 Q 9 o := by
    refine E9.step fun o hd ho hg hw => ?_
    intro y w listed hsz hls hun hwt hdown D R hinv K hK
    rw [ha0] at hsz
    exact .inr ⟨wanted_no E6 hg (by rw [hsz]; decide) (E6.post (Post := (fun i' v => v = v8f b off n cap j p i')) (a := y) D (hw 6 (by simp))), hK _ _ rfl hinv⟩
  have s10 : ∀ o, ops[10]? = some o → Step Tryz.prog ops (fun i' v => v = v8f b off n cap j p i') (fun _ W => Mod (fun _ => False) w0.drew W) a0 Q 10 o := by
    refine E10.step fun o hd ho hg hw => ?_
    intro y w listed hsz hls hun hwt hdown D R hinv K hK
    rw [ha0] at hsz
    exact .inr ⟨wanted_none' E9 hg (by rw [hsz]; decide) (E9.post (Post := (fun i' v => v = v8f b off n cap j p i')) (a := y) D (hw 9 (by simp))), hK _ _ rfl hinv⟩
  have s11 : ∀ o, ops[11]? = some o → Step Tryz.prog ops (fun i' v => v = v8f b off n cap j p i') (fun _ W => Mod (fun _ => False) w0.drew W) a0 Q 11 o := by
    refine E11.step fun o hd ho hg hw => ?_
    intro y w listed hsz hls hun hwt hdown D R hinv K hK
    rw [ha0] at hsz
    exact .inr ⟨wanted_none' E9 hg (by rw [hsz]; decide) (E9.post (Post := (fun i' v => v = v8f b off n cap j p i')) (a := y) D (hw 9 (by simp))), hK _ _ rfl hinv⟩
  have s12 : ∀ o, ops[12]? = some o → Step Tryz.prog ops (fun i' v => v = v8f b off n cap j p i') (fun _ W => Mod (fun _ => False) w0.drew W) a0 Q 12 o := by
    refine E12.step fun o hd ho hg hw => ?_
    intro y w listed hsz hls hun hwt hdown D R hinv K hK
    rw [ha0] at hsz
    exact .inr ⟨wanted_none' E9 hg (by rw [hsz]; decide) (E9.post (Post := (fun i' v => v = v8f b off n cap j p i')) (a := y) D (hw 9 (by simp))), hK _ _ rfl hinv⟩
  have s13 : ∀ o, ops[13]? = some o → Step Tryz.prog ops (fun i' v => v = v8f b off n cap j p i') (fun _ W => Mod (fun _ => False) w0.drew W) a0 Q 13 o := by
    refine E13.step fun o hd ho hg hw => ?_
    intro y w listed hsz hls hun hwt hdown D R hinv K hK
    rw [ha0] at hsz
    exact .inr ⟨wanted_none' E9 hg (by rw [hsz]; decide) (E9.post (Post := (fun i' v => v = v8f b off n cap j p i')) (a := y) D (hw 9 (by simp))), hK _ _ rfl hinv⟩
  have s14 : ∀ o, ops[14]? = some o → Step Tryz.prog ops (fun i' v => v = v8f b off n cap j p i') (fun _ W => Mod (fun _ => False) w0.drew W) a0 Q 14 o := by
    refine E14.step fun o hd ho hg hw => ?_
    intro y w listed hsz hls hun hwt hdown D R hinv K hK
    rw [ha0] at hsz
    exact .inr ⟨wanted_none' E9 hg (by rw [hsz]; decide) (E9.post (Post := (fun i' v => v = v8f b off n cap j p i')) (a := y) D (hw 9 (by simp))), hK _ _ rfl hinv⟩
  have s15 : ∀ o, ops[15]? = some o → Step Tryz.prog ops (fun i' v => v = v8f b off n cap j p i') (fun _ W => Mod (fun _ => False) w0.drew W) a0 Q 15 o := by
    refine E15.step fun o hd ho hg hw => ?_
    intro y w listed hsz hls hun hwt hdown D R hinv K hK
    rw [ha0] at hsz
    exact .inr ⟨wanted_none' E9 hg (by rw [hsz]; decide) (E9.post (Post := (fun i' v => v = v8f b off n cap j p i')) (a := y) D (hw 9 (by simp))), hK _ _ rfl hinv⟩
  have s16 : ∀ o, ops[16]? = some o → Step Tryz.prog ops (fun i' v => v = v8f b off n cap j p i') (fun _ W => Mod (fun _ => False) w0.drew W) a0 Q 16 o := by
    refine E16.step fun o hd ho hg hw => ?_
    intro y w listed hsz hls hun hwt hdown D R hinv K hK
    rw [ha0] at hsz
    exact .inr ⟨wanted_none' E9 hg (by rw [hsz]; decide) (E9.post (Post := (fun i' v => v = v8f b off n cap j p i')) (a := y) D (hw 9 (by simp))), hK _ _ rfl hinv⟩
  have s17 : ∀ o, ops[17]? = some o → Step Tryz.prog ops (fun i' v => v = v8f b off n cap j p i') (fun _ W => Mod (fun _ => False) w0.drew W) a0 Q 17 o := by
    refine E17.step fun o hd ho hg hw => ?_
    intro y w listed hsz hls hun hwt hdown D R hinv K hK
    rw [ha0] at hsz
    exact .inr ⟨wanted_none' E9 hg (by rw [hsz]; decide) (E9.post (Post := (fun i' v => v = v8f b off n cap j p i')) (a := y) D (hw 9 (by simp))), hK _ _ rfl hinv⟩
  have s18 : ∀ o, ops[18]? = some o → Step Tryz.prog ops (fun i' v => v = v8f b off n cap j p i') (fun _ W => Mod (fun _ => False) w0.drew W) a0 Q 18 o := by
    refine E18.step fun o hd ho hg hw => ?_
    intro y w listed hsz hls hun hwt hdown D R hinv K hK
    rw [ha0] at hsz
    exact .inr ⟨wanted_none' E9 hg (by rw [hsz]; decide) (E9.post (Post := (fun i' v => v = v8f b off n cap j p i')) (a := y) D (hw 9 (by simp))), hK _ _ rfl hinv⟩
  have s19 : ∀ o, ops[19]? = some o → Step Tryz.prog ops (fun i' v => v = v8f b off n cap j p i') (fun _ W => Mod (fun _ => False) w0.drew W) a0 Q 19 o := by
    refine E19.step fun o hd ho hg hw => ?_
    intro y w listed hsz hls hun hwt hdown D R hinv K hK
    rw [ha0] at hsz
    exact .inr ⟨wanted_none' E9 hg (by rw [hsz]; decide) (E9.post (Post := (fun i' v => v = v8f b off n cap j p i')) (a := y) D (hw 9 (by simp))), hK _ _ rfl hinv⟩
  have s20 : ∀ o, ops[20]? = some o → Step Tryz.prog ops (fun i' v => v = v8f b off n cap j p i') (fun _ W => Mod (fun _ => False) w0.drew W) a0 Q 20 o := by
    refine E20.step fun o hd ho hg hw => ?_
    intro y w listed hsz hls hun hwt hdown D R hinv K hK
    rw [ha0] at hsz
    exact .inr ⟨wanted_none' E9 hg (by rw [hsz]; decide) (E9.post (Post := (fun i' v => v = v8f b off n cap j p i')) (a := y) D (hw 9 (by simp))), hK _ _ rfl hinv⟩
  have s21 : ∀ o, ops[21]? = some o → Step Tryz.prog ops (fun i' v => v = v8f b off n cap j p i') (fun _ W => Mod (fun _ => False) w0.drew W) a0 Q 21 o := by
    refine E21.step fun o hd ho hg hw => ?_
    intro y w listed hsz hls hun hwt hdown D R hinv K hK
    rw [ha0] at hsz
    exact .inr ⟨wanted_none' E9 hg (by rw [hsz]; decide) (E9.post (Post := (fun i' v => v = v8f b off n cap j p i')) (a := y) D (hw 9 (by simp))), hK _ _ rfl hinv⟩
  have s22 : ∀ o, ops[22]? = some o → Step Tryz.prog ops (fun i' v => v = v8f b off n cap j p i') (fun _ W => Mod (fun _ => False) w0.drew W) a0 Q 22 o := by
    refine E22.step fun o hd ho hg hw => ?_
    intro y w listed hsz hls hun hwt hdown D R hinv K hK
    rw [ha0] at hsz
    exact .inr ⟨wanted_no E6 hg (by rw [hsz]; decide) (E6.post (Post := (fun i' v => v = v8f b off n cap j p i')) (a := y) D (hw 6 (by simp))), hK _ _ rfl hinv⟩
  have s23 : ∀ o, ops[23]? = some o → Step Tryz.prog ops (fun i' v => v = v8f b off n cap j p i') (fun _ W => Mod (fun _ => False) w0.drew W) a0 Q 23 o := by
    refine E23.step fun o hd ho hg hw => ?_
    intro y w listed hsz hls hun hwt hdown D R hinv K hK
    rw [ha0] at hsz
    refine .inl ⟨wanted_none hg, ?_⟩
    have f26 : y.eval (Operand.tmp 26) = .bool true := E6.post (Post := (fun i' v => v = v8f b off n cap j p i')) (a := y) D (hw 6 (by simp))
    have f42 : y.eval (Operand.tmp 42) = undef := E22.post (Post := (fun i' v => v = v8f b off n cap j p i')) (a := y) D (hw 22 (by simp))
    exact wp_value (ox_pick ho f26 rfl) (hK _ _ rfl hinv)
  refine region_free (Post := (fun i' v => v = v8f b off n cap j p i')) (Inv := (fun _ W => Mod (fun _ => False) w0.drew W)) hmx (low_of hlow) (fun i o ho => by rw [ha0]; exact dst_of (by rw [hds]; decide) i o ho) (inj_of hnd) (Mod.refl _ _) ?_ ?_
  · intro i o ho
    have hi : i < 24 := by
      rw [← hN]
      rcases Nat.lt_or_ge i ops.size with h | h
      · exact h
      · rw [Array.getElem?_eq_none h] at ho; cases ho
    clear hend
    by_cases e0 : i = 0
    · subst e0; exact s0 o ho
    by_cases e1 : i = 1
    · subst e1; exact s1 o ho
    by_cases e2 : i = 2
    · subst e2; exact s2 o ho
    by_cases e3 : i = 3
    · subst e3; exact s3 o ho
    by_cases e4 : i = 4
    · subst e4; exact s4 o ho
    by_cases e5 : i = 5
    · subst e5; exact s5 o ho
    by_cases e6 : i = 6
    · subst e6; exact s6 o ho
    by_cases e7 : i = 7
    · subst e7; exact s7 o ho
    by_cases e8 : i = 8
    · subst e8; exact s8 o ho
    by_cases e9 : i = 9
    · subst e9; exact s9 o ho
    by_cases e10 : i = 10
    · subst e10; exact s10 o ho
    by_cases e11 : i = 11
    · subst e11; exact s11 o ho
    by_cases e12 : i = 12
    · subst e12; exact s12 o ho
    by_cases e13 : i = 13
    · subst e13; exact s13 o ho
    by_cases e14 : i = 14
    · subst e14; exact s14 o ho
    by_cases e15 : i = 15
    · subst e15; exact s15 o ho
    by_cases e16 : i = 16
    · subst e16; exact s16 o ho
    by_cases e17 : i = 17
    · subst e17; exact s17 o ho
    by_cases e18 : i = 18
    · subst e18; exact s18 o ho
    by_cases e19 : i = 19
    · subst e19; exact s19 o ho
    by_cases e20 : i = 20
    · subst e20; exact s20 o ho
    by_cases e21 : i = 21
    · subst e21; exact s21 o ho
    by_cases e22 : i = 22
    · subst e22; exact s22 o ho
    by_cases e23 : i = 23
    · subst e23; exact s23 o ho
    omega
  · intro y w listed hsz hdf hls hall hinv hp hr
    have e : y = puts a0 [(20, .slice (some ⟨b, off, none⟩) n cap), (21, .int .i64 (j : Int)), (22, .pointer (some ⟨b, off + j * 4, none⟩)), (23, .agg #[.int .i64 p.ring, .int .i64 p.ps, .int .i64 p.pr, .int .i64 p.mb]), (24, .bool false), (25, .bool true), (26, .bool true), (27, undef), (28, undef), (29, undef), (30, undef), (31, undef), (32, undef), (33, undef), (34, undef), (35, undef), (36, undef), (37, undef), (38, undef), (39, undef), (40, undef), (41, undef), (42, undef), (43, .bool true)] := by
      refine eq_puts hsz hdf (nodup_of (D := [some 20, some 21, some 22, some 23, some 24, some 25, some 26, some 27, some 28, some 29, some 30, some 31, some 32, some 33, some 34, some 35, some 36, some 37, some 38, some 39, some 40, some 41, some 42, some 43]) rfl (by decide)) (by rw [ha0]; simp) ?_ ?_
      · intro q hq
        simp only [List.mem_cons, List.not_mem_nil, or_false] at hq
        rcases hq with rfl | rfl | rfl | rfl | rfl | rfl | rfl | rfl | rfl | rfl | rfl | rfl | rfl | rfl | rfl | rfl | rfl | rfl | rfl | rfl | rfl | rfl | rfl | rfl
        · obtain ⟨o, h1, h2, _⟩ := E0.ex; exact hp 0 o _ h1 h2
        · obtain ⟨o, h1, h2, _⟩ := E1.ex; exact hp 1 o _ h1 h2
        · obtain ⟨o, h1, h2, _⟩ := E2.ex; exact hp 2 o _ h1 h2
        · obtain ⟨o, h1, h2, _⟩ := E3.ex; exact hp 3 o _ h1 h2
        · obtain ⟨o, h1, h2, _⟩ := E4.ex; exact hp 4 o _ h1 h2
        · obtain ⟨o, h1, h2, _⟩ := E5.ex; exact hp 5 o _ h1 h2
        · obtain ⟨o, h1, h2, _⟩ := E6.ex; exact hp 6 o _ h1 h2
        · obtain ⟨o, h1, h2, _⟩ := E7.ex; exact hp 7 o _ h1 h2
        · obtain ⟨o, h1, h2, _⟩ := E8.ex; exact hp 8 o _ h1 h2
        · obtain ⟨o, h1, h2, _⟩ := E9.ex; exact hp 9 o _ h1 h2
        · obtain ⟨o, h1, h2, _⟩ := E10.ex; exact hp 10 o _ h1 h2
        · obtain ⟨o, h1, h2, _⟩ := E11.ex; exact hp 11 o _ h1 h2
        · obtain ⟨o, h1, h2, _⟩ := E12.ex; exact hp 12 o _ h1 h2
        · obtain ⟨o, h1, h2, _⟩ := E13.ex; exact hp 13 o _ h1 h2
        · obtain ⟨o, h1, h2, _⟩ := E14.ex; exact hp 14 o _ h1 h2
        · obtain ⟨o, h1, h2, _⟩ := E15.ex; exact hp 15 o _ h1 h2
        · obtain ⟨o, h1, h2, _⟩ := E16.ex; exact hp 16 o _ h1 h2
        · obtain ⟨o, h1, h2, _⟩ := E17.ex; exact hp 17 o _ h1 h2
        · obtain ⟨o, h1, h2, _⟩ := E18.ex; exact hp 18 o _ h1 h2
        · obtain ⟨o, h1, h2, _⟩ := E19.ex; exact hp 19 o _ h1 h2
        · obtain ⟨o, h1, h2, _⟩ := E20.ex; exact hp 20 o _ h1 h2
        · obtain ⟨o, h1, h2, _⟩ := E21.ex; exact hp 21 o _ h1 h2
        · obtain ⟨o, h1, h2, _⟩ := E22.ex; exact hp 22 o _ h1 h2
        · obtain ⟨o, h1, h2, _⟩ := E23.ex; exact hp 23 o _ h1 h2
      · intro t ht
        refine hr t (not_of ?_)
        rw [hds]
        simp only [List.mem_cons, List.not_mem_nil, or_false, forall_eq_or_imp, forall_eq] at ht
        simp only [List.contains_cons, List.contains_nil, Bool.or_eq_false_iff, beq_eq_false_iff_ne, ne_eq, Option.some.injEq, Bool.or_false]
        simp only [eq_comm (a := t)]
        simp [ht]
    rw [e]
    exact hend w hinv
def v8t0 (b off n cap j : Nat) (p : Pl) : Nat → Value
  | 0 => .slice (some ⟨b, off, none⟩) n cap
  | 1 => .int .i64 (j : Int)
  | 2 => .pointer (some ⟨b, off + j * 4, none⟩)
  | 3 => .agg #[.int .i64 p.ring, .int .i64 p.ps, .int .i64 p.pr, .int .i64 p.mb]
  | 4 => .bool true
  | 5 => .bool false
  | 6 => .bool false
  | 7 => .int .i64 (j : Int)
  | 8 => .bool false
  | 9 => .bool false
  | 22 => .bool false
  | 23 => .bool false
  | _ => undef
set_option maxRecDepth 100000 in
set_option maxHeartbeats 4000000 in
theorem region8t0 {ops : Array Oper} {id : Nat} {a0 : Act} {w0 : World} {Q : Exit → Act → World → Prop} (b off n cap j : Nat) (p : Pl)
    (E0 : Is ops 0 (some 20) (Op.move (Operand.tmp 0)) none [])
    (E1 : Is ops 1 (some 21) (Op.move (Operand.tmp 5)) none [])
    (E2 : Is ops 2 (some 22) (Op.indexAddr 119 (Operand.tmp 20) (Operand.tmp 21)) none [0, 1])
    (E3 : Is ops 3 (some 23) (Op.load 147 (Operand.tmp 22)) none [2])
    (E4 : Is ops 4 (some 24) (Op.call { callee := Callee.value (Operand.func 126), args := #[Operand.tmp 23], argTypes := #[147] }) none [3])
    (E5 : Is ops 5 (some 25) (Op.unOp UnOp.not 4 (Operand.tmp 24)) none [4])
    (E6 : Is ops 6 (some 26) (Op.move (Operand.tmp 25)) none [4, 5])
    (E7 : Is ops 7 (some 27) (Op.move (Operand.tmp 5)) (some (6, false)) [6])
    (E8 : Is ops 8 (some 28) (Op.binOp BinOp.gtr 3 (Operand.tmp 27) (Operand.const (Value.int IntKind.i64 0)) 3) (some (6, false)) [6, 7])
    (E9 : Is ops 9 (some 29) (Op.move (Operand.tmp 28)) (some (6, false)) [6, 8])
    (E10 : Is ops 10 (some 30) (Op.move (Operand.tmp 0)) (some (9, true)) [9])
    (E11 : Is ops 11 (some 31) (Op.move (Operand.tmp 5)) (some (9, true)) [9])
    (E12 : Is ops 12 (some 32) (Op.indexAddr 119 (Operand.tmp 30) (Operand.tmp 31)) (some (9, true)) [9, 10, 11])
    (E13 : Is ops 13 (some 33) (Op.fieldAddr 147 (Operand.tmp 32) 0) (some (9, true)) [9, 12])
    (E14 : Is ops 14 (some 34) (Op.load 3 (Operand.tmp 33)) (some (9, true)) [9, 13])
    (E15 : Is ops 15 (some 35) (Op.move (Operand.tmp 0)) (some (9, true)) [9])
    (E16 : Is ops 16 (some 36) (Op.move (Operand.tmp 5)) (some (9, true)) [9])
    (E17 : Is ops 17 (some 37) (Op.binOp BinOp.sub 3 (Operand.tmp 36) (Operand.const (Value.int IntKind.i64 1)) 3) (some (9, true)) [9, 16])
    (E18 : Is ops 18 (some 38) (Op.indexAddr 119 (Operand.tmp 35) (Operand.tmp 37)) (some (9, true)) [9, 15, 17])
    (E19 : Is ops 19 (some 39) (Op.fieldAddr 147 (Operand.tmp 38) 0) (some (9, true)) [9, 18])
    (E20 : Is ops 20 (some 40) (Op.load 3 (Operand.tmp 39)) (some (9, true)) [9, 19])
    (E21 : Is ops 21 (some 41) (Op.binOp BinOp.leq 3 (Operand.tmp 34) (Operand.tmp 40) 3) (some (9, true)) [9, 14, 20])
    (E22 : Is ops 22 (some 42) (Op.pick (Operand.tmp 29) (Operand.tmp 41) (Operand.const (Value.bool false))) (some (6, false)) [6, 9, 21])
    (E23 : Is ops 23 (some 43) (Op.pick (Operand.tmp 26) (Operand.const (Value.bool true)) (Operand.tmp 42)) none [6, 22])
    (hN : ops.size = 24) (hlow : lowB ops = true) (hds : dsts ops = [some 20, some 21, some 22, some 23, some 24, some 25, some 26, some 27, some 28, some 29, some 30, some 31, some 32, some 33, some 34, some 35, some 36, some 37, some 38, some 39, some 40, some 41, some 42, some 43]) (hnd : injB ops = true)
    (hmx : Tryz.prog.follows .mixedOrders = true) (ha0 : a0.tmps.size = 76) (h0 : a0.tmps.getD 0 undef = .slice (some ⟨b, off, none⟩) n cap) (h5 : a0.tmps.getD 5 undef = .int .i64 (j : Int))
    (hj : j < n) (hc : Pc w0 b (off + j * 4) p) (HP : ∀ W, Calls Tryz.prog 126 #[.agg #[.int .i64 p.ring, .int .i64 p.ps, .int .i64 p.pr, .int .i64 p.mb]] W fun e w' => e = .returned (.bool true) ∧ Mod (fun _ => False) W w')
    (hy : decide (0 < (j : Int)) = false)
    (hend : ∀ w, Mod (fun _ => False) w0.drew w → Q .normal (puts a0 [(20, .slice (some ⟨b, off, none⟩) n cap), (21, .int .i64 (j : Int)), (22, .pointer (some ⟨b, off + j * 4, none⟩)), (23, .agg #[.int .i64 p.ring, .int .i64 p.ps, .int .i64 p.pr, .int .i64 p.mb]), (24, .bool true), (25, .bool false), (26, .bool false), (27, .int .i64 (j : Int)), (28, .bool false), (29, .bool false), (30, undef), (31, undef), (32, undef), (33, undef), (34, undef), (35, undef), (36, undef), (37, undef), (38, undef), (39, undef), (40, undef), (41, undef), (42, .bool false), (43, .bool false)]) w) :
    (Code.region id ops true).wp Tryz.prog Q a0 w0 := by
  have hc0 : ∀ W, Mod (fun _ => False) w0.drew W → W.cell? ⟨b, off + j * 4, none⟩ = some (.int .i64 p.ring) := fun W hW => ((hc.mod ((Mod.refl (fun _ => False) w0).drew) (fun h => h)).mod hW (fun h => h)).1
  have hc4 : ∀ W, Mod (fun _ => False) w0.drew W → (Instr.loadAt 147 (.pointer (some ⟨b, off + j * 4, none⟩))).run Tryz.prog W = .ok (.agg #[.int .i64 p.ring, .int .i64 p.ps, .int .i64 p.pr, .int .i64 p.mb]) W := fun W hW => by
    obtain ⟨c0, c1, c2, c3⟩ := (hc.mod ((Mod.refl (fun _ => False) w0).drew) (fun h => h)).mod hW (fun h => h)
    exact ld4 c0 c1 c2 c3
  have s0 : ∀ o, ops[0]? = some o → Step Tryz.prog ops (fun i' v => v = v8t0 b off n cap j p i') (fun _ W => Mod (fun _ => False) w0.drew W) a0 Q 0 o := by
    refine E0.step fun o hd ho hg hw => ?_
    intro y w listed hsz hls hun hwt hdown D R hinv K hK
    rw [ha0] at hsz
    refine .inl ⟨wanted_none hg, ?_⟩
    have f0 : y.eval (Operand.tmp 0) = .slice (some ⟨b, off, none⟩) n cap := (R 0 (not_of (by rw [hds]; decide))).trans h0
    exact wp_value (ox_move ho f0) (hK _ _ rfl hinv)
  have s1 : ∀ o, ops[1]? = some o → Step Tryz.prog ops (fun i' v => v = v8t0 b off n cap j p i') (fun _ W => Mod (fun _ => False) w0.drew W) a0 Q 1 o := by
    refine E1.step fun o hd ho hg hw => ?_
    intro y w listed hsz hls hun hwt hdown D R hinv K hK
    rw [ha0] at hsz
    refine .inl ⟨wanted_none hg, ?_⟩
    have f5 : y.eval (Operand.tmp 5) = .int .i64 (j : Int) := (R 5 (not_of (by rw [hds]; decide))).trans h5
    exact wp_value (ox_move ho f5) (hK _ _ rfl hinv)
  have s2 : ∀ o, ops[2]? = some o → Step Tryz.prog ops (fun i' v => v = v8t0 b off n cap j p i') (fun _ W => Mod (fun _ => False) w0.drew W) a0 Q 2 o := by
    refine E2.step fun o hd ho hg hw => ?_
    intro y w listed hsz hls hun hwt hdown D R hinv K hK
    rw [ha0] at hsz
    refine .inl ⟨wanted_none hg, ?_⟩
    have f20 : y.eval (Operand.tmp 20) = .slice (some ⟨b, off, none⟩) n cap := E0.post (Post := (fun i' v => v = v8t0 b off n cap j p i')) (a := y) D (hw 0 (by simp))
    have f21 : y.eval (Operand.tmp 21) = .int .i64 (j : Int) := E1.post (Post := (fun i' v => v = v8t0 b off n cap j p i')) (a := y) D (hw 1 (by simp))
    exact wp_value (ox_index ho f20 f21 (idx4 hj w)) (hK _ _ rfl hinv)
  have s3 : ∀ o, ops[3]? = some o → Step Tryz.prog ops (fun i' v => v = v8t0 b off n cap j p i') (fun _ W => Mod (fun _ => False) w0.drew W) a0 Q 3 o := by
    refine E3.step fun o hd ho hg hw => ?_
    intro y w listed hsz hls hun hwt hdown D R hinv K hK
    rw [ha0] at hsz
    refine .inl ⟨wanted_none hg, ?_⟩
    have f22 : y.eval (Operand.tmp 22) = .pointer (some ⟨b, off + j * 4, none⟩) := E2.post (Post := (fun i' v => v = v8t0 b off n cap j p i')) (a := y) D (hw 2 (by simp))
    exact wp_value (ox_load ho f22 (hc4 w hinv)) (hK _ _ rfl hinv)
  have s4 : ∀ o, ops[4]? = some o → Step Tryz.prog ops (fun i' v => v = v8t0 b off n cap j p i') (fun _ W => Mod (fun _ => False) w0.drew W) a0 Q 4 o := by
    refine E4.step fun o hd ho hg hw => ?_
    intro y w listed hsz hls hun hwt hdown D R hinv K hK
    rw [ha0] at hsz
    refine .inl ⟨wanted_none hg, ?_⟩
    have f23 : y.eval (Operand.tmp 23) = .agg #[.int .i64 p.ring, .int .i64 p.ps, .int .i64 p.pr, .int .i64 p.mb] := E3.post (Post := (fun i' v => v = v8t0 b off n cap j p i')) (a := y) D (hw 3 (by simp))
    refine wp_enter (f := 126) (args := #[.agg #[.int .i64 p.ring, .int .i64 p.ps, .int .i64 p.pr, .int .i64 p.mb]]) ?_ (HP w) ?_
    · rw [exec_call1 y.eval (fun args w => by simp [go_sem]) rfl ho, f23]
    · rintro e w' ⟨rfl, hm⟩
      exact ⟨_, rfl, hK _ _ rfl (hinv.trans hm (fun _ _ h => h) (fun _ _ h => h))⟩
  have s5 : ∀ o, ops[5]? = some o → Step Tryz.prog ops (fun i' v => v = v8t0 b off n cap j p i') (fun _ W => Mod (fun _ => False) w0.drew W) a0 Q 5 o := by
    refine E5.step fun o hd ho hg hw => ?_
    intro y w listed hsz hls hun hwt hdown D R hinv K hK
    rw [ha0] at hsz
    refine .inl ⟨wanted_none hg, ?_⟩
    have f24 : y.eval (Operand.tmp 24) = .bool true := E4.post (Post := (fun i' v => v = v8t0 b off n cap j p i')) (a := y) D (hw 4 (by simp))
    exact wp_value (ox_not ho f24) (hK _ _ rfl hinv)
  have s6 : ∀ o, ops[6]? = some o → Step Tryz.prog ops (fun i' v => v = v8t0 b off n cap j p i') (fun _ W => Mod (fun _ => False) w0.drew W) a0 Q 6 o := by
    refine E6.step fun o hd ho hg hw => ?_
    intro y w listed hsz hls hun hwt hdown D R hinv K hK
    rw [ha0] at hsz
    refine .inl ⟨wanted_none hg, ?_⟩
    have f25 : y.eval (Operand.tmp 25) = .bool false := E5.post (Post := (fun i' v => v = v8t0 b off n cap j p i')) (a := y) D (hw 5 (by simp))
    exact wp_value (ox_move ho f25) (hK _ _ rfl hinv)
  have s7 : ∀ o, ops[7]? = some o → Step Tryz.prog ops (fun i' v => v = v8t0 b off n cap j p i') (fun _ W => Mod (fun _ => False) w0.drew W) a0 Q 7 o := by
    refine E7.step fun o hd ho hg hw => ?_
    intro y w listed hsz hls hun hwt hdown D R hinv K hK
    rw [ha0] at hsz
    refine .inl ⟨wanted_yes E6 hg (by rw [hsz]; decide) (E6.post (Post := (fun i' v => v = v8t0 b off n cap j p i')) (a := y) D (hw 6 (by simp))), ?_⟩
    have f5 : y.eval (Operand.tmp 5) = .int .i64 (j : Int) := (R 5 (not_of (by rw [hds]; decide))).trans h5
    exact wp_value (ox_move ho f5) (hK _ _ rfl hinv)
  have s8 : ∀ o, ops[8]? = some o → Step Tryz.prog ops (fun i' v => v = v8t0 b off n cap j p i') (fun _ W => Mod (fun _ => False) w0.drew W) a0 Q 8 o := by
    refine E8.step fun o hd ho hg hw => ?_
    intro y w listed hsz hls hun hwt hdown D R hinv K hK
    rw [ha0] at hsz
    refine .inl ⟨wanted_yes E6 hg (by rw [hsz]; decide) (E6.post (Post := (fun i' v => v = v8t0 b off n cap j p i')) (a := y) D (hw 6 (by simp))), ?_⟩
    have f27 : y.eval (Operand.tmp 27) = .int .i64 (j : Int) := E7.post (Post := (fun i' v => v = v8t0 b off n cap j p i')) (a := y) D (hw 7 (by simp))
    exact wp_value (ox_gtr0 ho (fun _ => rfl) f27 hy) (hK _ _ rfl hinv)
  have s9 : ∀ o, ops[9]? = some o → Step Tryz.prog ops (fun i' v => v = v8t0 b off n cap j p i') (fun _ W => Mod (fun _ => False) w0.drew W) a0 Q 9 o := by
    refine E9.step fun o hd ho hg hw => ?_
    intro y w listed hsz hls hun hwt hdown D R hinv K hK
    rw [ha0] at hsz
    refine .inl ⟨wanted_yes E6 hg (by rw [hsz]; decide) (E6.post (Post := (fun i' v => v = v8t0 b off n cap j p i')) (a := y) D (hw 6 (by simp))), ?_⟩
    have f28 : y.eval (Operand.tmp 28) = .bool false := E8.post (Post := (fun i' v => v = v8t0 b off n cap j p i')) (a := y) D (hw 8 (by simp))
    exact wp_value (ox_move ho f28) (hK _ _ rfl hinv)
  have s10 : ∀ o, ops[10]? = some o → Step Tryz.prog ops (fun i' v => v = v8t0 b off n cap j p i') (fun _ W => Mod (fun _ => False) w0.drew W) a0 Q 10 o := by
    refine E10.step fun o hd ho hg hw => ?_
    intro y w listed hsz hls hun hwt hdown D R hinv K hK
    rw [ha0] at hsz
    exact .inr ⟨wanted_no E9 hg (by rw [hsz]; decide) (E9.post (Post := (fun i' v => v = v8t0 b off n cap j p i')) (a := y) D (hw 9 (by simp))), hK _ _ rfl hinv⟩
  have s11 : ∀ o, ops[11]? = some o → Step Tryz.prog ops (fun i' v => v = v8t0 b off n cap j p i') (fun _ W => Mod (fun _ => False) w0.drew W) a0 Q 11 o := by
    refine E11.step fun o hd ho hg hw => ?_
    intro y w listed hsz hls hun hwt hdown D R hinv K hK
    rw [ha0] at hsz
    exact .inr ⟨wanted_no E9 hg (by rw [hsz]; decide) (E9.post (Post := (fun i' v => v = v8t0 b off n cap j p i')) (a := y) D (hw 9 (by simp))), hK _ _ rfl hinv⟩
  have s12 : ∀ o, ops[12]? = some o → Step Tryz.prog ops (fun i' v => v = v8t0 b off n cap j p i') (fun _ W => Mod (fun _ => False) w0.drew W) a0 Q 12 o := by
    refine E12.step fun o hd ho hg hw => ?_
    intro y w listed hsz hls hun hwt hdown D R hinv K hK
    rw [ha0] at hsz
    exact .inr ⟨wanted_no E9 hg (by rw [hsz]; decide) (E9.post (Post := (fun i' v => v = v8t0 b off n cap j p i')) (a := y) D (hw 9 (by simp))), hK _ _ rfl hinv⟩
  have s13 : ∀ o, ops[13]? = some o → Step Tryz.prog ops (fun i' v => v = v8t0 b off n cap j p i') (fun _ W => Mod (fun _ => False) w0.drew W) a0 Q 13 o := by
    refine E13.step fun o hd ho hg hw => ?_
    intro y w listed hsz hls hun hwt hdown D R hinv K hK
    rw [ha0] at hsz
    exact .inr ⟨wanted_no E9 hg (by rw [hsz]; decide) (E9.post (Post := (fun i' v => v = v8t0 b off n cap j p i')) (a := y) D (hw 9 (by simp))), hK _ _ rfl hinv⟩
  have s14 : ∀ o, ops[14]? = some o → Step Tryz.prog ops (fun i' v => v = v8t0 b off n cap j p i') (fun _ W => Mod (fun _ => False) w0.drew W) a0 Q 14 o := by
    refine E14.step fun o hd ho hg hw => ?_
    intro y w listed hsz hls hun hwt hdown D R hinv K hK
    rw [ha0] at hsz
    exact .inr ⟨wanted_no E9 hg (by rw [hsz]; decide) (E9.post (Post := (fun i' v => v = v8t0 b off n cap j p i')) (a := y) D (hw 9 (by simp))), hK _ _ rfl hinv⟩
  have s15 : ∀ o, ops[15]? = some o → Step Tryz.prog ops (fun i' v => v = v8t0 b off n cap j p i') (fun _ W => Mod (fun _ => False) w0.drew W) a0 Q 15 o := by
    refine E15.step fun o hd ho hg hw => ?_
    intro y w listed hsz hls hun hwt hdown D R hinv K hK
    rw [ha0] at hsz
    exact .inr ⟨wanted_no E9 hg (by rw [hsz]; decide) (E9.post (Post := (fun i' v => v = v8t0 b off n cap j p i')) (a := y) D (hw 9 (by simp))), hK _ _ rfl hinv⟩
  have s16 : ∀ o, ops[16]? = some o → Step Tryz.prog ops (fun i' v => v = v8t0 b off n cap j p i') (fun _ W => Mod (fun _ => False) w0.drew W) a0 Q 16 o := by
    refine E16.step fun o hd ho hg hw => ?_
    intro y w listed hsz hls hun hwt hdown D R hinv K hK
    rw [ha0] at hsz
    exact .inr ⟨wanted_no E9 hg (by rw [hsz]; decide) (E9.post (Post := (fun i' v => v = v8t0 b off n cap j p i')) (a := y) D (hw 9 (by simp))), hK _ _ rfl hinv⟩
  have s17 : ∀ o, ops[17]? = some o → Step Tryz.prog ops (fun i' v => v = v8t0 b off n cap j p i') (fun _ W => Mod (fun _ => False) w0.drew W) a0 Q 17 o := by
    refine E17.step fun o hd ho hg hw => ?_
    intro y w listed hsz hls hun hwt hdown D R hinv K hK
    rw [ha0] at hsz
    exact .inr ⟨wanted_no E9 hg (by rw [hsz]; decide) (E9.post (Post := (fun i' v => v = v8t0 b off n cap j p i')) (a := y) D (hw 9 (by simp))), hK _ _ rfl hinv⟩
  have s18 : ∀ o, ops[18]? = some o → Step Tryz.prog ops (fun i' v => v = v8t0 b off n cap j p i') (fun _ W => Mod (fun _ => False) w0.drew W) a0 Q 18 o := by
    refine E18.step fun o hd ho hg hw => ?_
    intro y w listed hsz hls hun hwt hdown D R hinv K hK
    rw [ha0] at hsz
    exact .inr ⟨wanted_no E9 hg (by rw [hsz]; decide) (E9.post (Post := (fun i' v => v = v8t0 b off n cap j p i')) (a := y) D (hw 9 (by simp))), hK _ _ rfl hinv⟩
  have s19 : ∀ o, ops[19]? = some o → Step Tryz.prog ops (fun i' v => v = v8t0 b off n cap j p i') (fun _ W => Mod (fun _ => False) w0.drew W) a0 Q 19 o := by
    refine E19.step fun o hd ho hg hw => ?_
    intro y w listed hsz hls hun hwt hdown D R hinv K hK
    rw [ha0] at hsz
    exact .inr ⟨wanted_no E9 hg (by rw [hsz]; decide) (E9.post (Post := (fun i' v => v = v8t0 b off n cap j p i')) (a := y) D (hw 9 (by simp))), hK _ _ rfl hinv⟩
  have s20 : ∀ o, ops[20]? = some o → Step Tryz.prog ops (fun i' v => v = v8t0 b off n cap j p i') (fun _ W => Mod (fun _ => False) w0.drew W) a0 Q 20 o := by
    refine E20.step fun o hd ho hg hw => ?_
    intro y w listed hsz hls hun hwt hdown D R hinv K hK
    rw [ha0] at hsz
    exact .inr ⟨wanted_no E9 hg (by rw [hsz]; decide) (E9.post (Post := (fun i' v => v = v8t0 b off n cap j p i')) (a := y) D (hw 9 (by simp))), hK _ _ rfl hinv⟩
  have s21 : ∀ o, ops[21]? = some o → Step Tryz.prog ops (fun i' v => v = v8t0 b off n cap j p i') (fun _ W => Mod (fun _ => False) w0.drew W) a0 Q 21 o := by
    refine E21.step fun o hd ho hg hw => ?_
    intro y w listed hsz hls hun hwt hdown D R hinv K hK
    rw [ha0] at hsz
    exact .inr ⟨wanted_no E9 hg (by rw [hsz]; decide) (E9.post (Post := (fun i' v => v = v8t0 b off n cap j p i')) (a := y) D (hw 9 (by simp))), hK _ _ rfl hinv⟩
  have s22 : ∀ o, ops[22]? = some o → Step Tryz.prog ops (fun i' v => v = v8t0 b off n cap j p i') (fun _ W => Mod (fun _ => False) w0.drew W) a0 Q 22 o := by
    refine E22.step fun o hd ho hg hw => ?_
    intro y w listed hsz hls hun hwt hdown D R hinv K hK
    rw [ha0] at hsz
    refine .inl ⟨wanted_yes E6 hg (by rw [hsz]; decide) (E6.post (Post := (fun i' v => v = v8t0 b off n cap j p i')) (a := y) D (hw 6 (by simp))), ?_⟩
    have f29 : y.eval (Operand.tmp 29) = .bool false := E9.post (Post := (fun i' v => v = v8t0 b off n cap j p i')) (a := y) D (hw 9 (by simp))
    have f41 : y.eval (Operand.tmp 41) = undef := E21.post (Post := (fun i' v => v = v8t0 b off n cap j p i')) (a := y) D (hw 21 (by simp))
    exact wp_value (ox_pick ho f29 rfl) (hK _ _ rfl hinv)
  have s23 : ∀ o, ops[23]? = some o → Step Tryz.prog ops (fun i' v => v = v8t0 b off n cap j p i') (fun _ W => Mod (fun _ => False) w0.drew W) a0 Q 23 o := by
    refine E23.step fun o hd ho hg hw => ?_
    intro y w listed hsz hls hun hwt hdown D R hinv K hK
    rw [ha0] at hsz
    refine .inl ⟨wanted_none hg, ?_⟩
    have f26 : y.eval (Operand.tmp 26) = .bool false := E6.post (Post := (fun i' v => v = v8t0 b off n cap j p i')) (a := y) D (hw 6 (by simp))
    have f42 : y.eval (Operand.tmp 42) = .bool false := E22.post (Post := (fun i' v => v = v8t0 b off n cap j p i')) (a := y) D (hw 22 (by simp))
    exact wp_value (ox_pick ho f26 f42) (hK _ _ rfl hinv)
  refine region_free (Post := (fun i' v => v = v8t0 b off n cap j p i')) (Inv := (fun _ W => Mod (fun _ => False) w0.drew W)) hmx (low_of hlow) (fun i o ho => by rw [ha0]; exact dst_of (by rw [hds]; decide) i o ho) (inj_of hnd) (Mod.refl _ _) ?_ ?_
  · intro i o ho
    have hi : i < 24 := by
      rw [← hN]
      rcases Nat.lt_or_ge i ops.size with h | h
      · exact h
      · rw [Array.getElem?_eq_none h] at ho; cases ho
    clear hend
    by_cases e0 : i = 0
    · subst e0; exact s0 o ho
    by_cases e1 : i = 1
    · subst e1; exact s1 o ho
    by_cases e2 : i = 2
    · subst e2; exact s2 o ho
    by_cases e3 : i = 3
    · subst e3; exact s3 o ho
    by_cases e4 : i = 4
    · subst e4; exact s4 o ho
    by_cases e5 : i = 5
    · subst e5; exact s5 o ho
    by_cases e6 : i = 6
    · subst e6; exact s6 o ho
    by_cases e7 : i = 7
    · subst e7; exact s7 o ho
    by_cases e8 : i = 8
    · subst e8; exact s8 o ho
    by_cases e9 : i = 9
    · subst e9; exact s9 o ho
    by_cases e10 : i = 10
    · subst e10; exact s10 o ho
    by_cases e11 : i = 11
    · subst e11; exact s11 o ho
    by_cases e12 : i = 12
    · subst e12; exact s12 o ho
    by_cases e13 : i = 13
    · subst e13; exact s13 o ho
    by_cases e14 : i = 14
    · subst e14; exact s14 o ho
    by_cases e15 : i = 15
    · subst e15; exact s15 o ho
    by_cases e16 : i = 16
    · subst e16; exact s16 o ho
    by_cases e17 : i = 17
    · subst e17; exact s17 o ho
    by_cases e18 : i = 18
    · subst e18; exact s18 o ho
    by_cases e19 : i = 19
    · subst e19; exact s19 o ho
    by_cases e20 : i = 20
    · subst e20; exact s20 o ho
    by_cases e21 : i = 21
    · subst e21; exact s21 o ho
    by_cases e22 : i = 22
    · subst e22; exact s22 o ho
    by_cases e23 : i = 23
    · subst e23; exact s23 o ho
    omega
  · intro y w listed hsz hdf hls hall hinv hp hr
    have e : y = puts a0 [(20, .slice (some ⟨b, off, none⟩) n cap), (21, .int .i64 (j : Int)), (22, .pointer (some ⟨b, off + j * 4, none⟩)), (23, .agg #[.int .i64 p.ring, .int .i64 p.ps, .int .i64 p.pr, .int .i64 p.mb]), (24, .bool true), (25, .bool false), (26, .bool false), (27, .int .i64 (j : Int)), (28, .bool false), (29, .bool false), (30, undef), (31, undef), (32, undef), (33, undef), (34, undef), (35, undef), (36, undef), (37, undef), (38, undef), (39, undef), (40, undef), (41, undef), (42, .bool false), (43, .bool false)] := by
      refine eq_puts hsz hdf (nodup_of (D := [some 20, some 21, some 22, some 23, some 24, some 25, some 26, some 27, some 28, some 29, some 30, some 31, some 32, some 33, some 34, some 35, some 36, some 37, some 38, some 39, some 40, some 41, some 42, some 43]) rfl (by decide)) (by rw [ha0]; simp) ?_ ?_
      · intro q hq
        simp only [List.mem_cons, List.not_mem_nil, or_false] at hq
        rcases hq with rfl | rfl | rfl | rfl | rfl | rfl | rfl | rfl | rfl | rfl | rfl | rfl | rfl | rfl | rfl | rfl | rfl | rfl | rfl | rfl | rfl | rfl | rfl | rfl
        · obtain ⟨o, h1, h2, _⟩ := E0.ex; exact hp 0 o _ h1 h2
        · obtain ⟨o, h1, h2, _⟩ := E1.ex; exact hp 1 o _ h1 h2
        · obtain ⟨o, h1, h2, _⟩ := E2.ex; exact hp 2 o _ h1 h2
        · obtain ⟨o, h1, h2, _⟩ := E3.ex; exact hp 3 o _ h1 h2
        · obtain ⟨o, h1, h2, _⟩ := E4.ex; exact hp 4 o _ h1 h2
        · obtain ⟨o, h1, h2, _⟩ := E5.ex; exact hp 5 o _ h1 h2
        · obtain ⟨o, h1, h2, _⟩ := E6.ex; exact hp 6 o _ h1 h2
        · obtain ⟨o, h1, h2, _⟩ := E7.ex; exact hp 7 o _ h1 h2
        · obtain ⟨o, h1, h2, _⟩ := E8.ex; exact hp 8 o _ h1 h2
        · obtain ⟨o, h1, h2, _⟩ := E9.ex; exact hp 9 o _ h1 h2
        · obtain ⟨o, h1, h2, _⟩ := E10.ex; exact hp 10 o _ h1 h2
        · obtain ⟨o, h1, h2, _⟩ := E11.ex; exact hp 11 o _ h1 h2
        · obtain ⟨o, h1, h2, _⟩ := E12.ex; exact hp 12 o _ h1 h2
        · obtain ⟨o, h1, h2, _⟩ := E13.ex; exact hp 13 o _ h1 h2
        · obtain ⟨o, h1, h2, _⟩ := E14.ex; exact hp 14 o _ h1 h2
        · obtain ⟨o, h1, h2, _⟩ := E15.ex; exact hp 15 o _ h1 h2
        · obtain ⟨o, h1, h2, _⟩ := E16.ex; exact hp 16 o _ h1 h2
        · obtain ⟨o, h1, h2, _⟩ := E17.ex; exact hp 17 o _ h1 h2
        · obtain ⟨o, h1, h2, _⟩ := E18.ex; exact hp 18 o _ h1 h2
        · obtain ⟨o, h1, h2, _⟩ := E19.ex; exact hp 19 o _ h1 h2
        · obtain ⟨o, h1, h2, _⟩ := E20.ex; exact hp 20 o _ h1 h2
        · obtain ⟨o, h1, h2, _⟩ := E21.ex; exact hp 21 o _ h1 h2
        · obtain ⟨o, h1, h2, _⟩ := E22.ex; exact hp 22 o _ h1 h2
        · obtain ⟨o, h1, h2, _⟩ := E23.ex; exact hp 23 o _ h1 h2
      · intro t ht
        refine hr t (not_of ?_)
        rw [hds]
        simp only [List.mem_cons, List.not_mem_nil, or_false, forall_eq_or_imp, forall_eq] at ht
        simp only [List.contains_cons, List.contains_nil, Bool.or_eq_false_iff, beq_eq_false_iff_ne, ne_eq, Option.some.injEq, Bool.or_false]
        simp only [eq_comm (a := t)]
        simp [ht]
    rw [e]
    exact hend w hinv
def v8t1 (b off n cap j jj : Nat) (p : Pl) (qr : Int) (c : Bool) : Nat → Value
  | 0 => .slice (some ⟨b, off, none⟩) n cap
  | 1 => .int .i64 (j : Int)
  | 2 => .pointer (some ⟨b, off + j * 4, none⟩)
  | 3 => .agg #[.int .i64 p.ring, .int .i64 p.ps, .int .i64 p.pr, .int .i64 p.mb]
  | 4 => .bool true
  | 5 => .bool false
  | 6 => .bool false
  | 7 => .int .i64 (j : Int)
  | 8 => .bool true
  | 9 => .bool true
  | 10 => .slice (some ⟨b, off, none⟩) n cap
  | 11 => .int .i64 (j : Int)
  | 12 => .pointer (some ⟨b, off + j * 4, none⟩)
  | 13 => .pointer (some ⟨b, off + j * 4, none⟩)
  | 14 => .int .i64 p.ring
  | 15 => .slice (some ⟨b, off, none⟩) n cap
  | 16 => .int .i64 (j : Int)
  | 17 => .int .i64 (jj : Int)
  | 18 => .pointer (some ⟨b, off + jj * 4, none⟩)
  | 19 => .pointer (some ⟨b, off + jj * 4, none⟩)
  | 20 => .int .i64 qr
  | 21 => .bool c
  | 22 => .bool c
  | 23 => .bool c
  | _ => undef
set_option maxRecDepth 100000 in
set_option maxHeartbeats 4000000 in
theorem region8t1 {ops : Array Oper} {id : Nat} {a0 : Act} {w0 : World} {Q : Exit → Act → World → Prop} (b off n cap j jj : Nat) (p : Pl) (qr : Int) (c : Bool)
    (E0 : Is ops 0 (some 20) (Op.move (Operand.tmp 0)) none [])
    (E1 : Is ops 1 (some 21) (Op.move (Operand.tmp 5)) none [])
    (E2 : Is ops 2 (some 22) (Op.indexAddr 119 (Operand.tmp 20) (Operand.tmp 21)) none [0, 1])
    (E3 : Is ops 3 (some 23) (Op.load 147 (Operand.tmp 22)) none [2])
    (E4 : Is ops 4 (some 24) (Op.call { callee := Callee.value (Operand.func 126), args := #[Operand.tmp 23], argTypes := #[147] }) none [3])
    (E5 : Is ops 5 (some 25) (Op.unOp UnOp.not 4 (Operand.tmp 24)) none [4])
    (E6 : Is ops 6 (some 26) (Op.move (Operand.tmp 25)) none [4, 5])
    (E7 : Is ops 7 (some 27) (Op.move (Operand.tmp 5)) (some (6, false)) [6])
    (E8 : Is ops 8 (some 28) (Op.binOp BinOp.gtr 3 (Operand.tmp 27) (Operand.const (Value.int IntKind.i64 0)) 3) (some (6, false)) [6, 7])
    (E9 : Is ops 9 (some 29) (Op.move (Operand.tmp 28)) (some (6, false)) [6, 8])
    (E10 : Is ops 10 (some 30) (Op.move (Operand.tmp 0)) (some (9, true)) [9])
    (E11 : Is ops 11 (some 31) (Op.move (Operand.tmp 5)) (some (9, true)) [9])
    (E12 : Is ops 12 (some 32) (Op.indexAddr 119 (Operand.tmp 30) (Operand.tmp 31)) (some (9, true)) [9, 10, 11])
    (E13 : Is ops 13 (some 33) (Op.fieldAddr 147 (Operand.tmp 32) 0) (some (9, true)) [9, 12])
    (E14 : Is ops 14 (some 34) (Op.load 3 (Operand.tmp 33)) (some (9, true)) [9, 13])
    (E15 : Is ops 15 (some 35) (Op.move (Operand.tmp 0)) (some (9, true)) [9])
    (E16 : Is ops 16 (some 36) (Op.move (Operand.tmp 5)) (some (9, true)) [9])
    (E17 : Is ops 17 (some 37) (Op.binOp BinOp.sub 3 (Operand.tmp 36) (Operand.const (Value.int IntKind.i64 1)) 3) (some (9, true)) [9, 16])
    (E18 : Is ops 18 (some 38) (Op.indexAddr 119 (Operand.tmp 35) (Operand.tmp 37)) (some (9, true)) [9, 15, 17])
    (E19 : Is ops 19 (some 39) (Op.fieldAddr 147 (Operand.tmp 38) 0) (some (9, true)) [9, 18])
    (E20 : Is ops 20 (some 40) (Op.load 3 (Operand.tmp 39)) (some (9, true)) [9, 19])
    (E21 : Is ops 21 (some 41) (Op.binOp BinOp.leq 3 (Operand.tmp 34) (Operand.tmp 40) 3) (some (9, true)) [9, 14, 20])
    (E22 : Is ops 22 (some 42) (Op.pick (Operand.tmp 29) (Operand.tmp 41) (Operand.const (Value.bool false))) (some (6, false)) [6, 9, 21])
    (E23 : Is ops 23 (some 43) (Op.pick (Operand.tmp 26) (Operand.const (Value.bool true)) (Operand.tmp 42)) none [6, 22])
    (hN : ops.size = 24) (hlow : lowB ops = true) (hds : dsts ops = [some 20, some 21, some 22, some 23, some 24, some 25, some 26, some 27, some 28, some 29, some 30, some 31, some 32, some 33, some 34, some 35, some 36, some 37, some 38, some 39, some 40, some 41, some 42, some 43]) (hnd : injB ops = true)
    (hmx : Tryz.prog.follows .mixedOrders = true) (ha0 : a0.tmps.size = 76) (h0 : a0.tmps.getD 0 undef = .slice (some ⟨b, off, none⟩) n cap) (h5 : a0.tmps.getD 5 undef = .int .i64 (j : Int))
    (hj : j < n) (hc : Pc w0 b (off + j * 4) p) (HP : ∀ W, Calls Tryz.prog 126 #[.agg #[.int .i64 p.ring, .int .i64 p.ps, .int .i64 p.pr, .int .i64 p.mb]] W fun e w' => e = .returned (.bool true) ∧ Mod (fun _ => False) W w')
    (hy : decide (0 < (j : Int)) = true) (hjj : IntKind.i64.wrap ((j : Int) - 1) = (jj : Int)) (hjl : jj < n) (hq : w0.cell? ⟨b, off + jj * 4, none⟩ = some (.int .i64 qr)) (hcc : decide (p.ring ≤ qr) = c)
    (hend : ∀ w, Mod (fun _ => False) w0.drew w → Q .normal (puts a0 [(20, .slice (some ⟨b, off, none⟩) n cap), (21, .int .i64 (j : Int)), (22, .pointer (some ⟨b, off + j * 4, none⟩)), (23, .agg #[.int .i64 p.ring, .int .i64 p.ps, .int .i64 p.pr, .int .i64 p.mb]), (24, .bool true), (25, .bool false), (26, .bool false), (27, .int .i64 (j : Int)), (28, .bool true), (29, .bool true), (30, .slice (some ⟨b, off, none⟩) n cap), (31, .int .i64 (j : Int)), (32, .pointer (some ⟨b, off + j * 4, none⟩)), (33, .pointer (some ⟨b, off + j * 4, none⟩)), (34, .int .i64 p.ring), (35, .slice (some ⟨b, off, none⟩) n cap), (36, .int .i64 (j : Int)), (37, .int .i64 (jj : Int)), (38, .pointer (some ⟨b, off + jj * 4, none⟩)), (39, .pointer (some ⟨b, off + jj * 4, none⟩)), (40, .int .i64 qr), (41, .bool c), (42, .bool c), (43, .bool c)]) w) :
    (Code.region id ops true).wp Tryz.prog Q a0 w0 := by
  have hc0 : ∀ W, Mod (fun _ => False) w0.drew W → W.cell? ⟨b, off + j * 4, none⟩ = some (.int .i64 p.ring) := fun W hW => ((hc.mod ((Mod.refl (fun _ => False) w0).drew) (fun h => h)).mod hW (fun h => h)).1
  have hc4 : ∀ W, Mod (fun _ => False) w0.drew W → (Instr.loadAt 147 (.pointer (some ⟨b, off + j * 4, none⟩))).run Tryz.prog W = .ok (.agg #[.int .i64 p.ring, .int .i64 p.ps, .int .i64 p.pr, .int .i64 p.mb]) W := fun W hW => by
    obtain ⟨c0, c1, c2, c3⟩ := (hc.mod ((Mod.refl (fun _ => False) w0).drew) (fun h => h)).mod hW (fun h => h)
    exact ld4 c0 c1 c2 c3
  have hq0 : ∀ W, Mod (fun _ => False) w0.drew W → W.cell? ⟨b, off + jj * 4, none⟩ = some (.int .i64 qr) := fun W hW => hW.cell (by simpa using hq) (fun h => h)
  have s0 : ∀ o, ops[0]? = some o → Step Tryz.prog ops (fun i' v => v = v8t1 b off n cap j jj p qr c i') (fun _ W => Mod (fun _ => False) w0.drew W) a0 Q 0 o := by
    refine E0.step fun o hd ho hg hw => ?_
    intro y w listed hsz hls hun hwt hdown D R hinv K hK
    rw [ha0] at hsz
    refine .inl ⟨wanted_none hg, ?_⟩
    have f0 : y.eval (Operand.tmp 0) = .slice (some ⟨b, off, none⟩) n cap := (R 0 (not_of (by rw [hds]; decide))).trans h0
    exact wp_value (ox_move ho f0) (hK _ _ rfl hinv)
  have s1 : ∀ o, ops[1]? = some o → Step Tryz.prog ops (fun i' v => v = v8t1 b off n cap j jj p qr c i') (fun _ W => Mod (fun _ => False) w0.drew W) a0 Q 1 o := by
    refine E1.step fun o hd ho hg hw => ?_
    intro y w listed hsz hls hun hwt hdown D R hinv K hK
    rw [ha0] at hsz
    refine .inl ⟨wanted_none hg, ?_⟩
    have f5 : y.eval (Operand.tmp 5) = .int .i64 (j : Int) := (R 5 (not_of (by rw [hds]; decide))).trans h5
    exact wp_value (ox_move ho f5) (hK _ _ rfl hinv)
  have s2 : ∀ o, ops[2]? = some o → Step Tryz.prog ops (fun i' v => v = v8t1 b off n cap j jj p qr c i') (fun _ W => Mod (fun _ => False) w0.drew W) a0 Q 2 o := by
    refine E2.step fun o hd ho hg hw => ?_
    intro y w listed hsz hls hun hwt hdown D R hinv K hK
    rw [ha0] at hsz
    refine .inl ⟨wanted_none hg, ?_⟩
    have f20 : y.eval (Operand.tmp 20) = .slice (some ⟨b, off, none⟩) n cap := E0.post (Post := (fun i' v => v = v8t1 b off n cap j jj p qr c i')) (a := y) D (hw 0 (by simp))
    have f21 : y.eval (Operand.tmp 21) = .int .i64 (j : Int) := E1.post (Post := (fun i' v => v = v8t1 b off n cap j jj p qr c i')) (a := y) D (hw 1 (by simp))
    exact wp_value (ox_index ho f20 f21 (idx4 hj w)) (hK _ _ rfl hinv)
  have s3 : ∀ o, ops[3]? = some o → Step Tryz.prog ops (fun i' v => v = v8t1 b off n cap j jj p qr c i') (fun _ W => Mod (fun _ => False) w0.drew W) a0 Q 3 o := by
    refine E3.step fun o hd ho hg hw => ?_
    intro y w listed hsz hls hun hwt hdown D R hinv K hK
    rw [ha0] at hsz
    refine .inl ⟨wanted_none hg, ?_⟩
    have f22 : y.eval (Operand.tmp 22) = .pointer (some ⟨b, off + j * 4, none⟩) := E2.post (Post := (fun i' v => v = v8t1 b off n cap j jj p qr c i')) (a := y) D (hw 2 (by simp))
    exact wp_value (ox_load ho f22 (hc4 w hinv)) (hK _ _ rfl hinv)
  have s4 : ∀ o, ops[4]? = some o → Step Tryz.prog ops (fun i' v => v = v8t1 b off n cap j jj p qr c i') (fun _ W => Mod (fun _ => False) w0.drew W) a0 Q 4 o := by
    refine E4.step fun o hd ho hg hw => ?_
    intro y w listed hsz hls hun hwt hdown D R hinv K hK
    rw [ha0] at hsz
    refine .inl ⟨wanted_none hg, ?_⟩
    have f23 : y.eval (Operand.tmp 23) = .agg #[.int .i64 p.ring, .int .i64 p.ps, .int .i64 p.pr, .int .i64 p.mb] := E3.post (Post := (fun i' v => v = v8t1 b off n cap j jj p qr c i')) (a := y) D (hw 3 (by simp))
    refine wp_enter (f := 126) (args := #[.agg #[.int .i64 p.ring, .int .i64 p.ps, .int .i64 p.pr, .int .i64 p.mb]]) ?_ (HP w) ?_
    · rw [exec_call1 y.eval (fun args w => by simp [go_sem]) rfl ho, f23]
    · rintro e w' ⟨rfl, hm⟩
      exact ⟨_, rfl, hK _ _ rfl (hinv.trans hm (fun _ _ h => h) (fun _ _ h => h))⟩
  have s5 : ∀ o, ops[5]? = some o → Step Tryz.prog ops (fun i' v => v = v8t1 b off n cap j jj p qr c i') (fun _ W => Mod (fun _ => False) w0.drew W) a0 Q 5 o := by
    refine E5.step fun o hd ho hg hw => ?_
    intro y w listed hsz hls hun hwt hdown D R hinv K hK
    rw [ha0] at hsz
    refine .inl ⟨wanted_none hg, ?_⟩
    have f24 : y.eval (Operand.tmp 24) = .bool true := E4.post (Post := (fun i' v => v = v8t1 b off n cap j jj p qr c i')) (a := y) D (hw 4 (by simp))
    exact wp_value (ox_not ho f24) (hK _ _ rfl hinv)
  have s6 : ∀ o, ops[6]? = some o → Step Tryz.prog ops (fun i' v => v = v8t1 b off n cap j jj p qr c i') (fun _ W => Mod (fun _ => False) w0.drew W) a0 Q 6 o := by
    refine E6.step fun o hd ho hg hw => ?_
    intro y w listed hsz hls hun hwt hdown D R hinv K hK
    rw [ha0] at hsz
    refine .inl ⟨wanted_none hg, ?_⟩
    have f25 : y.eval (Operand.tmp 25) = .bool false := E5.post (Post := (fun i' v => v = v8t1 b off n cap j jj p qr c i')) (a := y) D (hw 5 (by simp))
    exact wp_value (ox_move ho f25) (hK _ _ rfl hinv)
  have s7 : ∀ o, ops[7]? = some o → Step Tryz.prog ops (fun i' v => v = v8t1 b off n cap j jj p qr c i') (fun _ W => Mod (fun _ => False) w0.drew W) a0 Q 7 o := by
    refine E7.step fun o hd ho hg hw => ?_
    intro y w listed hsz hls hun hwt hdown D R hinv K hK
    rw [ha0] at hsz
    refine .inl ⟨wanted_yes E6 hg (by rw [hsz]; decide) (E6.post (Post := (fun i' v => v = v8t1 b off n cap j jj p qr c i')) (a := y) D (hw 6 (by simp))), ?_⟩
    have f5 : y.eval (Operand.tmp 5) = .int .i64 (j : Int) := (R 5 (not_of (by rw [hds]; decide))).trans h5
    exact wp_value (ox_move ho f5) (hK _ _ rfl hinv)
  have s8 : ∀ o, ops[8]? = some o → Step Tryz.prog ops (fun i' v => v = v8t1 b off n cap j jj p qr c i') (fun _ W => Mod (fun _ => False) w0.drew W) a0 Q 8 o := by
    refine E8.step fun o hd ho hg hw => ?_
    intro y w listed hsz hls hun hwt hdown D R hinv K hK
    rw [ha0] at hsz
    refine .inl ⟨wanted_yes E6 hg (by rw [hsz]; decide) (E6.post (Post := (fun i' v => v = v8t1 b off n cap j jj p qr c i')) (a := y) D (hw 6 (by simp))), ?_⟩
    have f27 : y.eval (Operand.tmp 27) = .int .i64 (j : Int) := E7.post (Post := (fun i' v => v = v8t1 b off n cap j jj p qr c i')) (a := y) D (hw 7 (by simp))
    exact wp_value (ox_gtr0 ho (fun _ => rfl) f27 hy) (hK _ _ rfl hinv)
  have s9 : ∀ o, ops[9]? = some o → Step Tryz.prog ops (fun i' v => v = v8t1 b off n cap j jj p qr c i') (fun _ W => Mod (fun _ => False) w0.drew W) a0 Q 9 o := by
    refine E9.step fun o hd ho hg hw => ?_
    intro y w listed hsz hls hun hwt hdown D R hinv K hK
    rw [ha0] at hsz
    refine .inl ⟨wanted_yes E6 hg (by rw [hsz]; decide) (E6.post (Post := (fun i' v => v = v8t1 b off n cap j jj p qr c i')) (a := y) D (hw 6 (by simp))), ?_⟩
    have f28 : y.eval (Operand.tmp 28) = .bool true := E8.post (Post := (fun i' v => v = v8t1 b off n cap j jj p qr c i')) (a := y) D (hw 8 (by simp))
    exact wp_value (ox_move ho f28) (hK _ _ rfl hinv)
  have s10 : ∀ o, ops[10]? = some o → Step Tryz.prog ops (fun i' v => v = v8t1 b off n cap j jj p qr c i') (fun _ W => Mod (fun _ => False) w0.drew W) a0 Q 10 o := by
    refine E10.step fun o hd ho hg hw => ?_
    intro y w listed hsz hls hun hwt hdown D R hinv K hK
    rw [ha0] at hsz
    refine .inl ⟨wanted_yes E9 hg (by rw [hsz]; decide) (E9.post (Post := (fun i' v => v = v8t1 b off n cap j jj p qr c i')) (a := y) D (hw 9 (by simp))), ?_⟩
    have f0 : y.eval (Operand.tmp 0) = .slice (some ⟨b, off, none⟩) n cap := (R 0 (not_of (by rw [hds]; decide))).trans h0
    exact wp_value (ox_move ho f0) (hK _ _ rfl hinv)
  have s11 : ∀ o, ops[11]? = some o → Step Tryz.prog ops (fun i' v => v = v8t1 b off n cap j jj p qr c i') (fun _ W => Mod (fun _ => False) w0.drew W) a0 Q 11 o := by
    refine E11.step fun o hd ho hg hw => ?_
    intro y w listed hsz hls hun hwt hdown D R hinv K hK
    rw [ha0] at hsz
    refine .inl ⟨wanted_yes E9 hg (by rw [hsz]; decide) (E9.post (Post := (fun i' v => v = v8t1 b off n cap j jj p qr c i')) (a := y) D (hw 9 (by simp))), ?_⟩
    have f5 : y.eval (Operand.tmp 5) = .int .i64 (j : Int) := (R 5 (not_of (by rw [hds]; decide))).trans h5
    exact wp_value (ox_move ho f5) (hK _ _ rfl hinv)
  have s12 : ∀ o, ops[12]? = some o → Step Tryz.prog ops (fun i' v => v = v8t1 b off n cap j jj p qr c i') (fun _ W => Mod (fun _ => False) w0.drew W) a0 Q 12 o := by
    refine E12.step fun o hd ho hg hw => ?_
    intro y w listed hsz hls hun hwt hdown D R hinv K hK
    rw [ha0] at hsz
    refine .inl ⟨wanted_yes E9 hg (by rw [hsz]; decide) (E9.post (Post := (fun i' v => v = v8t1 b off n cap j jj p qr c i')) (a := y) D (hw 9 (by simp))), ?_⟩
    have f30 : y.eval (Operand.tmp 30) = .slice (some ⟨b, off, none⟩) n cap := E10.post (Post := (fun i' v => v = v8t1 b off n cap j jj p qr c i')) (a := y) D (hw 10 (by simp))
    have f31 : y.eval (Operand.tmp 31) = .int .i64 (j : Int) := E11.post (Post := (fun i' v => v = v8t1 b off n cap j jj p qr c i')) (a := y) D (hw 11 (by simp))
    exact wp_value (ox_index ho f30 f31 (idx4 hj w)) (hK _ _ rfl hinv)
  have s13 : ∀ o, ops[13]? = some o → Step Tryz.prog ops (fun i' v => v = v8t1 b off n cap j jj p qr c i') (fun _ W => Mod (fun _ => False) w0.drew W) a0 Q 13 o := by
    refine E13.step fun o hd ho hg hw => ?_
    intro y w listed hsz hls hun hwt hdown D R hinv K hK
    rw [ha0] at hsz
    refine .inl ⟨wanted_yes E9 hg (by rw [hsz]; decide) (E9.post (Post := (fun i' v => v = v8t1 b off n cap j jj p qr c i')) (a := y) D (hw 9 (by simp))), ?_⟩
    have f32 : y.eval (Operand.tmp 32) = .pointer (some ⟨b, off + j * 4, none⟩) := E12.post (Post := (fun i' v => v = v8t1 b off n cap j jj p qr c i')) (a := y) D (hw 12 (by simp))
    exact wp_value (ox_field ho f32 (fld0 w)) (hK _ _ rfl hinv)
  have s14 : ∀ o, ops[14]? = some o → Step Tryz.prog ops (fun i' v => v = v8t1 b off n cap j jj p qr c i') (fun _ W => Mod (fun _ => False) w0.drew W) a0 Q 14 o := by
    refine E14.step fun o hd ho hg hw => ?_
    intro y w listed hsz hls hun hwt hdown D R hinv K hK
    rw [ha0] at hsz
    refine .inl ⟨wanted_yes E9 hg (by rw [hsz]; decide) (E9.post (Post := (fun i' v => v = v8t1 b off n cap j jj p qr c i')) (a := y) D (hw 9 (by simp))), ?_⟩
    have f33 : y.eval (Operand.tmp 33) = .pointer (some ⟨b, off + j * 4, none⟩) := E13.post (Post := (fun i' v => v = v8t1 b off n cap j jj p qr c i')) (a := y) D (hw 13 (by simp))
    exact wp_value (ox_load ho f33 (ld1 (hc0 w hinv))) (hK _ _ rfl hinv)
  have s15 : ∀ o, ops[15]? = some o → Step Tryz.prog ops (fun i' v => v = v8t1 b off n cap j jj p qr c i') (fun _ W => Mod (fun _ => False) w0.drew W) a0 Q 15 o := by
    refine E15.step fun o hd ho hg hw => ?_
    intro y w listed hsz hls hun hwt hdown D R hinv K hK
    rw [ha0] at hsz
    refine .inl ⟨wanted_yes E9 hg (by rw [hsz]; decide) (E9.post (Post := (fun i' v => v = v8t1 b off n cap j jj p qr c i')) (a := y) D (hw 9 (by simp))), ?_⟩
    have f0 : y.eval (Operand.tmp 0) = .slice (some ⟨b, off, none⟩) n cap := (R 0 (not_of (by rw [hds]; decide))).trans h0
    exact wp_value (ox_move ho f0) (hK _ _ rfl hinv)
  have s16 : ∀ o, ops[16]? = some o → Step Tryz.prog ops (fun i' v => v = v8t1 b off n cap j jj p qr c i') (fun _ W => Mod (fun _ => False) w0.drew W) a0 Q 16 o := by
    refine E16.step fun o hd ho hg hw => ?_
    intro y w listed hsz hls hun hwt hdown D R hinv K hK
    rw [ha0] at hsz
    refine .inl ⟨wanted_yes E9 hg (by rw [hsz]; decide) (E9.post (Post := (fun i' v => v = v8t1 b off n cap j jj p qr c i')) (a := y) D (hw 9 (by simp))), ?_⟩
    have f5 : y.eval (Operand.tmp 5) = .int .i64 (j : Int) := (R 5 (not_of (by rw [hds]; decide))).trans h5
    exact wp_value (ox_move ho f5) (hK _ _ rfl hinv)
  have s17 : ∀ o, ops[17]? = some o → Step Tryz.prog ops (fun i' v => v = v8t1 b off n cap j jj p qr c i') (fun _ W => Mod (fun _ => False) w0.drew W) a0 Q 17 o := by
    refine E17.step fun o hd ho hg hw => ?_
    intro y w listed hsz hls hun hwt hdown D R hinv K hK
    rw [ha0] at hsz
    refine .inl ⟨wanted_yes E9 hg (by rw [hsz]; decide) (E9.post (Post := (fun i' v => v = v8t1 b off n cap j jj p qr c i')) (a := y) D (hw 9 (by simp))), ?_⟩
    have f36 : y.eval (Operand.tmp 36) = .int .i64 (j : Int) := E16.post (Post := (fun i' v => v = v8t1 b off n cap j jj p qr c i')) (a := y) D (hw 16 (by simp))
    exact wp_value (ox_sub1 ho (fun _ => rfl) f36 hjj) (hK _ _ rfl hinv)
  have s18 : ∀ o, ops[18]? = some o → Step Tryz.prog ops (fun i' v => v = v8t1 b off n cap j jj p qr c i') (fun _ W => Mod (fun _ => False) w0.drew W) a0 Q 18 o := by
    refine E18.step fun o hd ho hg hw => ?_
    intro y w listed hsz hls hun hwt hdown D R hinv K hK
    rw [ha0] at hsz
    refine .inl ⟨wanted_yes E9 hg (by rw [hsz]; decide) (E9.post (Post := (fun i' v => v = v8t1 b off n cap j jj p qr c i')) (a := y) D (hw 9 (by simp))), ?_⟩
    have f35 : y.eval (Operand.tmp 35) = .slice (some ⟨b, off, none⟩) n cap := E15.post (Post := (fun i' v => v = v8t1 b off n cap j jj p qr c i')) (a := y) D (hw 15 (by simp))
    have f37 : y.eval (Operand.tmp 37) = .int .i64 (jj : Int) := E17.post (Post := (fun i' v => v = v8t1 b off n cap j jj p qr c i')) (a := y) D (hw 17 (by simp))
    exact wp_value (ox_index ho f35 f37 (idx4 hjl w)) (hK _ _ rfl hinv)
  have s19 : ∀ o, ops[19]? = some o → Step Tryz.prog ops (fun i' v => v = v8t1 b off n cap j jj p qr c i') (fun _ W => Mod (fun _ => False) w0.drew W) a0 Q 19 o := by
    refine E19.step fun o hd ho hg hw => ?_
    intro y w listed hsz hls hun hwt hdown D R hinv K hK
    rw [ha0] at hsz
    refine .inl ⟨wanted_yes E9 hg (by rw [hsz]; decide) (E9.post (Post := (fun i' v => v = v8t1 b off n cap j jj p qr c i')) (a := y) D (hw 9 (by simp))), ?_⟩
    have f38 : y.eval (Operand.tmp 38) = .pointer (some ⟨b, off + jj * 4, none⟩) := E18.post (Post := (fun i' v => v = v8t1 b off n cap j jj p qr c i')) (a := y) D (hw 18 (by simp))
    exact wp_value (ox_field ho f38 (fld0 w)) (hK _ _ rfl hinv)
  have s20 : ∀ o, ops[20]? = some o → Step Tryz.prog ops (fun i' v => v = v8t1 b off n cap j jj p qr c i') (fun _ W => Mod (fun _ => False) w0.drew W) a0 Q 20 o := by
    refine E20.step fun o hd ho hg hw => ?_
    intro y w listed hsz hls hun hwt hdown D R hinv K hK
    rw [ha0] at hsz
    refine .inl ⟨wanted_yes E9 hg (by rw [hsz]; decide) (E9.post (Post := (fun i' v => v = v8t1 b off n cap j jj p qr c i')) (a := y) D (hw 9 (by simp))), ?_⟩
    have f39 : y.eval (Operand.tmp 39) = .pointer (some ⟨b, off + jj * 4, none⟩) := E19.post (Post := (fun i' v => v = v8t1 b off n cap j jj p qr c i')) (a := y) D (hw 19 (by simp))
    exact wp_value (ox_load ho f39 (ld1 (hq0 w hinv))) (hK _ _ rfl hinv)
  have s21 : ∀ o, ops[21]? = some o → Step Tryz.prog ops (fun i' v => v = v8t1 b off n cap j jj p qr c i') (fun _ W => Mod (fun _ => False) w0.drew W) a0 Q 21 o := by
    refine E21.step fun o hd ho hg hw => ?_
    intro y w listed hsz hls hun hwt hdown D R hinv K hK
    rw [ha0] at hsz
    refine .inl ⟨wanted_yes E9 hg (by rw [hsz]; decide) (E9.post (Post := (fun i' v => v = v8t1 b off n cap j jj p qr c i')) (a := y) D (hw 9 (by simp))), ?_⟩
    have f34 : y.eval (Operand.tmp 34) = .int .i64 p.ring := E14.post (Post := (fun i' v => v = v8t1 b off n cap j jj p qr c i')) (a := y) D (hw 14 (by simp))
    have f40 : y.eval (Operand.tmp 40) = .int .i64 qr := E20.post (Post := (fun i' v => v = v8t1 b off n cap j jj p qr c i')) (a := y) D (hw 20 (by simp))
    exact wp_value (ox_leq ho f34 f40 hcc) (hK _ _ rfl hinv)
  have s22 : ∀ o, ops[22]? = some o → Step Tryz.prog ops (fun i' v => v = v8t1 b off n cap j jj p qr c i') (fun _ W => Mod (fun _ => False) w0.drew W) a0 Q 22 o := by
    refine E22.step fun o hd ho hg hw => ?_
    intro y w listed hsz hls hun hwt hdown D R hinv K hK
    rw [ha0] at hsz
    refine .inl ⟨wanted_yes E6 hg (by rw [hsz]; decide) (E6.post (Post := (fun i' v => v = v8t1 b off n cap j jj p qr c i')) (a := y) D (hw 6 (by simp))), ?_⟩
    have f29 : y.eval (Operand.tmp 29) = .bool true := E9.post (Post := (fun i' v => v = v8t1 b off n cap j jj p qr c i')) (a := y) D (hw 9 (by simp))
    have f41 : y.eval (Operand.tmp 41) = .bool c := E21.post (Post := (fun i' v => v = v8t1 b off n cap j jj p qr c i')) (a := y) D (hw 21 (by simp))
    exact wp_value (ox_pick ho f29 f41) (hK _ _ rfl hinv)
  have s23 : ∀ o, ops[23]? = some o → Step Tryz.prog ops (fun i' v => v = v8t1 b off n cap j jj p qr c i') (fun _ W => Mod (fun _ => False) w0.drew W) a0 Q 23 o := by
    refine E23.step fun o hd ho hg hw => ?_
    intro y w listed hsz hls hun hwt hdown D R hinv K hK
    rw [ha0] at hsz
    refine .inl ⟨wanted_none hg, ?_⟩
    have f26 : y.eval (Operand.tmp 26) = .bool false := E6.post (Post := (fun i' v => v = v8t1 b off n cap j jj p qr c i')) (a := y) D (hw 6 (by simp))
    have f42 : y.eval (Operand.tmp 42) = .bool c := E22.post (Post := (fun i' v => v = v8t1 b off n cap j jj p qr c i')) (a := y) D (hw 22 (by simp))
    exact wp_value (ox_pick ho f26 f42) (hK _ _ rfl hinv)
  refine region_free (Post := (fun i' v => v = v8t1 b off n cap j jj p qr c i')) (Inv := (fun _ W => Mod (fun _ => False) w0.drew W)) hmx (low_of hlow) (fun i o ho => by rw [ha0]; exact dst_of (by rw [hds]; decide) i o ho) (inj_of hnd) (Mod.refl _ _) ?_ ?_
  · intro i o ho
    have hi : i < 24 := by
      rw [← hN]
      rcases Nat.lt_or_ge i ops.size with h | h
      · exact h
      · rw [Array.getElem?_eq_none h] at ho; cases ho
    clear hend
    by_cases e0 : i = 0
    · subst e0; exact s0 o ho
    by_cases e1 : i = 1
    · subst e1; exact s1 o ho
    by_cases e2 : i = 2
    · subst e2; exact s2 o ho
    by_cases e3 : i = 3
    · subst e3; exact s3 o ho
    by_cases e4 : i = 4
    · subst e4; exact s4 o ho
    by_cases e5 : i = 5
    · subst e5; exact s5 o ho
    by_cases e6 : i = 6
    · subst e6; exact s6 o ho
    by_cases e7 : i = 7
    · subst e7; exact s7 o ho
    by_cases e8 : i = 8
    · subst e8; exact s8 o ho
    by_cases e9 : i = 9
    · subst e9; exact s9 o ho
    by_cases e10 : i = 10
    · subst e10; exact s10 o ho
    by_cases e11 : i = 11
    · subst e11; exact s11 o ho
    by_cases e12 : i = 12
    · subst e12; exact s12 o ho
    by_cases e13 : i = 13
    · subst e13; exact s13 o ho
    by_cases e14 : i = 14
    · subst e14; exact s14 o ho
    by_cases e15 : i = 15
    · subst e15; exact s15 o ho
    by_cases e16 : i = 16
    · subst e16; exact s16 o ho
    by_cases e17 : i = 17
    · subst e17; exact s17 o ho
    by_cases e18 : i = 18
    · subst e18; exact s18 o ho
    by_cases e19 : i = 19
    · subst e19; exact s19 o ho
    by_cases e20 : i = 20
    · subst e20; exact s20 o ho
    by_cases e21 : i = 21
    · subst e21; exact s21 o ho
    by_cases e22 : i = 22
    · subst e22; exact s22 o ho
    by_cases e23 : i = 23
    · subst e23; exact s23 o ho
    omega
  · intro y w listed hsz hdf hls hall hinv hp hr
    have e : y = puts a0 [(20, .slice (some ⟨b, off, none⟩) n cap), (21, .int .i64 (j : Int)), (22, .pointer (some ⟨b, off + j * 4, none⟩)), (23, .agg #[.int .i64 p.ring, .int .i64 p.ps, .int .i64 p.pr, .int .i64 p.mb]), (24, .bool true), (25, .bool false), (26, .bool false), (27, .int .i64 (j : Int)), (28, .bool true), (29, .bool true), (30, .slice (some ⟨b, off, none⟩) n cap), (31, .int .i64 (j : Int)), (32, .pointer (some ⟨b, off + j * 4, none⟩)), (33, .pointer (some ⟨b, off + j * 4, none⟩)), (34, .int .i64 p.ring), (35, .slice (some ⟨b, off, none⟩) n cap), (36, .int .i64 (j : Int)), (37, .int .i64 (jj : Int)), (38, .pointer (some ⟨b, off + jj * 4, none⟩)), (39, .pointer (some ⟨b, off + jj * 4, none⟩)), (40, .int .i64 qr), (41, .bool c), (42, .bool c), (43, .bool c)] := by
      refine eq_puts hsz hdf (nodup_of (D := [some 20, some 21, some 22, some 23, some 24, some 25, some 26, some 27, some 28, some 29, some 30, some 31, some 32, some 33, some 34, some 35, some 36, some 37, some 38, some 39, some 40, some 41, some 42, some 43]) rfl (by decide)) (by rw [ha0]; simp) ?_ ?_
      · intro q hq
        simp only [List.mem_cons, List.not_mem_nil, or_false] at hq
        rcases hq with rfl | rfl | rfl | rfl | rfl | rfl | rfl | rfl | rfl | rfl | rfl | rfl | rfl | rfl | rfl | rfl | rfl | rfl | rfl | rfl | rfl | rfl | rfl | rfl
        · obtain ⟨o, h1, h2, _⟩ := E0.ex; exact hp 0 o _ h1 h2
        · obtain ⟨o, h1, h2, _⟩ := E1.ex; exact hp 1 o _ h1 h2
        · obtain ⟨o, h1, h2, _⟩ := E2.ex; exact hp 2 o _ h1 h2
        · obtain ⟨o, h1, h2, _⟩ := E3.ex; exact hp 3 o _ h1 h2
        · obtain ⟨o, h1, h2, _⟩ := E4.ex; exact hp 4 o _ h1 h2
        · obtain ⟨o, h1, h2, _⟩ := E5.ex; exact hp 5 o _ h1 h2
        · obtain ⟨o, h1, h2, _⟩ := E6.ex; exact hp 6 o _ h1 h2
        · obtain ⟨o, h1, h2, _⟩ := E7.ex; exact hp 7 o _ h1 h2
        · obtain ⟨o, h1, h2, _⟩ := E8.ex; exact hp 8 o _ h1 h2
        · obtain ⟨o, h1, h2, _⟩ := E9.ex; exact hp 9 o _ h1 h2
        · obtain ⟨o, h1, h2, _⟩ := E10.ex; exact hp 10 o _ h1 h2
        · obtain ⟨o, h1, h2, _⟩ := E11.ex; exact hp 11 o _ h1 h2
        · obtain ⟨o, h1, h2, _⟩ := E12.ex; exact hp 12 o _ h1 h2
        · obtain ⟨o, h1, h2, _⟩ := E13.ex; exact hp 13 o _ h1 h2
        · obtain ⟨o, h1, h2, _⟩ := E14.ex; exact hp 14 o _ h1 h2
        · obtain ⟨o, h1, h2, _⟩ := E15.ex; exact hp 15 o _ h1 h2
        · obtain ⟨o, h1, h2, _⟩ := E16.ex; exact hp 16 o _ h1 h2
        · obtain ⟨o, h1, h2, _⟩ := E17.ex; exact hp 17 o _ h1 h2
        · obtain ⟨o, h1, h2, _⟩ := E18.ex; exact hp 18 o _ h1 h2
        · obtain ⟨o, h1, h2, _⟩ := E19.ex; exact hp 19 o _ h1 h2
        · obtain ⟨o, h1, h2, _⟩ := E20.ex; exact hp 20 o _ h1 h2
        · obtain ⟨o, h1, h2, _⟩ := E21.ex; exact hp 21 o _ h1 h2
        · obtain ⟨o, h1, h2, _⟩ := E22.ex; exact hp 22 o _ h1 h2
        · obtain ⟨o, h1, h2, _⟩ := E23.ex; exact hp 23 o _ h1 h2
      · intro t ht
        refine hr t (not_of ?_)
        rw [hds]
        simp only [List.mem_cons, List.not_mem_nil, or_false, forall_eq_or_imp, forall_eq] at ht
        simp only [List.contains_cons, List.contains_nil, Bool.or_eq_false_iff, beq_eq_false_iff_ne, ne_eq, Option.some.injEq, Bool.or_false]
        simp only [eq_comm (a := t)]
        simp [ht]
    rw [e]
    exact hend w hinv
end Go.Proofs.YthiijonmnebjgaaGreat
