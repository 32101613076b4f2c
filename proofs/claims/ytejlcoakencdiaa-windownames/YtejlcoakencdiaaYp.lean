/- The statement of WindowPlays that draws its order and asks all that both windows tell. Conditions: what is said of the slots that it reads, of the cells and of the calls. -/
import Derived.Test.YtejlcoakencdiaaYx
import Derived.Test.YtejlcoakencdiaaFrw
namespace Go.Proofs.Ytejlcoakencdiaa
open Go.RowKit
theorem neqB {o : Oper} {w : World} {ρ : Operand → Value} {x y : Operand} (ho : o.op = .binOp .neq 4 x y 4) {c : Bool} (hx : ρ x = .bool c) (hy : ρ y = .bool c) : (execOp ρ o).run Try.prog w = .ok (.value (.bool false)) w := by
  simp [execOp, ho, hx, hy, go_sem]
theorem neqI {o : Oper} {w : World} {ρ : Operand → Value} {x y : Operand} (ho : o.op = .binOp .neq 3 x y 3) {c : Int} (hx : ρ x = .int .i64 c) (hy : ρ y = .int .i64 c) : (execOp ρ o).run Try.prog w = .ok (.value (.bool false)) w := by
  simp [execOp, ho, hx, hy, go_sem]
theorem fldN {b : Nat} (w : World) : (Instr.fieldAt 37 (.pointer (some ⟨b, 0, none⟩)) 1).run Try.prog w = .ok (.pointer (some ⟨b, 1, none⟩)) w := by
  simp [go_sem]
theorem ldI {b o : Nat} {x : Int} {w : World} (h0 : w.cell? ⟨b, o, none⟩ = some (.int .i64 x)) : (Instr.loadAt 3 (.pointer (some ⟨b, o, none⟩))).run Try.prog w = .ok (.int .i64 x) w := by
  simp [go_sem, h0]
def v24 (p q bx : Nat) (dd : Dt) (ua ub lv : Value) (g : Bool) (a h n : Int) : Nat → Value
  | 0 => .bool g
  | 1 => .bool g
  | 2 => .bool false
  | 3 => .bool false
  | 4 => dv dd ua
  | 5 => dv dd ub
  | 6 => .bool true
  | 7 => .bool false
  | 8 => .bool false
  | 9 => .bool false
  | 10 => .pointer (some ⟨p, 0, none⟩)
  | 11 => .int .i64 a
  | 12 => .pointer (some ⟨q, 0, none⟩)
  | 13 => .int .i64 a
  | 14 => .bool false
  | 15 => .bool false
  | 16 => .bool false
  | 17 => .pointer (some ⟨p, 0, none⟩)
  | 18 => .int .i64 h
  | 19 => .pointer (some ⟨q, 0, none⟩)
  | 20 => .int .i64 h
  | 21 => .bool false
  | 22 => .bool false
  | 23 => .bool false
  | 24 => .pointer (some ⟨p, 0, none⟩)
  | 25 => .pointer (some ⟨bx, 1, none⟩)
  | 26 => .int .i64 n
  | 28 => .pointer (some ⟨q, 0, none⟩)
  | 29 => .pointer (some ⟨bx, 1, none⟩)
  | 30 => .int .i64 n
  | 32 => .bool true
  | 33 => .bool false
  | 34 => .bool false
  | 35 => .bool false
  | 36 => lv
  | 37 => .pointer (some ⟨q, 0, none⟩)
  | 38 => .pointer (some ⟨bx, 1, none⟩)
  | 39 => .int .i64 n
  | 41 => .bool true
  | 42 => .bool false
  | 43 => .bool false
  | _ => undef
/-- What an operation leaves. -/
def q24 (p q bx : Nat) (dd : Dt) (ua ub lv : Value) (g : Bool) (a h n : Int) (G : List Int) (D : List Dt) (i : Nat) (v : Value) (w : World) : Prop :=
  if i = 27 ∨ i = 31 then Cr.Own w v G else if i = 40 then ∃ os b, Rd18 w b v os ∧ os.map (·.1) = D else v = v24 p q bx dd ua ub lv g a h n i
theorem q24_stab {p q bx : Nat} {dd : Dt} {ua ub lv : Value} {g : Bool} {a h n : Int} {G : List Int} {D : List Dt} : ∀ i v w w', Mod (fun _ => False) w w' → q24 p q bx dd ua ub lv g a h n G D i v w → q24 p q bx dd ua ub lv g a h n G D i v w' := by
  intro i v w w' hm h
  unfold q24 at h ⊢
  split
  · rw [if_pos (by assumption)] at h
    exact h.mod hm (fun _ _ h => h)
  · rw [if_neg (by assumption)] at h
    split
    · rw [if_pos (by assumption)] at h
      obtain ⟨os, b, h1, h2⟩ := h
      exact ⟨os, b, h1.keep hm, h2⟩
    · rw [if_neg (by assumption)] at h
      exact h
set_option maxRecDepth 100000 in
set_option maxHeartbeats 4000000 in
theorem region24 {ops : Array Oper} {id : Nat} {a0 : Act} {w0 : World} {Q : Exit → Act → World → Prop} (p q bx bA bB : Nat) (dd : Dt) (ua ub lv : Value) (g : Bool) (a h n : Int) (G : List Int) (D : List Dt)
    (E0 : Is ops 0 (some 118) (Op.move (Operand.tmp 14)) none [])
    (E1 : Is ops 1 (some 119) (Op.move (Operand.tmp 16)) none [])
    (E2 : Is ops 2 (some 120) (Op.binOp BinOp.neq 4 (Operand.tmp 118) (Operand.tmp 119) 4) none [0, 1])
    (E3 : Is ops 3 (some 121) (Op.move (Operand.tmp 120)) none [2])
    (E4 : Is ops 4 (some 122) (Op.load 35 (Operand.tmp 13)) (some (3, false)) [3])
    (E5 : Is ops 5 (some 123) (Op.load 35 (Operand.tmp 15)) (some (3, false)) [3])
    (E6 : Is ops 6 (some 124) (Op.call { callee := Callee.value (Operand.func 14), args := #[Operand.tmp 122, Operand.tmp 123], argTypes := #[35, 35] }) (some (3, false)) [3, 4, 5])
    (E7 : Is ops 7 (some 125) (Op.unOp UnOp.not 4 (Operand.tmp 124)) (some (3, false)) [3, 6])
    (E8 : Is ops 8 (some 126) (Op.pick (Operand.tmp 121) (Operand.const (Value.bool true)) (Operand.tmp 125)) none [3, 7])
    (E9 : Is ops 9 (some 127) (Op.move (Operand.tmp 126)) none [6, 8])
    (E10 : Is ops 10 (some 128) (Op.move (Operand.tmp 3)) (some (9, false)) [9])
    (E11 : Is ops 11 (some 129) (Op.call { callee := Callee.value (Operand.func 18), args := #[Operand.tmp 128], argTypes := #[23] }) (some (9, false)) [9, 10])
    (E12 : Is ops 12 (some 130) (Op.move (Operand.tmp 4)) (some (9, false)) [9])
    (E13 : Is ops 13 (some 131) (Op.call { callee := Callee.value (Operand.func 19), args := #[Operand.tmp 130], argTypes := #[25] }) (some (9, false)) [9, 11, 12])
    (E14 : Is ops 14 (some 132) (Op.binOp BinOp.neq 3 (Operand.tmp 129) (Operand.tmp 131) 3) (some (9, false)) [9, 11, 13])
    (E15 : Is ops 15 (some 133) (Op.pick (Operand.tmp 127) (Operand.const (Value.bool true)) (Operand.tmp 132)) none [9, 14])
    (E16 : Is ops 16 (some 134) (Op.move (Operand.tmp 133)) none [13, 15])
    (E17 : Is ops 17 (some 135) (Op.move (Operand.tmp 3)) (some (16, false)) [16])
    (E18 : Is ops 18 (some 136) (Op.call { callee := Callee.value (Operand.func 20), args := #[Operand.tmp 135], argTypes := #[23] }) (some (16, false)) [16, 17])
    (E19 : Is ops 19 (some 137) (Op.move (Operand.tmp 4)) (some (16, false)) [16])
    (E20 : Is ops 20 (some 138) (Op.call { callee := Callee.value (Operand.func 21), args := #[Operand.tmp 137], argTypes := #[25] }) (some (16, false)) [16, 18, 19])
    (E21 : Is ops 21 (some 139) (Op.binOp BinOp.neq 3 (Operand.tmp 136) (Operand.tmp 138) 3) (some (16, false)) [16, 18, 20])
    (E22 : Is ops 22 (some 140) (Op.pick (Operand.tmp 134) (Operand.const (Value.bool true)) (Operand.tmp 139)) none [16, 21])
    (E23 : Is ops 23 (some 141) (Op.move (Operand.tmp 140)) none [20, 22])
    (E24 : Is ops 24 (some 142) (Op.move (Operand.tmp 3)) (some (23, false)) [23])
    (E25 : Is ops 25 (some 143) (Op.fieldAddr 37 (Operand.tmp 6) 1) (some (23, false)) [23])
    (E26 : Is ops 26 (some 144) (Op.load 3 (Operand.tmp 143)) (some (23, false)) [23, 25])
    (E27 : Is ops 27 (some 145) (Op.call { callee := Callee.value (Operand.func 23), args := #[Operand.tmp 142, Operand.tmp 144], argTypes := #[23, 3] }) (some (23, false)) [23, 24, 26])
    (E28 : Is ops 28 (some 146) (Op.move (Operand.tmp 4)) (some (23, false)) [23])
    (E29 : Is ops 29 (some 147) (Op.fieldAddr 37 (Operand.tmp 6) 1) (some (23, false)) [23])
    (E30 : Is ops 30 (some 148) (Op.load 3 (Operand.tmp 147)) (some (23, false)) [23, 29])
    (E31 : Is ops 31 (some 149) (Op.call { callee := Callee.value (Operand.func 24), args := #[Operand.tmp 146, Operand.tmp 148], argTypes := #[25, 3] }) (some (23, false)) [23, 27, 28, 30])
    (E32 : Is ops 32 (some 150) (Op.call { callee := Callee.value (Operand.func 22), args := #[Operand.tmp 145, Operand.tmp 149], argTypes := #[50, 50] }) (some (23, false)) [23, 27, 31])
    (E33 : Is ops 33 (some 151) (Op.unOp UnOp.not 4 (Operand.tmp 150)) (some (23, false)) [23, 32])
    (E34 : Is ops 34 (some 152) (Op.pick (Operand.tmp 141) (Operand.const (Value.bool true)) (Operand.tmp 151)) none [23, 33])
    (E35 : Is ops 35 (some 153) (Op.move (Operand.tmp 152)) none [32, 34])
    (E36 : Is ops 36 (some 154) (Op.move (Operand.tmp 17)) (some (35, false)) [35])
    (E37 : Is ops 37 (some 155) (Op.move (Operand.tmp 4)) (some (35, false)) [35])
    (E38 : Is ops 38 (some 156) (Op.fieldAddr 37 (Operand.tmp 6) 1) (some (35, false)) [35])
    (E39 : Is ops 39 (some 157) (Op.load 3 (Operand.tmp 156)) (some (35, false)) [35, 38])
    (E40 : Is ops 40 (some 158) (Op.call { callee := Callee.value (Operand.func 26), args := #[Operand.tmp 155, Operand.tmp 157], argTypes := #[25, 3] }) (some (35, false)) [35, 37, 39])
    (E41 : Is ops 41 (some 159) (Op.call { callee := Callee.value (Operand.func 25), args := #[Operand.tmp 154, Operand.tmp 158], argTypes := #[46, 46] }) (some (35, false)) [35, 36, 40])
    (E42 : Is ops 42 (some 160) (Op.unOp UnOp.not 4 (Operand.tmp 159)) (some (35, false)) [35, 41])
    (E43 : Is ops 43 (some 161) (Op.pick (Operand.tmp 153) (Operand.const (Value.bool true)) (Operand.tmp 160)) none [35, 42])
    (hN : ops.size = 44) (hlow : lowB ops = true) (hds : dsts ops = [some 118, some 119, some 120, some 121, some 122, some 123, some 124, some 125, some 126, some 127, some 128, some 129, some 130, some 131, some 132, some 133, some 134, some 135, some 136, some 137, some 138, some 139, some 140, some 141, some 142, some 143, some 144, some 145, some 146, some 147, some 148, some 149, some 150, some 151, some 152, some 153, some 154, some 155, some 156, some 157, some 158, some 159, some 160, some 161]) (hnd : injB ops = true)
    (ha0 : a0.tmps.size = 198) (h3 : a0.tmps.getD 3 undef = .pointer (some ⟨p, 0, none⟩)) (h4 : a0.tmps.getD 4 undef = .pointer (some ⟨q, 0, none⟩)) (h6 : a0.tmps.getD 6 undef = .pointer (some ⟨bx, 0, none⟩)) (h13 : a0.tmps.getD 13 undef = .pointer (some ⟨bA, 0, none⟩)) (h15 : a0.tmps.getD 15 undef = .pointer (some ⟨bB, 0, none⟩)) (h14 : a0.tmps.getD 14 undef = .bool g) (h16 : a0.tmps.getD 16 undef = .bool g) (h17 : a0.tmps.getD 17 undef = lv)
    (rA : w0.rangeAt bA 0 (dcl dd ua)) (rB : w0.rangeAt bB 0 (dcl dd ub)) (cN : w0.cell? ⟨bx, 1, none⟩ = some (.int .i64 n))
    (HS : ∀ W, Mod (fun _ => False) w0.drew W → Calls Try.prog 14 #[dv dd ua, dv dd ub] W fun e w' => e = .returned (.bool true) ∧ Mod (fun _ => False) W w')
    (HA : ∀ W, Mod (fun _ => False) w0.drew W → Calls Try.prog 18 #[.pointer (some ⟨p, 0, none⟩)] W fun e w' => e = .returned (.int .i64 a) ∧ Mod (fun _ => False) W w')
    (HA' : ∀ W, Mod (fun _ => False) w0.drew W → Calls Try.prog 19 #[.pointer (some ⟨q, 0, none⟩)] W fun e w' => e = .returned (.int .i64 a) ∧ Mod (fun _ => False) W w')
    (HH : ∀ W, Mod (fun _ => False) w0.drew W → Calls Try.prog 20 #[.pointer (some ⟨p, 0, none⟩)] W fun e w' => e = .returned (.int .i64 h) ∧ Mod (fun _ => False) W w')
    (HH' : ∀ W, Mod (fun _ => False) w0.drew W → Calls Try.prog 21 #[.pointer (some ⟨q, 0, none⟩)] W fun e w' => e = .returned (.int .i64 h) ∧ Mod (fun _ => False) W w')
    (HG : ∀ W, Mod (fun _ => False) w0.drew W → Calls Try.prog 23 #[.pointer (some ⟨p, 0, none⟩), .int .i64 n] W fun e w' => ∃ v, e = .returned v ∧ Cr.Own w' v G ∧ Mod (fun _ => False) W w')
    (HG' : ∀ W, Mod (fun _ => False) w0.drew W → Calls Try.prog 24 #[.pointer (some ⟨q, 0, none⟩), .int .i64 n] W fun e w' => ∃ v, e = .returned v ∧ Cr.Own w' v G ∧ Mod (fun _ => False) W w')
    (HE : ∀ W u v, Cr.Own W u G → Cr.Own W v G → Calls Try.prog 22 #[u, v] W fun e w' => e = .returned (.bool true) ∧ Mod (fun _ => False) W w')
    (HB : ∀ W, Mod (fun _ => False) w0.drew W → Calls Try.prog 26 #[.pointer (some ⟨q, 0, none⟩), .int .i64 n] W fun e w' => ∃ v os b, e = .returned v ∧ Rd18 w' b v os ∧ os.map (·.1) = D ∧ Mod (fun _ => False) W w')
    (HD : ∀ W v os b, Mod (fun _ => False) w0.drew W → Rd18 W b v os → os.map (·.1) = D → Calls Try.prog 25 #[lv, v] W fun e w' => e = .returned (.bool true) ∧ Mod (fun _ => False) W w')
    (hend : ∀ y118 y119 y120 y121 y122 y123 y124 y125 y126 y127 y128 y129 y130 y131 y132 y133 y134 y135 y136 y137 y138 y139 y140 y141 y142 y143 y144 y145 y146 y147 y148 y149 y150 y151 y152 y153 y154 y155 y156 y157 y158 y159 y160 w, Mod (fun _ => False) w0.drew w → Q .normal (puts a0 [(118, y118), (119, y119), (120, y120), (121, y121), (122, y122), (123, y123), (124, y124), (125, y125), (126, y126), (127, y127), (128, y128), (129, y129), (130, y130), (131, y131), (132, y132), (133, y133), (134, y134), (135, y135), (136, y136), (137, y137), (138, y138), (139, y139), (140, y140), (141, y141), (142, y142), (143, y143), (144, y144), (145, y145), (146, y146), (147, y147), (148, y148), (149, y149), (150, y150), (151, y151), (152, y152), (153, y153), (154, y154), (155, y155), (156, y156), (157, y157), (158, y158), (159, y159), (160, y160), (161, .bool false)]) w) :
    (Code.region id ops true).wp Try.prog Q a0 w0 := by
  have DD : ∀ {W : World} {a : Addr} {v : Value}, Mod (fun _ => False) w0.drew W → w0.cell? a = some v → W.cell? a = some v := fun hW hc => hW.cell (by simpa using hc) (fun h => h)
  have s0 : ∀ o, ops[0]? = some o → StepW Try.prog ops (q24 p q bx dd ua ub lv g a h n G D) (fun _ W => Mod (fun _ => False) w0.drew W) a0 Q 0 o := by
    refine E0.stepW fun o hd ho hg hw => ?_
    intro y w listed hsz hls hun hwt hdown D' R hinv K hK
    rw [ha0] at hsz
    refine .inl ⟨wanted_none hg, ?_⟩
    have f14 : y.eval (Operand.tmp 14) = .bool g := (R 14 (not_of (by rw [hds]; decide))).trans h14
    exact wp_value (ox_move ho f14) (hK _ _ (Mod.refl _ _) (by unfold q24; rfl) hinv)
  have s1 : ∀ o, ops[1]? = some o → StepW Try.prog ops (q24 p q bx dd ua ub lv g a h n G D) (fun _ W => Mod (fun _ => False) w0.drew W) a0 Q 1 o := by
    refine E1.stepW fun o hd ho hg hw => ?_
    intro y w listed hsz hls hun hwt hdown D' R hinv K hK
    rw [ha0] at hsz
    refine .inl ⟨wanted_none hg, ?_⟩
    have f16 : y.eval (Operand.tmp 16) = .bool g := (R 16 (not_of (by rw [hds]; decide))).trans h16
    exact wp_value (ox_move ho f16) (hK _ _ (Mod.refl _ _) (by unfold q24; rfl) hinv)
  have s2 : ∀ o, ops[2]? = some o → StepW Try.prog ops (q24 p q bx dd ua ub lv g a h n G D) (fun _ W => Mod (fun _ => False) w0.drew W) a0 Q 2 o := by
    refine E2.stepW fun o hd ho hg hw => ?_
    intro y w listed hsz hls hun hwt hdown D' R hinv K hK
    rw [ha0] at hsz
    refine .inl ⟨wanted_none hg, ?_⟩
    have f118 : y.eval (Operand.tmp 118) = .bool g := E0.postW (Post := (q24 p q bx dd ua ub lv g a h n G D)) (a := y) (w := w) D' (hw 0 (by simp))
    have f119 : y.eval (Operand.tmp 119) = .bool g := E1.postW (Post := (q24 p q bx dd ua ub lv g a h n G D)) (a := y) (w := w) D' (hw 1 (by simp))
    exact wp_value (neqB ho f118 f119) (hK _ _ (Mod.refl _ _) (by unfold q24; rfl) hinv)
  have s3 : ∀ o, ops[3]? = some o → StepW Try.prog ops (q24 p q bx dd ua ub lv g a h n G D) (fun _ W => Mod (fun _ => False) w0.drew W) a0 Q 3 o := by
    refine E3.stepW fun o hd ho hg hw => ?_
    intro y w listed hsz hls hun hwt hdown D' R hinv K hK
    rw [ha0] at hsz
    refine .inl ⟨wanted_none hg, ?_⟩
    have f120 : y.eval (Operand.tmp 120) = .bool false := E2.postW (Post := (q24 p q bx dd ua ub lv g a h n G D)) (a := y) (w := w) D' (hw 2 (by simp))
    exact wp_value (ox_move ho f120) (hK _ _ (Mod.refl _ _) (by unfold q24; rfl) hinv)
  have s4 : ∀ o, ops[4]? = some o → StepW Try.prog ops (q24 p q bx dd ua ub lv g a h n G D) (fun _ W => Mod (fun _ => False) w0.drew W) a0 Q 4 o := by
    refine E4.stepW fun o hd ho hg hw => ?_
    intro y w listed hsz hls hun hwt hdown D' R hinv K hK
    rw [ha0] at hsz
    refine .inl ⟨wanted_yes E3 hg (by rw [hsz]; decide) (E3.postW (Post := (q24 p q bx dd ua ub lv g a h n G D)) (a := y) (w := w) D' (hw 3 (by simp))), ?_⟩
    have f13 : y.eval (Operand.tmp 13) = .pointer (some ⟨bA, 0, none⟩) := (R 13 (not_of (by rw [hds]; decide))).trans h13
    refine wp_load_mid (P := Try.prog) 35 _ ho bA 0 f13 (dcl dd ua) _ (fun t c ht => DD hinv (rA t c ht)) Try.underlying35 rfl (by rw [info18]; rfl) (hK _ _ (Mod.refl _ _) (by unfold q24; rfl) hinv)
  have s5 : ∀ o, ops[5]? = some o → StepW Try.prog ops (q24 p q bx dd ua ub lv g a h n G D) (fun _ W => Mod (fun _ => False) w0.drew W) a0 Q 5 o := by
    refine E5.stepW fun o hd ho hg hw => ?_
    intro y w listed hsz hls hun hwt hdown D' R hinv K hK
    rw [ha0] at hsz
    refine .inl ⟨wanted_yes E3 hg (by rw [hsz]; decide) (E3.postW (Post := (q24 p q bx dd ua ub lv g a h n G D)) (a := y) (w := w) D' (hw 3 (by simp))), ?_⟩
    have f15 : y.eval (Operand.tmp 15) = .pointer (some ⟨bB, 0, none⟩) := (R 15 (not_of (by rw [hds]; decide))).trans h15
    refine wp_load_mid (P := Try.prog) 35 _ ho bB 0 f15 (dcl dd ub) _ (fun t c ht => DD hinv (rB t c ht)) Try.underlying35 rfl (by rw [info18]; rfl) (hK _ _ (Mod.refl _ _) (by unfold q24; rfl) hinv)
  have s6 : ∀ o, ops[6]? = some o → StepW Try.prog ops (q24 p q bx dd ua ub lv g a h n G D) (fun _ W => Mod (fun _ => False) w0.drew W) a0 Q 6 o := by
    refine E6.stepW fun o hd ho hg hw => ?_
    intro y w listed hsz hls hun hwt hdown D' R hinv K hK
    rw [ha0] at hsz
    refine .inl ⟨wanted_yes E3 hg (by rw [hsz]; decide) (E3.postW (Post := (q24 p q bx dd ua ub lv g a h n G D)) (a := y) (w := w) D' (hw 3 (by simp))), ?_⟩
    have f122 : y.eval (Operand.tmp 122) = dv dd ua := E4.postW (Post := (q24 p q bx dd ua ub lv g a h n G D)) (a := y) (w := w) D' (hw 4 (by simp))
    have f123 : y.eval (Operand.tmp 123) = dv dd ub := E5.postW (Post := (q24 p q bx dd ua ub lv g a h n G D)) (a := y) (w := w) D' (hw 5 (by simp))
    refine wp_enter (f := 14) (args := #[dv dd ua, dv dd ub]) ?_ (HS w hinv) ?_
    · rw [exec_call2 y.eval (fun args w => by simp [go_sem]) rfl ho, f122, f123]
    · rintro e w' ⟨rfl, hm⟩
      exact ⟨_, rfl, hK _ _ hm (by unfold q24; rfl) (hinv.and hm)⟩
  have s7 : ∀ o, ops[7]? = some o → StepW Try.prog ops (q24 p q bx dd ua ub lv g a h n G D) (fun _ W => Mod (fun _ => False) w0.drew W) a0 Q 7 o := by
    refine E7.stepW fun o hd ho hg hw => ?_
    intro y w listed hsz hls hun hwt hdown D' R hinv K hK
    rw [ha0] at hsz
    refine .inl ⟨wanted_yes E3 hg (by rw [hsz]; decide) (E3.postW (Post := (q24 p q bx dd ua ub lv g a h n G D)) (a := y) (w := w) D' (hw 3 (by simp))), ?_⟩
    have f124 : y.eval (Operand.tmp 124) = .bool true := E6.postW (Post := (q24 p q bx dd ua ub lv g a h n G D)) (a := y) (w := w) D' (hw 6 (by simp))
    exact wp_value (ox_not ho f124) (hK _ _ (Mod.refl _ _) (by unfold q24; rfl) hinv)
  have s8 : ∀ o, ops[8]? = some o → StepW Try.prog ops (q24 p q bx dd ua ub lv g a h n G D) (fun _ W => Mod (fun _ => False) w0.drew W) a0 Q 8 o := by
    refine E8.stepW fun o hd ho hg hw => ?_
    intro y w listed hsz hls hun hwt hdown D' R hinv K hK
    rw [ha0] at hsz
    refine .inl ⟨wanted_none hg, ?_⟩
    have f121 : y.eval (Operand.tmp 121) = .bool false := E3.postW (Post := (q24 p q bx dd ua ub lv g a h n G D)) (a := y) (w := w) D' (hw 3 (by simp))
    have f125 : y.eval (Operand.tmp 125) = .bool false := E7.postW (Post := (q24 p q bx dd ua ub lv g a h n G D)) (a := y) (w := w) D' (hw 7 (by simp))
    exact wp_value (ox_pick ho f121 f125) (hK _ _ (Mod.refl _ _) (by unfold q24; rfl) hinv)
  have s9 : ∀ o, ops[9]? = some o → StepW Try.prog ops (q24 p q bx dd ua ub lv g a h n G D) (fun _ W => Mod (fun _ => False) w0.drew W) a0 Q 9 o := by
    refine E9.stepW fun o hd ho hg hw => ?_
    intro y w listed hsz hls hun hwt hdown D' R hinv K hK
    rw [ha0] at hsz
    refine .inl ⟨wanted_none hg, ?_⟩
    have f126 : y.eval (Operand.tmp 126) = .bool false := E8.postW (Post := (q24 p q bx dd ua ub lv g a h n G D)) (a := y) (w := w) D' (hw 8 (by simp))
    exact wp_value (ox_move ho f126) (hK _ _ (Mod.refl _ _) (by unfold q24; rfl) hinv)
  have s10 : ∀ o, ops[10]? = some o → StepW Try.prog ops (q24 p q bx dd ua ub lv g a h n G D) (fun _ W => Mod (fun _ => False) w0.drew W) a0 Q 10 o := by
    refine E10.stepW fun o hd ho hg hw => ?_
    intro y w listed hsz hls hun hwt hdown D' R hinv K hK
    rw [ha0] at hsz
    refine .inl ⟨wanted_yes E9 hg (by rw [hsz]; decide) (E9.postW (Post := (q24 p q bx dd ua ub lv g a h n G D)) (a := y) (w := w) D' (hw 9 (by simp))), ?_⟩
    have f3 : y.eval (Operand.tmp 3) = .pointer (some ⟨p, 0, none⟩) := (R 3 (not_of (by rw [hds]; decide))).trans h3
    exact wp_value (ox_move ho f3) (hK _ _ (Mod.refl _ _) (by unfold q24; rfl) hinv)
  have s11 : ∀ o, ops[11]? = some o → StepW Try.prog ops (q24 p q bx dd ua ub lv g a h n G D) (fun _ W => Mod (fun _ => False) w0.drew W) a0 Q 11 o := by
    refine E11.stepW fun o hd ho hg hw => ?_
    intro y w listed hsz hls hun hwt hdown D' R hinv K hK
    rw [ha0] at hsz
    refine .inl ⟨wanted_yes E9 hg (by rw [hsz]; decide) (E9.postW (Post := (q24 p q bx dd ua ub lv g a h n G D)) (a := y) (w := w) D' (hw 9 (by simp))), ?_⟩
    have f128 : y.eval (Operand.tmp 128) = .pointer (some ⟨p, 0, none⟩) := E10.postW (Post := (q24 p q bx dd ua ub lv g a h n G D)) (a := y) (w := w) D' (hw 10 (by simp))
    refine wp_enter (f := 18) (args := #[.pointer (some ⟨p, 0, none⟩)]) ?_ (HA w hinv) ?_
    · rw [exec_call1 y.eval (fun args w => by simp [go_sem]) rfl ho, f128]
    · rintro e w' ⟨rfl, hm⟩
      exact ⟨_, rfl, hK _ _ hm (by unfold q24; rfl) (hinv.and hm)⟩
  have s12 : ∀ o, ops[12]? = some o → StepW Try.prog ops (q24 p q bx dd ua ub lv g a h n G D) (fun _ W => Mod (fun _ => False) w0.drew W) a0 Q 12 o := by
    refine E12.stepW fun o hd ho hg hw => ?_
    intro y w listed hsz hls hun hwt hdown D' R hinv K hK
    rw [ha0] at hsz
    refine .inl ⟨wanted_yes E9 hg (by rw [hsz]; decide) (E9.postW (Post := (q24 p q bx dd ua ub lv g a h n G D)) (a := y) (w := w) D' (hw 9 (by simp))), ?_⟩
    have f4 : y.eval (Operand.tmp 4) = .pointer (some ⟨q, 0, none⟩) := (R 4 (not_of (by rw [hds]; decide))).trans h4
    exact wp_value (ox_move ho f4) (hK _ _ (Mod.refl _ _) (by unfold q24; rfl) hinv)
  have s13 : ∀ o, ops[13]? = some o → StepW Try.prog ops (q24 p q bx dd ua ub lv g a h n G D) (fun _ W => Mod (fun _ => False) w0.drew W) a0 Q 13 o := by
    refine E13.stepW fun o hd ho hg hw => ?_
    intro y w listed hsz hls hun hwt hdown D' R hinv K hK
    rw [ha0] at hsz
    refine .inl ⟨wanted_yes E9 hg (by rw [hsz]; decide) (E9.postW (Post := (q24 p q bx dd ua ub lv g a h n G D)) (a := y) (w := w) D' (hw 9 (by simp))), ?_⟩
    have f130 : y.eval (Operand.tmp 130) = .pointer (some ⟨q, 0, none⟩) := E12.postW (Post := (q24 p q bx dd ua ub lv g a h n G D)) (a := y) (w := w) D' (hw 12 (by simp))
    refine wp_enter (f := 19) (args := #[.pointer (some ⟨q, 0, none⟩)]) ?_ (HA' w hinv) ?_
    · rw [exec_call1 y.eval (fun args w => by simp [go_sem]) rfl ho, f130]
    · rintro e w' ⟨rfl, hm⟩
      exact ⟨_, rfl, hK _ _ hm (by unfold q24; rfl) (hinv.and hm)⟩
  have s14 : ∀ o, ops[14]? = some o → StepW Try.prog ops (q24 p q bx dd ua ub lv g a h n G D) (fun _ W => Mod (fun _ => False) w0.drew W) a0 Q 14 o := by
    refine E14.stepW fun o hd ho hg hw => ?_
    intro y w listed hsz hls hun hwt hdown D' R hinv K hK
    rw [ha0] at hsz
    refine .inl ⟨wanted_yes E9 hg (by rw [hsz]; decide) (E9.postW (Post := (q24 p q bx dd ua ub lv g a h n G D)) (a := y) (w := w) D' (hw 9 (by simp))), ?_⟩
    have f129 : y.eval (Operand.tmp 129) = .int .i64 a := E11.postW (Post := (q24 p q bx dd ua ub lv g a h n G D)) (a := y) (w := w) D' (hw 11 (by simp))
    have f131 : y.eval (Operand.tmp 131) = .int .i64 a := E13.postW (Post := (q24 p q bx dd ua ub lv g a h n G D)) (a := y) (w := w) D' (hw 13 (by simp))
    exact wp_value (neqI ho f129 f131) (hK _ _ (Mod.refl _ _) (by unfold q24; rfl) hinv)
  have s15 : ∀ o, ops[15]? = some o → StepW Try.prog ops (q24 p q bx dd ua ub lv g a h n G D) (fun _ W => Mod (fun _ => False) w0.drew W) a0 Q 15 o := by
    refine E15.stepW fun o hd ho hg hw => ?_
    intro y w listed hsz hls hun hwt hdown D' R hinv K hK
    rw [ha0] at hsz
    refine .inl ⟨wanted_none hg, ?_⟩
    have f127 : y.eval (Operand.tmp 127) = .bool false := E9.postW (Post := (q24 p q bx dd ua ub lv g a h n G D)) (a := y) (w := w) D' (hw 9 (by simp))
    have f132 : y.eval (Operand.tmp 132) = .bool false := E14.postW (Post := (q24 p q bx dd ua ub lv g a h n G D)) (a := y) (w := w) D' (hw 14 (by simp))
    exact wp_value (ox_pick ho f127 f132) (hK _ _ (Mod.refl _ _) (by unfold q24; rfl) hinv)
  have s16 : ∀ o, ops[16]? = some o → StepW Try.prog ops (q24 p q bx dd ua ub lv g a h n G D) (fun _ W => Mod (fun _ => False) w0.drew W) a0 Q 16 o := by
    refine E16.stepW fun o hd ho hg hw => ?_
    intro y w listed hsz hls hun hwt hdown D' R hinv K hK
    rw [ha0] at hsz
    refine .inl ⟨wanted_none hg, ?_⟩
    have f133 : y.eval (Operand.tmp 133) = .bool false := E15.postW (Post := (q24 p q bx dd ua ub lv g a h n G D)) (a := y) (w := w) D' (hw 15 (by simp))
    exact wp_value (ox_move ho f133) (hK _ _ (Mod.refl _ _) (by unfold q24; rfl) hinv)
  have s17 : ∀ o, ops[17]? = some o → StepW Try.prog ops (q24 p q bx dd ua ub lv g a h n G D) (fun _ W => Mod (fun _ => False) w0.drew W) a0 Q 17 o := by
    refine E17.stepW fun o hd ho hg hw => ?_
    intro y w listed hsz hls hun hwt hdown D' R hinv K hK
    rw [ha0] at hsz
    refine .inl ⟨wanted_yes E16 hg (by rw [hsz]; decide) (E16.postW (Post := (q24 p q bx dd ua ub lv g a h n G D)) (a := y) (w := w) D' (hw 16 (by simp))), ?_⟩
    have f3 : y.eval (Operand.tmp 3) = .pointer (some ⟨p, 0, none⟩) := (R 3 (not_of (by rw [hds]; decide))).trans h3
    exact wp_value (ox_move ho f3) (hK _ _ (Mod.refl _ _) (by unfold q24; rfl) hinv)
  have s18 : ∀ o, ops[18]? = some o → StepW Try.prog ops (q24 p q bx dd ua ub lv g a h n G D) (fun _ W => Mod (fun _ => False) w0.drew W) a0 Q 18 o := by
    refine E18.stepW fun o hd ho hg hw => ?_
    intro y w listed hsz hls hun hwt hdown D' R hinv K hK
    rw [ha0] at hsz
    refine .inl ⟨wanted_yes E16 hg (by rw [hsz]; decide) (E16.postW (Post := (q24 p q bx dd ua ub lv g a h n G D)) (a := y) (w := w) D' (hw 16 (by simp))), ?_⟩
    have f135 : y.eval (Operand.tmp 135) = .pointer (some ⟨p, 0, none⟩) := E17.postW (Post := (q24 p q bx dd ua ub lv g a h n G D)) (a := y) (w := w) D' (hw 17 (by simp))
    refine wp_enter (f := 20) (args := #[.pointer (some ⟨p, 0, none⟩)]) ?_ (HH w hinv) ?_
    · rw [exec_call1 y.eval (fun args w => by simp [go_sem]) rfl ho, f135]
    · rintro e w' ⟨rfl, hm⟩
      exact ⟨_, rfl, hK _ _ hm (by unfold q24; rfl) (hinv.and hm)⟩
  have s19 : ∀ o, ops[19]? = some o → StepW Try.prog ops (q24 p q bx dd ua ub lv g a h n G D) (fun _ W => Mod (fun _ => False) w0.drew W) a0 Q 19 o := by
    refine E19.stepW fun o hd ho hg hw => ?_
    intro y w listed hsz hls hun hwt hdown D' R hinv K hK
    rw [ha0] at hsz
    refine .inl ⟨wanted_yes E16 hg (by rw [hsz]; decide) (E16.postW (Post := (q24 p q bx dd ua ub lv g a h n G D)) (a := y) (w := w) D' (hw 16 (by simp))), ?_⟩
    have f4 : y.eval (Operand.tmp 4) = .pointer (some ⟨q, 0, none⟩) := (R 4 (not_of (by rw [hds]; decide))).trans h4
    exact wp_value (ox_move ho f4) (hK _ _ (Mod.refl _ _) (by unfold q24; rfl) hinv)
  have s20 : ∀ o, ops[20]? = some o → StepW Try.prog ops (q24 p q bx dd ua ub lv g a h n G D) (fun _ W => Mod (fun _ => False) w0.drew W) a0 Q 20 o := by
    refine E20.stepW fun o hd ho hg hw => ?_
    intro y w listed hsz hls hun hwt hdown D' R hinv K hK
    rw [ha0] at hsz
    refine .inl ⟨wanted_yes E16 hg (by rw [hsz]; decide) (E16.postW (Post := (q24 p q bx dd ua ub lv g a h n G D)) (a := y) (w := w) D' (hw 16 (by simp))), ?_⟩
    have f137 : y.eval (Operand.tmp 137) = .pointer (some ⟨q, 0, none⟩) := E19.postW (Post := (q24 p q bx dd ua ub lv g a h n G D)) (a := y) (w := w) D' (hw 19 (by simp))
    refine wp_enter (f := 21) (args := #[.pointer (some ⟨q, 0, none⟩)]) ?_ (HH' w hinv) ?_
    · rw [exec_call1 y.eval (fun args w => by simp [go_sem]) rfl ho, f137]
    · rintro e w' ⟨rfl, hm⟩
      exact ⟨_, rfl, hK _ _ hm (by unfold q24; rfl) (hinv.and hm)⟩
  have s21 : ∀ o, ops[21]? = some o → StepW Try.prog ops (q24 p q bx dd ua ub lv g a h n G D) (fun _ W => Mod (fun _ => False) w0.drew W) a0 Q 21 o := by
    refine E21.stepW fun o hd ho hg hw => ?_
    intro y w listed hsz hls hun hwt hdown D' R hinv K hK
    rw [ha0] at hsz
    refine .inl ⟨wanted_yes E16 hg (by rw [hsz]; decide) (E16.postW (Post := (q24 p q bx dd ua ub lv g a h n G D)) (a := y) (w := w) D' (hw 16 (by simp))), ?_⟩
    have f136 : y.eval (Operand.tmp 136) = .int .i64 h := E18.postW (Post := (q24 p q bx dd ua ub lv g a h n G D)) (a := y) (w := w) D' (hw 18 (by simp))
    have f138 : y.eval (Operand.tmp 138) = .int .i64 h := E20.postW (Post := (q24 p q bx dd ua ub lv g a h n G D)) (a := y) (w := w) D' (hw 20 (by simp))
    exact wp_value (neqI ho f136 f138) (hK _ _ (Mod.refl _ _) (by unfold q24; rfl) hinv)
  have s22 : ∀ o, ops[22]? = some o → StepW Try.prog ops (q24 p q bx dd ua ub lv g a h n G D) (fun _ W => Mod (fun _ => False) w0.drew W) a0 Q 22 o := by
    refine E22.stepW fun o hd ho hg hw => ?_
    intro y w listed hsz hls hun hwt hdown D' R hinv K hK
    rw [ha0] at hsz
    refine .inl ⟨wanted_none hg, ?_⟩
    have f134 : y.eval (Operand.tmp 134) = .bool false := E16.postW (Post := (q24 p q bx dd ua ub lv g a h n G D)) (a := y) (w := w) D' (hw 16 (by simp))
    have f139 : y.eval (Operand.tmp 139) = .bool false := E21.postW (Post := (q24 p q bx dd ua ub lv g a h n G D)) (a := y) (w := w) D' (hw 21 (by simp))
    exact wp_value (ox_pick ho f134 f139) (hK _ _ (Mod.refl _ _) (by unfold q24; rfl) hinv)
  have s23 : ∀ o, ops[23]? = some o → StepW Try.prog ops (q24 p q bx dd ua ub lv g a h n G D) (fun _ W => Mod (fun _ => False) w0.drew W) a0 Q 23 o := by
    refine E23.stepW fun o hd ho hg hw => ?_
    intro y w listed hsz hls hun hwt hdown D' R hinv K hK
    rw [ha0] at hsz
    refine .inl ⟨wanted_none hg, ?_⟩
    have f140 : y.eval (Operand.tmp 140) = .bool false := E22.postW (Post := (q24 p q bx dd ua ub lv g a h n G D)) (a := y) (w := w) D' (hw 22 (by simp))
    exact wp_value (ox_move ho f140) (hK _ _ (Mod.refl _ _) (by unfold q24; rfl) hinv)
  have s24 : ∀ o, ops[24]? = some o → StepW Try.prog ops (q24 p q bx dd ua ub lv g a h n G D) (fun _ W => Mod (fun _ => False) w0.drew W) a0 Q 24 o := by
    refine E24.stepW fun o hd ho hg hw => ?_
    intro y w listed hsz hls hun hwt hdown D' R hinv K hK
    rw [ha0] at hsz
    refine .inl ⟨wanted_yes E23 hg (by rw [hsz]; decide) (E23.postW (Post := (q24 p q bx dd ua ub lv g a h n G D)) (a := y) (w := w) D' (hw 23 (by simp))), ?_⟩
    have f3 : y.eval (Operand.tmp 3) = .pointer (some ⟨p, 0, none⟩) := (R 3 (not_of (by rw [hds]; decide))).trans h3
    exact wp_value (ox_move ho f3) (hK _ _ (Mod.refl _ _) (by unfold q24; rfl) hinv)
  have s25 : ∀ o, ops[25]? = some o → StepW Try.prog ops (q24 p q bx dd ua ub lv g a h n G D) (fun _ W => Mod (fun _ => False) w0.drew W) a0 Q 25 o := by
    refine E25.stepW fun o hd ho hg hw => ?_
    intro y w listed hsz hls hun hwt hdown D' R hinv K hK
    rw [ha0] at hsz
    refine .inl ⟨wanted_yes E23 hg (by rw [hsz]; decide) (E23.postW (Post := (q24 p q bx dd ua ub lv g a h n G D)) (a := y) (w := w) D' (hw 23 (by simp))), ?_⟩
    have f6 : y.eval (Operand.tmp 6) = .pointer (some ⟨bx, 0, none⟩) := (R 6 (not_of (by rw [hds]; decide))).trans h6
    exact wp_value (ox_field ho f6 (fldN w)) (hK _ _ (Mod.refl _ _) (by unfold q24; rfl) hinv)
  have s26 : ∀ o, ops[26]? = some o → StepW Try.prog ops (q24 p q bx dd ua ub lv g a h n G D) (fun _ W => Mod (fun _ => False) w0.drew W) a0 Q 26 o := by
    refine E26.stepW fun o hd ho hg hw => ?_
    intro y w listed hsz hls hun hwt hdown D' R hinv K hK
    rw [ha0] at hsz
    refine .inl ⟨wanted_yes E23 hg (by rw [hsz]; decide) (E23.postW (Post := (q24 p q bx dd ua ub lv g a h n G D)) (a := y) (w := w) D' (hw 23 (by simp))), ?_⟩
    have f143 : y.eval (Operand.tmp 143) = .pointer (some ⟨bx, 1, none⟩) := E25.postW (Post := (q24 p q bx dd ua ub lv g a h n G D)) (a := y) (w := w) D' (hw 25 (by simp))
    exact wp_value (ox_load ho f143 (ldI (DD hinv cN))) (hK _ _ (Mod.refl _ _) (by unfold q24; rfl) hinv)
  have s27 : ∀ o, ops[27]? = some o → StepW Try.prog ops (q24 p q bx dd ua ub lv g a h n G D) (fun _ W => Mod (fun _ => False) w0.drew W) a0 Q 27 o := by
    refine E27.stepW fun o hd ho hg hw => ?_
    intro y w listed hsz hls hun hwt hdown D' R hinv K hK
    rw [ha0] at hsz
    refine .inl ⟨wanted_yes E23 hg (by rw [hsz]; decide) (E23.postW (Post := (q24 p q bx dd ua ub lv g a h n G D)) (a := y) (w := w) D' (hw 23 (by simp))), ?_⟩
    have f142 : y.eval (Operand.tmp 142) = .pointer (some ⟨p, 0, none⟩) := E24.postW (Post := (q24 p q bx dd ua ub lv g a h n G D)) (a := y) (w := w) D' (hw 24 (by simp))
    have f144 : y.eval (Operand.tmp 144) = .int .i64 n := E26.postW (Post := (q24 p q bx dd ua ub lv g a h n G D)) (a := y) (w := w) D' (hw 26 (by simp))
    refine wp_enter (f := 23) (args := #[.pointer (some ⟨p, 0, none⟩), .int .i64 n]) ?_ (HG w hinv) ?_
    · rw [exec_call2 y.eval (fun args w => by simp [go_sem]) rfl ho, f142, f144]
    · rintro e w' ⟨v, rfl, hv, hm⟩
      exact ⟨_, rfl, hK _ _ hm (by unfold q24; simpa using hv) (hinv.and hm)⟩
  have s28 : ∀ o, ops[28]? = some o → StepW Try.prog ops (q24 p q bx dd ua ub lv g a h n G D) (fun _ W => Mod (fun _ => False) w0.drew W) a0 Q 28 o := by
    refine E28.stepW fun o hd ho hg hw => ?_
    intro y w listed hsz hls hun hwt hdown D' R hinv K hK
    rw [ha0] at hsz
    refine .inl ⟨wanted_yes E23 hg (by rw [hsz]; decide) (E23.postW (Post := (q24 p q bx dd ua ub lv g a h n G D)) (a := y) (w := w) D' (hw 23 (by simp))), ?_⟩
    have f4 : y.eval (Operand.tmp 4) = .pointer (some ⟨q, 0, none⟩) := (R 4 (not_of (by rw [hds]; decide))).trans h4
    exact wp_value (ox_move ho f4) (hK _ _ (Mod.refl _ _) (by unfold q24; rfl) hinv)
  have s29 : ∀ o, ops[29]? = some o → StepW Try.prog ops (q24 p q bx dd ua ub lv g a h n G D) (fun _ W => Mod (fun _ => False) w0.drew W) a0 Q 29 o := by
    refine E29.stepW fun o hd ho hg hw => ?_
    intro y w listed hsz hls hun hwt hdown D' R hinv K hK
    rw [ha0] at hsz
    refine .inl ⟨wanted_yes E23 hg (by rw [hsz]; decide) (E23.postW (Post := (q24 p q bx dd ua ub lv g a h n G D)) (a := y) (w := w) D' (hw 23 (by simp))), ?_⟩
    have f6 : y.eval (Operand.tmp 6) = .pointer (some ⟨bx, 0, none⟩) := (R 6 (not_of (by rw [hds]; decide))).trans h6
    exact wp_value (ox_field ho f6 (fldN w)) (hK _ _ (Mod.refl _ _) (by unfold q24; rfl) hinv)
  have s30 : ∀ o, ops[30]? = some o → StepW Try.prog ops (q24 p q bx dd ua ub lv g a h n G D) (fun _ W => Mod (fun _ => False) w0.drew W) a0 Q 30 o := by
    refine E30.stepW fun o hd ho hg hw => ?_
    intro y w listed hsz hls hun hwt hdown D' R hinv K hK
    rw [ha0] at hsz
    refine .inl ⟨wanted_yes E23 hg (by rw [hsz]; decide) (E23.postW (Post := (q24 p q bx dd ua ub lv g a h n G D)) (a := y) (w := w) D' (hw 23 (by simp))), ?_⟩
    have f147 : y.eval (Operand.tmp 147) = .pointer (some ⟨bx, 1, none⟩) := E29.postW (Post := (q24 p q bx dd ua ub lv g a h n G D)) (a := y) (w := w) D' (hw 29 (by simp))
    exact wp_value (ox_load ho f147 (ldI (DD hinv cN))) (hK _ _ (Mod.refl _ _) (by unfold q24; rfl) hinv)
  have s31 : ∀ o, ops[31]? = some o → StepW Try.prog ops (q24 p q bx dd ua ub lv g a h n G D) (fun _ W => Mod (fun _ => False) w0.drew W) a0 Q 31 o := by
    refine E31.stepW fun o hd ho hg hw => ?_
    intro y w listed hsz hls hun hwt hdown D' R hinv K hK
    rw [ha0] at hsz
    refine .inl ⟨wanted_yes E23 hg (by rw [hsz]; decide) (E23.postW (Post := (q24 p q bx dd ua ub lv g a h n G D)) (a := y) (w := w) D' (hw 23 (by simp))), ?_⟩
    have f146 : y.eval (Operand.tmp 146) = .pointer (some ⟨q, 0, none⟩) := E28.postW (Post := (q24 p q bx dd ua ub lv g a h n G D)) (a := y) (w := w) D' (hw 28 (by simp))
    have f148 : y.eval (Operand.tmp 148) = .int .i64 n := E30.postW (Post := (q24 p q bx dd ua ub lv g a h n G D)) (a := y) (w := w) D' (hw 30 (by simp))
    refine wp_enter (f := 24) (args := #[.pointer (some ⟨q, 0, none⟩), .int .i64 n]) ?_ (HG' w hinv) ?_
    · rw [exec_call2 y.eval (fun args w => by simp [go_sem]) rfl ho, f146, f148]
    · rintro e w' ⟨v, rfl, hv, hm⟩
      exact ⟨_, rfl, hK _ _ hm (by unfold q24; simpa using hv) (hinv.and hm)⟩
  have s32 : ∀ o, ops[32]? = some o → StepW Try.prog ops (q24 p q bx dd ua ub lv g a h n G D) (fun _ W => Mod (fun _ => False) w0.drew W) a0 Q 32 o := by
    refine E32.stepW fun o hd ho hg hw => ?_
    intro y w listed hsz hls hun hwt hdown D' R hinv K hK
    rw [ha0] at hsz
    refine .inl ⟨wanted_yes E23 hg (by rw [hsz]; decide) (E23.postW (Post := (q24 p q bx dd ua ub lv g a h n G D)) (a := y) (w := w) D' (hw 23 (by simp))), ?_⟩
    have f145 : Cr.Own w (y.eval (Operand.tmp 145)) G := E27.postW (Post := (q24 p q bx dd ua ub lv g a h n G D)) (a := y) (w := w) D' (hw 27 (by simp))
    have f149 : Cr.Own w (y.eval (Operand.tmp 149)) G := E31.postW (Post := (q24 p q bx dd ua ub lv g a h n G D)) (a := y) (w := w) D' (hw 31 (by simp))
    refine wp_enter (f := 22) (args := #[y.eval (Operand.tmp 145), y.eval (Operand.tmp 149)]) ?_ (HE w _ _ f145 f149) ?_
    · rw [exec_call2 y.eval (fun args w => by simp [go_sem]) rfl ho]
    · rintro e w' ⟨rfl, hm⟩
      exact ⟨_, rfl, hK _ _ hm (by unfold q24; rfl) (hinv.and hm)⟩
  have s33 : ∀ o, ops[33]? = some o → StepW Try.prog ops (q24 p q bx dd ua ub lv g a h n G D) (fun _ W => Mod (fun _ => False) w0.drew W) a0 Q 33 o := by
    refine E33.stepW fun o hd ho hg hw => ?_
    intro y w listed hsz hls hun hwt hdown D' R hinv K hK
    rw [ha0] at hsz
    refine .inl ⟨wanted_yes E23 hg (by rw [hsz]; decide) (E23.postW (Post := (q24 p q bx dd ua ub lv g a h n G D)) (a := y) (w := w) D' (hw 23 (by simp))), ?_⟩
    have f150 : y.eval (Operand.tmp 150) = .bool true := E32.postW (Post := (q24 p q bx dd ua ub lv g a h n G D)) (a := y) (w := w) D' (hw 32 (by simp))
    exact wp_value (ox_not ho f150) (hK _ _ (Mod.refl _ _) (by unfold q24; rfl) hinv)
  have s34 : ∀ o, ops[34]? = some o → StepW Try.prog ops (q24 p q bx dd ua ub lv g a h n G D) (fun _ W => Mod (fun _ => False) w0.drew W) a0 Q 34 o := by
    refine E34.stepW fun o hd ho hg hw => ?_
    intro y w listed hsz hls hun hwt hdown D' R hinv K hK
    rw [ha0] at hsz
    refine .inl ⟨wanted_none hg, ?_⟩
    have f141 : y.eval (Operand.tmp 141) = .bool false := E23.postW (Post := (q24 p q bx dd ua ub lv g a h n G D)) (a := y) (w := w) D' (hw 23 (by simp))
    have f151 : y.eval (Operand.tmp 151) = .bool false := E33.postW (Post := (q24 p q bx dd ua ub lv g a h n G D)) (a := y) (w := w) D' (hw 33 (by simp))
    exact wp_value (ox_pick ho f141 f151) (hK _ _ (Mod.refl _ _) (by unfold q24; rfl) hinv)
  have s35 : ∀ o, ops[35]? = some o → StepW Try.prog ops (q24 p q bx dd ua ub lv g a h n G D) (fun _ W => Mod (fun _ => False) w0.drew W) a0 Q 35 o := by
    refine E35.stepW fun o hd ho hg hw => ?_
    intro y w listed hsz hls hun hwt hdown D' R hinv K hK
    rw [ha0] at hsz
    refine .inl ⟨wanted_none hg, ?_⟩
    have f152 : y.eval (Operand.tmp 152) = .bool false := E34.postW (Post := (q24 p q bx dd ua ub lv g a h n G D)) (a := y) (w := w) D' (hw 34 (by simp))
    exact wp_value (ox_move ho f152) (hK _ _ (Mod.refl _ _) (by unfold q24; rfl) hinv)
  have s36 : ∀ o, ops[36]? = some o → StepW Try.prog ops (q24 p q bx dd ua ub lv g a h n G D) (fun _ W => Mod (fun _ => False) w0.drew W) a0 Q 36 o := by
    refine E36.stepW fun o hd ho hg hw => ?_
    intro y w listed hsz hls hun hwt hdown D' R hinv K hK
    rw [ha0] at hsz
    refine .inl ⟨wanted_yes E35 hg (by rw [hsz]; decide) (E35.postW (Post := (q24 p q bx dd ua ub lv g a h n G D)) (a := y) (w := w) D' (hw 35 (by simp))), ?_⟩
    have f17 : y.eval (Operand.tmp 17) = lv := (R 17 (not_of (by rw [hds]; decide))).trans h17
    exact wp_value (ox_move ho f17) (hK _ _ (Mod.refl _ _) (by unfold q24; rfl) hinv)
  have s37 : ∀ o, ops[37]? = some o → StepW Try.prog ops (q24 p q bx dd ua ub lv g a h n G D) (fun _ W => Mod (fun _ => False) w0.drew W) a0 Q 37 o := by
    refine E37.stepW fun o hd ho hg hw => ?_
    intro y w listed hsz hls hun hwt hdown D' R hinv K hK
    rw [ha0] at hsz
    refine .inl ⟨wanted_yes E35 hg (by rw [hsz]; decide) (E35.postW (Post := (q24 p q bx dd ua ub lv g a h n G D)) (a := y) (w := w) D' (hw 35 (by simp))), ?_⟩
    have f4 : y.eval (Operand.tmp 4) = .pointer (some ⟨q, 0, none⟩) := (R 4 (not_of (by rw [hds]; decide))).trans h4
    exact wp_value (ox_move ho f4) (hK _ _ (Mod.refl _ _) (by unfold q24; rfl) hinv)
  have s38 : ∀ o, ops[38]? = some o → StepW Try.prog ops (q24 p q bx dd ua ub lv g a h n G D) (fun _ W => Mod (fun _ => False) w0.drew W) a0 Q 38 o := by
    refine E38.stepW fun o hd ho hg hw => ?_
    intro y w listed hsz hls hun hwt hdown D' R hinv K hK
    rw [ha0] at hsz
    refine .inl ⟨wanted_yes E35 hg (by rw [hsz]; decide) (E35.postW (Post := (q24 p q bx dd ua ub lv g a h n G D)) (a := y) (w := w) D' (hw 35 (by simp))), ?_⟩
    have f6 : y.eval (Operand.tmp 6) = .pointer (some ⟨bx, 0, none⟩) := (R 6 (not_of (by rw [hds]; decide))).trans h6
    exact wp_value (ox_field ho f6 (fldN w)) (hK _ _ (Mod.refl _ _) (by unfold q24; rfl) hinv)
  have s39 : ∀ o, ops[39]? = some o → StepW Try.prog ops (q24 p q bx dd ua ub lv g a h n G D) (fun _ W => Mod (fun _ => False) w0.drew W) a0 Q 39 o := by
    refine E39.stepW fun o hd ho hg hw => ?_
    intro y w listed hsz hls hun hwt hdown D' R hinv K hK
    rw [ha0] at hsz
    refine .inl ⟨wanted_yes E35 hg (by rw [hsz]; decide) (E35.postW (Post := (q24 p q bx dd ua ub lv g a h n G D)) (a := y) (w := w) D' (hw 35 (by simp))), ?_⟩
    have f156 : y.eval (Operand.tmp 156) = .pointer (some ⟨bx, 1, none⟩) := E38.postW (Post := (q24 p q bx dd ua ub lv g a h n G D)) (a := y) (w := w) D' (hw 38 (by simp))
    exact wp_value (ox_load ho f156 (ldI (DD hinv cN))) (hK _ _ (Mod.refl _ _) (by unfold q24; rfl) hinv)
  have s40 : ∀ o, ops[40]? = some o → StepW Try.prog ops (q24 p q bx dd ua ub lv g a h n G D) (fun _ W => Mod (fun _ => False) w0.drew W) a0 Q 40 o := by
    refine E40.stepW fun o hd ho hg hw => ?_
    intro y w listed hsz hls hun hwt hdown D' R hinv K hK
    rw [ha0] at hsz
    refine .inl ⟨wanted_yes E35 hg (by rw [hsz]; decide) (E35.postW (Post := (q24 p q bx dd ua ub lv g a h n G D)) (a := y) (w := w) D' (hw 35 (by simp))), ?_⟩
    have f155 : y.eval (Operand.tmp 155) = .pointer (some ⟨q, 0, none⟩) := E37.postW (Post := (q24 p q bx dd ua ub lv g a h n G D)) (a := y) (w := w) D' (hw 37 (by simp))
    have f157 : y.eval (Operand.tmp 157) = .int .i64 n := E39.postW (Post := (q24 p q bx dd ua ub lv g a h n G D)) (a := y) (w := w) D' (hw 39 (by simp))
    refine wp_enter (f := 26) (args := #[.pointer (some ⟨q, 0, none⟩), .int .i64 n]) ?_ (HB w hinv) ?_
    · rw [exec_call2 y.eval (fun args w => by simp [go_sem]) rfl ho, f155, f157]
    · rintro e w' ⟨v, os, b, rfl, hv, hv', hm⟩
      exact ⟨_, rfl, hK _ _ hm (by unfold q24; exact ⟨os, b, hv, hv'⟩) (hinv.and hm)⟩
  have s41 : ∀ o, ops[41]? = some o → StepW Try.prog ops (q24 p q bx dd ua ub lv g a h n G D) (fun _ W => Mod (fun _ => False) w0.drew W) a0 Q 41 o := by
    refine E41.stepW fun o hd ho hg hw => ?_
    intro y w listed hsz hls hun hwt hdown D' R hinv K hK
    rw [ha0] at hsz
    refine .inl ⟨wanted_yes E35 hg (by rw [hsz]; decide) (E35.postW (Post := (q24 p q bx dd ua ub lv g a h n G D)) (a := y) (w := w) D' (hw 35 (by simp))), ?_⟩
    have f154 : y.eval (Operand.tmp 154) = lv := E36.postW (Post := (q24 p q bx dd ua ub lv g a h n G D)) (a := y) (w := w) D' (hw 36 (by simp))
    have f158 : ∃ os b, Rd18 w b (y.eval (Operand.tmp 158)) os ∧ os.map (·.1) = D := E40.postW (Post := (q24 p q bx dd ua ub lv g a h n G D)) (a := y) (w := w) D' (hw 40 (by simp))
    obtain ⟨os, b, hR, hO⟩ := f158
    refine wp_enter (f := 25) (args := #[lv, y.eval (Operand.tmp 158)]) ?_ (HD w _ os b hinv hR hO) ?_
    · rw [exec_call2 y.eval (fun args w => by simp [go_sem]) rfl ho, f154]
    · rintro e w' ⟨rfl, hm⟩
      exact ⟨_, rfl, hK _ _ hm (by unfold q24; rfl) (hinv.and hm)⟩
  have s42 : ∀ o, ops[42]? = some o → StepW Try.prog ops (q24 p q bx dd ua ub lv g a h n G D) (fun _ W => Mod (fun _ => False) w0.drew W) a0 Q 42 o := by
    refine E42.stepW fun o hd ho hg hw => ?_
    intro y w listed hsz hls hun hwt hdown D' R hinv K hK
    rw [ha0] at hsz
    refine .inl ⟨wanted_yes E35 hg (by rw [hsz]; decide) (E35.postW (Post := (q24 p q bx dd ua ub lv g a h n G D)) (a := y) (w := w) D' (hw 35 (by simp))), ?_⟩
    have f159 : y.eval (Operand.tmp 159) = .bool true := E41.postW (Post := (q24 p q bx dd ua ub lv g a h n G D)) (a := y) (w := w) D' (hw 41 (by simp))
    exact wp_value (ox_not ho f159) (hK _ _ (Mod.refl _ _) (by unfold q24; rfl) hinv)
  have s43 : ∀ o, ops[43]? = some o → StepW Try.prog ops (q24 p q bx dd ua ub lv g a h n G D) (fun _ W => Mod (fun _ => False) w0.drew W) a0 Q 43 o := by
    refine E43.stepW fun o hd ho hg hw => ?_
    intro y w listed hsz hls hun hwt hdown D' R hinv K hK
    rw [ha0] at hsz
    refine .inl ⟨wanted_none hg, ?_⟩
    have f153 : y.eval (Operand.tmp 153) = .bool false := E35.postW (Post := (q24 p q bx dd ua ub lv g a h n G D)) (a := y) (w := w) D' (hw 35 (by simp))
    have f160 : y.eval (Operand.tmp 160) = .bool false := E42.postW (Post := (q24 p q bx dd ua ub lv g a h n G D)) (a := y) (w := w) D' (hw 42 (by simp))
    exact wp_value (ox_pick ho f153 f160) (hK _ _ (Mod.refl _ _) (by unfold q24; rfl) hinv)
  refine region_freeW (Post := (q24 p q bx dd ua ub lv g a h n G D)) (Inv := (fun _ W => Mod (fun _ => False) w0.drew W)) mixedD (low_of hlow) (fun i o ho => by rw [ha0]; exact dst_of (by rw [hds]; decide) i o ho) (inj_of hnd) (Mod.refl _ _) q24_stab ?_ ?_
  · intro i o ho
    have hi : i < 44 := by
      rw [← hN]
      rcases Nat.lt_or_ge i ops.size with h | h
      · exact h
      · rw [Array.getElem?_eq_none h] at ho; cases ho
    clear hend
    by_cases e0 : i = 0
    · subst e0; exact s0 o ho
    by_cases e1 : i = 1
    · subst e1; exact s1 o ho
    by_cases e2 : i = 2
    · subst e2; exact s2 o ho
    by_cases e3 : i = 3
    · subst e3; exact s3 o ho
    by_cases e4 : i = 4
    · subst e4; exact s4 o ho
    by_cases e5 : i = 5
    · subst e5; exact s5 o ho
    by_cases e6 : i = 6
    · subst e6; exact s6 o ho
    by_cases e7 : i = 7
    · subst e7; exact s7 o ho
    by_cases e8 : i = 8
    · subst e8; exact s8 o ho
    by_cases e9 : i = 9
    · subst e9; exact s9 o ho
    by_cases e10 : i = 10
    · subst e10; exact s10 o ho
    by_cases e11 : i = 11
    · subst e11; exact s11 o ho
    by_cases e12 : i = 12
    · subst e12; exact s12 o ho
    by_cases e13 : i = 13
    · subst e13; exact s13 o ho
    by_cases e14 : i = 14
    · subst e14; exact s14 o ho
    by_cases e15 : i = 15
    · subst e15; exact s15 o ho
    by_cases e16 : i = 16
    · subst e16; exact s16 o ho
    by_cases e17 : i = 17
    · subst e17; exact s17 o ho
    by_cases e18 : i = 18
    · subst e18; exact s18 o ho
    by_cases e19 : i = 19
    · subst e19; exact s19 o ho
    by_cases e20 : i = 20
    · subst e20; exact s20 o ho
    by_cases e21 : i = 21
    · subst e21; exact s21 o ho
    by_cases e22 : i = 22
    · subst e22; exact s22 o ho
    by_cases e23 : i = 23
    · subst e23; exact s23 o ho
    by_cases e24 : i = 24
    · subst e24; exact s24 o ho
    by_cases e25 : i = 25
    · subst e25; exact s25 o ho
    by_cases e26 : i = 26
    · subst e26; exact s26 o ho
    by_cases e27 : i = 27
    · subst e27; exact s27 o ho
    by_cases e28 : i = 28
    · subst e28; exact s28 o ho
    by_cases e29 : i = 29
    · subst e29; exact s29 o ho
    by_cases e30 : i = 30
    · subst e30; exact s30 o ho
    by_cases e31 : i = 31
    · subst e31; exact s31 o ho
    by_cases e32 : i = 32
    · subst e32; exact s32 o ho
    by_cases e33 : i = 33
    · subst e33; exact s33 o ho
    by_cases e34 : i = 34
    · subst e34; exact s34 o ho
    by_cases e35 : i = 35
    · subst e35; exact s35 o ho
    by_cases e36 : i = 36
    · subst e36; exact s36 o ho
    by_cases e37 : i = 37
    · subst e37; exact s37 o ho
    by_cases e38 : i = 38
    · subst e38; exact s38 o ho
    by_cases e39 : i = 39
    · subst e39; exact s39 o ho
    by_cases e40 : i = 40
    · subst e40; exact s40 o ho
    by_cases e41 : i = 41
    · subst e41; exact s41 o ho
    by_cases e42 : i = 42
    · subst e42; exact s42 o ho
    by_cases e43 : i = 43
    · subst e43; exact s43 o ho
    omega
  · intro y w listed hsz hdf hls hall hinv hp hr
    have e : y = puts a0 [(118, y.tmps.getD 118 undef), (119, y.tmps.getD 119 undef), (120, y.tmps.getD 120 undef), (121, y.tmps.getD 121 undef), (122, y.tmps.getD 122 undef), (123, y.tmps.getD 123 undef), (124, y.tmps.getD 124 undef), (125, y.tmps.getD 125 undef), (126, y.tmps.getD 126 undef), (127, y.tmps.getD 127 undef), (128, y.tmps.getD 128 undef), (129, y.tmps.getD 129 undef), (130, y.tmps.getD 130 undef), (131, y.tmps.getD 131 undef), (132, y.tmps.getD 132 undef), (133, y.tmps.getD 133 undef), (134, y.tmps.getD 134 undef), (135, y.tmps.getD 135 undef), (136, y.tmps.getD 136 undef), (137, y.tmps.getD 137 undef), (138, y.tmps.getD 138 undef), (139, y.tmps.getD 139 undef), (140, y.tmps.getD 140 undef), (141, y.tmps.getD 141 undef), (142, y.tmps.getD 142 undef), (143, y.tmps.getD 143 undef), (144, y.tmps.getD 144 undef), (145, y.tmps.getD 145 undef), (146, y.tmps.getD 146 undef), (147, y.tmps.getD 147 undef), (148, y.tmps.getD 148 undef), (149, y.tmps.getD 149 undef), (150, y.tmps.getD 150 undef), (151, y.tmps.getD 151 undef), (152, y.tmps.getD 152 undef), (153, y.tmps.getD 153 undef), (154, y.tmps.getD 154 undef), (155, y.tmps.getD 155 undef), (156, y.tmps.getD 156 undef), (157, y.tmps.getD 157 undef), (158, y.tmps.getD 158 undef), (159, y.tmps.getD 159 undef), (160, y.tmps.getD 160 undef), (161, .bool false)] := by
      refine eq_puts hsz hdf (nodup_of (D := [some 118, some 119, some 120, some 121, some 122, some 123, some 124, some 125, some 126, some 127, some 128, some 129, some 130, some 131, some 132, some 133, some 134, some 135, some 136, some 137, some 138, some 139, some 140, some 141, some 142, some 143, some 144, some 145, some 146, some 147, some 148, some 149, some 150, some 151, some 152, some 153, some 154, some 155, some 156, some 157, some 158, some 159, some 160, some 161]) rfl (by decide)) (by rw [ha0]; simp) ?_ ?_
      · intro q hq
        simp only [List.mem_cons, List.not_mem_nil, or_false] at hq
        rcases hq with rfl | rfl | rfl | rfl | rfl | rfl | rfl | rfl | rfl | rfl | rfl | rfl | rfl | rfl | rfl | rfl | rfl | rfl | rfl | rfl | rfl | rfl | rfl | rfl | rfl | rfl | rfl | rfl | rfl | rfl | rfl | rfl | rfl | rfl | rfl | rfl | rfl | rfl | rfl | rfl | rfl | rfl | rfl | rfl
        · rfl
        · rfl
        · rfl
        · rfl
        · rfl
        · rfl
        · rfl
        · rfl
        · rfl
        · rfl
        · rfl
        · rfl
        · rfl
        · rfl
        · rfl
        · rfl
        · rfl
        · rfl
        · rfl
        · rfl
        · rfl
        · rfl
        · rfl
        · rfl
        · rfl
        · rfl
        · rfl
        · rfl
        · rfl
        · rfl
        · rfl
        · rfl
        · rfl
        · rfl
        · rfl
        · rfl
        · rfl
        · rfl
        · rfl
        · rfl
        · rfl
        · rfl
        · rfl
        · obtain ⟨o, h1, h2, _⟩ := E43.ex; exact hp 43 o _ h1 h2
      · intro t ht
        refine hr t (not_of ?_)
        rw [hds]
        simp only [List.mem_cons, List.not_mem_nil, or_false, forall_eq_or_imp, forall_eq] at ht
        simp only [List.contains_cons, List.contains_nil, Bool.or_eq_false_iff, beq_eq_false_iff_ne, ne_eq, Option.some.injEq, Bool.or_false]
        simp only [eq_comm (a := t)]
        simp [ht]
    rw [e]
    exact hend _ _ _ _ _ _ _ _ _ _ _ _ _ _ _ _ _ _ _ _ _ _ _ _ _ _ _ _ _ _ _ _ _ _ _ _ _ _ _ _ _ _ _ w hinv
end Go.Proofs.Ytejlcoakencdiaa
