/- Contract of commit's Check. Conditions: sizes that a slice has. -/
import Derived.Test.YtlekmgjjjniomaaUb
namespace Go.Proofs.Ytlekmgjjjniomaa
open Go.RowKit
/-- What Check answers. -/
def ckC (c : Cm) : Int := if okC c = true then 0 else 2
theorem ckC_ok {c : Cm} (h : ckC c = 0) : okC c = true := by unfold ckC at h; split at h <;> simp_all
theorem rck_len24 {o : Oper} {w : World} {ρ : Operand → Value} {x : Operand} (ho : o.op = .call { callee := .builtin .len, args := #[x], argTypes := #[24] }) {ao : Option Addr} {n c : Nat} (hx : ρ x = .slice ao n c) : (execOp ρ o).run Try.prog w = .ok (.value (.int .i64 (n : Int))) w := by
  simp [execOp, ho, resolve, invoke, hx, go_sem]
/-- What is said of a slot. -/
def p_rck (g N : Nat) (le ccap : Nat) (cao : Option Addr) (ec mm rs rr hp ls0 : Int) (c2 c4 c6 : Bool) (ms : List Int) (i : Nat) (v : Value) (_w : World) : Prop :=
  match i with
  | 0 => v = .pointer (some ⟨g, 2, none⟩)
  | 1 => v = .int .i64 mm
  | 2 => v = .int .i64 ec
  | 3 => v = .bool (ec == 0)
  | 4 => v = .bool (ec == 0)
  | 5 => v = if (ec == 0) = true then .pointer (some ⟨g, 0, none⟩) else undef
  | 6 => v = if (ec == 0) = true then .agg #[.int .i64 rs, .int .i64 rr] else undef
  | 7 => v = if (ec == 0) = true then .bool c2 else undef
  | 8 => v = .bool ((ec == 0) && c2)
  | 9 => v = .bool ((ec == 0) && c2)
  | 10 => v = if ((ec == 0) && c2) = true then .pointer (some ⟨g, 0, none⟩) else undef
  | 11 => v = if ((ec == 0) && c2) = true then .pointer (some ⟨g, 1, none⟩) else undef
  | 12 => v = if ((ec == 0) && c2) = true then .int .i64 rr else undef
  | 13 => v = if ((ec == 0) && c2) = true then .pointer (some ⟨g, 2, none⟩) else undef
  | 14 => v = if ((ec == 0) && c2) = true then .int .i64 mm else undef
  | 15 => v = if ((ec == 0) && c2) = true then .int .i64 ls0 else undef
  | 16 => v = if ((ec == 0) && c2) = true then .bool (rr == ls0) else undef
  | 17 => v = .bool (((ec == 0) && c2) && (rr == ls0))
  | 18 => v = .bool (((ec == 0) && c2) && (rr == ls0))
  | 19 => v = if (((ec == 0) && c2) && (rr == ls0)) = true then .pointer (some ⟨g, 3, none⟩) else undef
  | 20 => v = if (((ec == 0) && c2) && (rr == ls0)) = true then .int .i64 hp else undef
  | 21 => v = if (((ec == 0) && c2) && (rr == ls0)) = true then .int .i64 (N : Int) else undef
  | 22 => v = if (((ec == 0) && c2) && (rr == ls0)) = true then .int .i64 (IntKind.i64.wrap ((2 : Int) * (N : Int))) else undef
  | 23 => v = if (((ec == 0) && c2) && (rr == ls0)) = true then .bool c4 else undef
  | 24 => v = .bool ((((ec == 0) && c2) && (rr == ls0)) && c4)
  | 25 => v = .bool ((((ec == 0) && c2) && (rr == ls0)) && c4)
  | 26 => v = if ((((ec == 0) && c2) && (rr == ls0)) && c4) = true then .pointer (some ⟨g, 4, none⟩) else undef
  | 27 => v = if ((((ec == 0) && c2) && (rr == ls0)) && c4) = true then .slice cao le ccap else undef
  | 28 => v = if ((((ec == 0) && c2) && (rr == ls0)) && c4) = true then .int .i64 (le : Int) else undef
  | 29 => v = if ((((ec == 0) && c2) && (rr == ls0)) && c4) = true then .pointer (some ⟨g, 3, none⟩) else undef
  | 30 => v = if ((((ec == 0) && c2) && (rr == ls0)) && c4) = true then .int .i64 hp else undef
  | 31 => v = if ((((ec == 0) && c2) && (rr == ls0)) && c4) = true then .int .i64 (N : Int) else undef
  | 32 => v = if ((((ec == 0) && c2) && (rr == ls0)) && c4) = true then .int .i64 (if (N : Int) < hp then (N : Int) else hp) else undef
  | 33 => v = if ((((ec == 0) && c2) && (rr == ls0)) && c4) = true then .bool ((le : Int) == (if (N : Int) < hp then (N : Int) else hp)) else undef
  | 34 => v = .bool (((((ec == 0) && c2) && (rr == ls0)) && c4) && ((le : Int) == (if (N : Int) < hp then (N : Int) else hp)))
  | 35 => v = .bool (((((ec == 0) && c2) && (rr == ls0)) && c4) && ((le : Int) == (if (N : Int) < hp then (N : Int) else hp)))
  | 36 => v = if (((((ec == 0) && c2) && (rr == ls0)) && c4) && ((le : Int) == (if (N : Int) < hp then (N : Int) else hp))) = true then .pointer (some ⟨g, 4, none⟩) else undef
  | 37 => v = if (((((ec == 0) && c2) && (rr == ls0)) && c4) && ((le : Int) == (if (N : Int) < hp then (N : Int) else hp))) = true then .slice cao le ccap else undef
  | 38 => v = if (((((ec == 0) && c2) && (rr == ls0)) && c4) && ((le : Int) == (if (N : Int) < hp then (N : Int) else hp))) = true then .pointer (some ⟨g, 2, none⟩) else undef
  | 39 => v = if (((((ec == 0) && c2) && (rr == ls0)) && c4) && ((le : Int) == (if (N : Int) < hp then (N : Int) else hp))) = true then .int .i64 mm else undef
  | 40 => ((((((ec == 0) && c2) && (rr == ls0)) && c4) && ((le : Int) == (if (N : Int) < hp then (N : Int) else hp))) = true → ∃ lv, v = lv ∧ Cr.Own _w lv ms) ∧ ((((((ec == 0) && c2) && (rr == ls0)) && c4) && ((le : Int) == (if (N : Int) < hp then (N : Int) else hp))) = false → v = undef)
  | 41 => v = if (((((ec == 0) && c2) && (rr == ls0)) && c4) && ((le : Int) == (if (N : Int) < hp then (N : Int) else hp))) = true then .bool c6 else undef
  | 42 => v = .bool ((((((ec == 0) && c2) && (rr == ls0)) && c4) && ((le : Int) == (if (N : Int) < hp then (N : Int) else hp))) && c6)
  | _ => True
theorem p_rck_stab (g N : Nat) (le ccap : Nat) (cao : Option Addr) (ec mm rs rr hp ls0 : Int) (c2 c4 c6 : Bool) (ms : List Int) : ∀ i v w w', Mod (fun _ => False) w w' → (p_rck g N le ccap cao ec mm rs rr hp ls0 c2 c4 c6 ms) i v w → (p_rck g N le ccap cao ec mm rs rr hp ls0 c2 c4 c6 ms) i v w' := by
  intro i v w w' hm h
  unfold p_rck at h ⊢
  split at h
  case h_41 => exact ⟨fun hc => by obtain ⟨lv, h1, h2⟩ := h.1 hc; exact ⟨lv, h1, h2.mod hm (fun _ _ h => h)⟩, h.2⟩
  all_goals exact h
/-- Its operations. -/
structure O_rck (ops : Array Oper) : Prop where
  e0 : Is ops 0 (some 7) (Op.fieldAddr 26 (Operand.tmp 1) 1) none []
  e1 : Is ops 1 (some 8) (Op.load 3 (Operand.tmp 7)) none [0]
  e2 : Is ops 2 (some 9) (Op.call { callee := Callee.value (Operand.func 36), args := #[Operand.tmp 8], argTypes := #[3] }) none [1]
  e3 : Is ops 3 (some 10) (Op.binOp BinOp.eql 30 (Operand.tmp 9) (Operand.const (Value.int IntKind.i64 0)) 30) none [2]
  e4 : Is ops 4 (some 11) (Op.move (Operand.tmp 10)) none [2, 3]
  e5 : Is ops 5 (some 12) (Op.fieldAddr 26 (Operand.tmp 1) 0) (some (4, true)) [4]
  e6 : Is ops 6 (some 13) (Op.load 23 (Operand.tmp 12)) (some (4, true)) [4, 5]
  e7 : Is ops 7 (some 14) (Op.call { callee := Callee.value (Operand.func 37), args := #[Operand.tmp 13], argTypes := #[23] }) (some (4, true)) [4, 6]
  e8 : Is ops 8 (some 15) (Op.pick (Operand.tmp 11) (Operand.tmp 14) (Operand.const (Value.bool false))) none [4, 7]
  e9 : Is ops 9 (some 16) (Op.move (Operand.tmp 15)) none [7, 8]
  e10 : Is ops 10 (some 17) (Op.fieldAddr 26 (Operand.tmp 1) 0) (some (9, true)) [9]
  e11 : Is ops 11 (some 18) (Op.fieldAddr 23 (Operand.tmp 17) 1) (some (9, true)) [9, 10]
  e12 : Is ops 12 (some 19) (Op.load 3 (Operand.tmp 18)) (some (9, true)) [9, 11]
  e13 : Is ops 13 (some 20) (Op.fieldAddr 26 (Operand.tmp 1) 1) (some (9, true)) [9]
  e14 : Is ops 14 (some 21) (Op.load 3 (Operand.tmp 20)) (some (9, true)) [9, 13]
  e15 : Is ops 15 (some 22) (Op.call { callee := Callee.value (Operand.func 38), args := #[Operand.tmp 21], argTypes := #[3] }) (some (9, true)) [9, 14]
  e16 : Is ops 16 (some 23) (Op.binOp BinOp.eql 3 (Operand.tmp 19) (Operand.tmp 22) 3) (some (9, true)) [9, 12, 15]
  e17 : Is ops 17 (some 24) (Op.pick (Operand.tmp 16) (Operand.tmp 23) (Operand.const (Value.bool false))) none [9, 16]
  e18 : Is ops 18 (some 25) (Op.move (Operand.tmp 24)) none [15, 17]
  e19 : Is ops 19 (some 26) (Op.fieldAddr 26 (Operand.tmp 1) 2) (some (18, true)) [18]
  e20 : Is ops 20 (some 27) (Op.load 3 (Operand.tmp 26)) (some (18, true)) [18, 19]
  e21 : Is ops 21 (some 28) (Op.move (Operand.tmp 3)) (some (18, true)) [18]
  e22 : Is ops 22 (some 29) (Op.binOp BinOp.mul 3 (Operand.const (Value.int IntKind.i64 2)) (Operand.tmp 28) 3) (some (18, true)) [18, 21]
  e23 : Is ops 23 (some 30) (Op.call { callee := Callee.value (Operand.func 39), args := #[Operand.tmp 27, Operand.const (Value.int IntKind.i64 1), Operand.tmp 29], argTypes := #[3, 3, 3] }) (some (18, true)) [18, 20, 22]
  e24 : Is ops 24 (some 31) (Op.pick (Operand.tmp 25) (Operand.tmp 30) (Operand.const (Value.bool false))) none [18, 23]
  e25 : Is ops 25 (some 32) (Op.move (Operand.tmp 31)) none [23, 24]
  e26 : Is ops 26 (some 33) (Op.fieldAddr 26 (Operand.tmp 1) 3) (some (25, true)) [25]
  e27 : Is ops 27 (some 34) (Op.load 24 (Operand.tmp 33)) (some (25, true)) [25, 26]
  e28 : Is ops 28 (some 35) (Op.call { callee := Callee.builtin Builtin.len, args := #[Operand.tmp 34], argTypes := #[24] }) (some (25, true)) [25, 27]
  e29 : Is ops 29 (some 36) (Op.fieldAddr 26 (Operand.tmp 1) 2) (some (25, true)) [25]
  e30 : Is ops 30 (some 37) (Op.load 3 (Operand.tmp 36)) (some (25, true)) [25, 29]
  e31 : Is ops 31 (some 38) (Op.move (Operand.tmp 3)) (some (25, true)) [25]
  e32 : Is ops 32 (some 39) (Op.call { callee := Callee.builtin Builtin.min, args := #[Operand.tmp 37, Operand.tmp 38], argTypes := #[3, 3] }) (some (25, true)) [25, 30, 31]
  e33 : Is ops 33 (some 40) (Op.binOp BinOp.eql 3 (Operand.tmp 35) (Operand.tmp 39) 3) (some (25, true)) [25, 28, 32]
  e34 : Is ops 34 (some 41) (Op.pick (Operand.tmp 32) (Operand.tmp 40) (Operand.const (Value.bool false))) none [25, 33]
  e35 : Is ops 35 (some 42) (Op.move (Operand.tmp 41)) none [25, 34]
  e36 : Is ops 36 (some 43) (Op.fieldAddr 26 (Operand.tmp 1) 3) (some (35, true)) [35]
  e37 : Is ops 37 (some 44) (Op.load 24 (Operand.tmp 43)) (some (35, true)) [35, 36]
  e38 : Is ops 38 (some 45) (Op.fieldAddr 26 (Operand.tmp 1) 1) (some (35, true)) [35]
  e39 : Is ops 39 (some 46) (Op.load 3 (Operand.tmp 45)) (some (35, true)) [35, 38]
  e40 : Is ops 40 (some 47) (Op.call { callee := Callee.value (Operand.func 25), args := #[Operand.tmp 46], argTypes := #[3] }) (some (35, true)) [35, 39]
  e41 : Is ops 41 (some 48) (Op.call { callee := Callee.value (Operand.func 40), args := #[Operand.tmp 44, Operand.tmp 47], argTypes := #[24, 44] }) (some (35, true)) [35, 37, 40]
  e42 : Is ops 42 (some 49) (Op.pick (Operand.tmp 42) (Operand.tmp 48) (Operand.const (Value.bool false))) none [35, 41]
set_option maxRecDepth 100000 in
set_option maxHeartbeats 4000000 in
theorem rck {ops : Array Oper} {id : Nat} {a0 : Act} {w0 : World} {Q : Exit → Act → World → Prop} (g N : Nat) (le ccap : Nat) (cao : Option Addr) (ec mm rs rr hp ls0 : Int) (c2 c4 c6 : Bool) (ms : List Int)
    (E : O_rck ops) (hN : ops.size = 43) (hlow : lowB ops = true) (hds : dsts ops = [some 7, some 8, some 9, some 10, some 11, some 12, some 13, some 14, some 15, some 16, some 17, some 18, some 19, some 20, some 21, some 22, some 23, some 24, some 25, some 26, some 27, some 28, some 29, some 30, some 31, some 32, some 33, some 34, some 35, some 36, some 37, some 38, some 39, some 40, some 41, some 42, some 43, some 44, some 45, some 46, some 47, some 48, some 49]) (hnd : injB ops = true) (ha0 : a0.tmps.size = 50)
    (b1 : a0.tmps.getD 1 undef = .pointer (some ⟨g, 0, none⟩))
    (b3 : a0.tmps.getD 3 undef = .int .i64 (N : Int))
    (k_g_0 : w0.cell? ⟨g, 0, none⟩ = some (.int .i64 rs))
    (k_g_1 : w0.cell? ⟨g, 1, none⟩ = some (.int .i64 rr))
    (k_g_2 : w0.cell? ⟨g, 2, none⟩ = some (.int .i64 mm))
    (k_g_3 : w0.cell? ⟨g, 3, none⟩ = some (.int .i64 hp))
    (k_g_4 : w0.cell? ⟨g, 4, none⟩ = some (.slice cao le ccap))
    (H2 : ∀ (W : World), Mod (fun _ => False) w0 W → Calls Try.prog 36 #[.int .i64 mm] W fun e w' => e = .returned (.int .i64 ec) ∧ Mod (fun _ => False) W w')
    (H7 : ∀ (W : World), Mod (fun _ => False) w0 W → Calls Try.prog 37 #[.agg #[.int .i64 rs, .int .i64 rr]] W fun e w' => e = .returned (.bool c2) ∧ Mod (fun _ => False) W w')
    (H15 : ∀ (W : World), Mod (fun _ => False) w0 W → Calls Try.prog 38 #[.int .i64 mm] W fun e w' => e = .returned (.int .i64 ls0) ∧ Mod (fun _ => False) W w')
    (H23 : ∀ (W : World), Mod (fun _ => False) w0 W → Calls Try.prog 39 #[.int .i64 hp, .int .i64 1, .int .i64 (IntKind.i64.wrap ((2 : Int) * (N : Int)))] W fun e w' => e = .returned (.bool c4) ∧ Mod (fun _ => False) W w')
    (H40 : ∀ (W : World), Mod (fun _ => False) w0 W → Calls Try.prog 25 #[.int .i64 mm] W fun e w' => ∃ lv, e = .returned (lv) ∧ Cr.Own w' lv ms ∧ Mod (fun _ => False) W w')
    (H41 : (((((ec == 0) && c2) && (rr == ls0)) && c4) && ((le : Int) == (if (N : Int) < hp then (N : Int) else hp))) = true → ∀ (W : World) (lv : Value), Mod (fun _ => False) w0 W → Cr.Own W lv ms → Calls Try.prog 40 #[.slice cao le ccap, lv] W fun e w' => e = .returned (.bool c6) ∧ Mod (fun _ => False) W w')
    (hend : ∀ (f : Nat → Value) (w : World), Mod (fun _ => False) w0 w → Q .normal (puts a0 [(7, .pointer (some ⟨g, 2, none⟩)), (8, .int .i64 mm), (9, .int .i64 ec), (10, .bool (ec == 0)), (11, .bool (ec == 0)), (12, f 12), (13, f 13), (14, f 14), (15, .bool ((ec == 0) && c2)), (16, .bool ((ec == 0) && c2)), (17, f 17), (18, f 18), (19, f 19), (20, f 20), (21, f 21), (22, f 22), (23, f 23), (24, .bool (((ec == 0) && c2) && (rr == ls0))), (25, .bool (((ec == 0) && c2) && (rr == ls0))), (26, f 26), (27, f 27), (28, f 28), (29, f 29), (30, f 30), (31, .bool ((((ec == 0) && c2) && (rr == ls0)) && c4)), (32, .bool ((((ec == 0) && c2) && (rr == ls0)) && c4)), (33, f 33), (34, f 34), (35, f 35), (36, f 36), (37, f 37), (38, f 38), (39, f 39), (40, f 40), (41, .bool (((((ec == 0) && c2) && (rr == ls0)) && c4) && ((le : Int) == (if (N : Int) < hp then (N : Int) else hp)))), (42, .bool (((((ec == 0) && c2) && (rr == ls0)) && c4) && ((le : Int) == (if (N : Int) < hp then (N : Int) else hp)))), (43, f 43), (44, f 44), (45, f 45), (46, f 46), (47, f 47), (48, f 48), (49, .bool ((((((ec == 0) && c2) && (rr == ls0)) && c4) && ((le : Int) == (if (N : Int) < hp then (N : Int) else hp))) && c6))]) w) :
    (Code.region id ops true).wp Try.prog Q a0 w0 := by
  obtain ⟨E0, E1, E2, E3, E4, E5, E6, E7, E8, E9, E10, E11, E12, E13, E14, E15, E16, E17, E18, E19, E20, E21, E22, E23, E24, E25, E26, E27, E28, E29, E30, E31, E32, E33, E34, E35, E36, E37, E38, E39, E40, E41, E42⟩ := E
  have hstay : ∀ (i : Nat) (v : Value) (w w1 : World), Mod (fun _ => False) w w1 → (p_rck g N le ccap cao ec mm rs rr hp ls0 c2 c4 c6 ms) i v w → (p_rck g N le ccap cao ec mm rs rr hp ls0 c2 c4 c6 ms) i v w1 := fun i v w w' hm h => p_rck_stab _ _ _ _ _ _ _ _ _ _ _ _ _ _ _ i v w w' hm h
  have s0 : ∀ o, ops[0]? = some o → StepI Try.prog ops (p_rck g N le ccap cao ec mm rs rr hp ls0 c2 c4 c6 ms) (fun (_ : Array Bool) (_ : Act) (w : World) => Mod (fun _ => False) w0 w) a0 Q 0 o := by
    refine E0.stepI fun o hd ho hg hw => ?_
    intro y w listed hsz hls hun hwt hdown D' hRR hinv K hK
    have f1 : y.eval (Operand.tmp 1) = .pointer (some ⟨g, 0, none⟩)   := (hRR 1 (not_of (by rw [hds]; decide))).trans b1
    exact .inl ⟨wanted_none hg, wp_value (ox_field (v := .pointer (some ⟨g, 2, none⟩)) ho f1 (by simp [go_sem])) (hK _ _ (fun _ _ _ _ _ _ h => h) rfl hinv)⟩
  have s1 : ∀ o, ops[1]? = some o → StepI Try.prog ops (p_rck g N le ccap cao ec mm rs rr hp ls0 c2 c4 c6 ms) (fun (_ : Array Bool) (_ : Act) (w : World) => Mod (fun _ => False) w0 w) a0 Q 1 o := by
    refine E1.stepI fun o hd ho hg hw => ?_
    intro y w listed hsz hls hun hwt hdown D' hRR hinv K hK
    have f7 : y.eval (Operand.tmp 7) = .pointer (some ⟨g, 2, none⟩) := E0.postI (Post := (p_rck g N le ccap cao ec mm rs rr hp ls0 c2 c4 c6 ms)) (a := y) (w := w) D' (hwt 0 (hw 0 (by simp)))
    have h0 := hinv.cell k_g_2 (fun h => h)
    exact .inl ⟨wanted_none hg, wp_value (ox_load (v := .int .i64 mm) ho f7 (by simp [go_sem, h0])) (hK _ _ (fun _ _ _ _ _ _ h => h) rfl hinv)⟩
  have s2 : ∀ o, ops[2]? = some o → StepI Try.prog ops (p_rck g N le ccap cao ec mm rs rr hp ls0 c2 c4 c6 ms) (fun (_ : Array Bool) (_ : Act) (w : World) => Mod (fun _ => False) w0 w) a0 Q 2 o := by
    refine E2.stepI fun o hd ho hg hw => ?_
    intro y w listed hsz hls hun hwt hdown D' hRR hinv K hK
    have f8 : y.eval (Operand.tmp 8) = .int .i64 mm := E1.postI (Post := (p_rck g N le ccap cao ec mm rs rr hp ls0 c2 c4 c6 ms)) (a := y) (w := w) D' (hwt 1 (hw 1 (by simp)))
    refine .inl ⟨wanted_none hg, wp_enter (f := 36) (args := #[.int .i64 mm]) ?_ (H2 w  hinv ) ?_⟩
    · have h := exec_call1 y.eval (fun args w => by simp [go_sem]) rfl ho (w := w)
      rw [f8] at h
      exact h
    · rintro e w' ⟨rfl, hm⟩
      exact ⟨_, rfl, hK _ _ (fun j oj d _ _ _ h => hstay _ _ _ _ hm h) rfl (hinv.and hm)⟩
  have s3 : ∀ o, ops[3]? = some o → StepI Try.prog ops (p_rck g N le ccap cao ec mm rs rr hp ls0 c2 c4 c6 ms) (fun (_ : Array Bool) (_ : Act) (w : World) => Mod (fun _ => False) w0 w) a0 Q 3 o := by
    refine E3.stepI fun o hd ho hg hw => ?_
    intro y w listed hsz hls hun hwt hdown D' hRR hinv K hK
    have f9 : y.eval (Operand.tmp 9) = .int .i64 ec := E2.postI (Post := (p_rck g N le ccap cao ec mm rs rr hp ls0 c2 c4 c6 ms)) (a := y) (w := w) D' (hwt 2 (hw 2 (by simp)))
    exact .inl ⟨wanted_none hg, wp_value (rx_eqlT ho f9 rfl) (hK _ _ (fun _ _ _ _ _ _ h => h) rfl hinv)⟩
  have s4 : ∀ o, ops[4]? = some o → StepI Try.prog ops (p_rck g N le ccap cao ec mm rs rr hp ls0 c2 c4 c6 ms) (fun (_ : Array Bool) (_ : Act) (w : World) => Mod (fun _ => False) w0 w) a0 Q 4 o := by
    refine E4.stepI fun o hd ho hg hw => ?_
    intro y w listed hsz hls hun hwt hdown D' hRR hinv K hK
    have f10 : y.eval (Operand.tmp 10) = .bool (ec == 0) := E3.postI (Post := (p_rck g N le ccap cao ec mm rs rr hp ls0 c2 c4 c6 ms)) (a := y) (w := w) D' (hwt 3 (hw 3 (by simp)))
    exact .inl ⟨wanted_none hg, wp_value (ox_move ho f10) (hK _ _ (fun _ _ _ _ _ _ h => h) rfl hinv)⟩
  have s5 : ∀ o, ops[5]? = some o → StepI Try.prog ops (p_rck g N le ccap cao ec mm rs rr hp ls0 c2 c4 c6 ms) (fun (_ : Array Bool) (_ : Act) (w : World) => Mod (fun _ => False) w0 w) a0 Q 5 o := by
    refine E5.stepI fun o hd ho hg hw => ?_
    intro y w listed hsz hls hun hwt hdown D' hRR hinv K hK
    have gv : y.tmps.getD 11 undef = .bool (ec == 0) := E4.postI (Post := (p_rck g N le ccap cao ec mm rs rr hp ls0 c2 c4 c6 ms)) (a := y) (w := w) D' (hwt 4 (hw 4 (by simp)))
    have wt : Region.wanted o (yielded ops y.tmps) = (ec == 0) := by
      rw [wanted_b E4 hg (by rw [hsz, ha0]; decide) gv]
      cases (ec == 0) <;> rfl
    cases hc : (ec == 0)
    · exact .inr ⟨wt.trans hc, hK _ _ (fun _ _ _ _ _ _ h => h) (by show undef = if (ec == 0) = true then .pointer (some ⟨g, 0, none⟩) else undef; rw [hc]; rfl) hinv⟩
    · have f1 : y.eval (Operand.tmp 1) = .pointer (some ⟨g, 0, none⟩)   := (hRR 1 (not_of (by rw [hds]; decide))).trans b1
      exact .inl ⟨wt.trans hc, wp_value (ox_field (v := .pointer (some ⟨g, 0, none⟩)) ho f1 (by simp [go_sem])) (hK _ _ (fun _ _ _ _ _ _ h => h) (by show _ = if (ec == 0) = true then .pointer (some ⟨g, 0, none⟩) else undef; rw [hc]; rfl) hinv)⟩
  have s6 : ∀ o, ops[6]? = some o → StepI Try.prog ops (p_rck g N le ccap cao ec mm rs rr hp ls0 c2 c4 c6 ms) (fun (_ : Array Bool) (_ : Act) (w : World) => Mod (fun _ => False) w0 w) a0 Q 6 o := by
    refine E6.stepI fun o hd ho hg hw => ?_
    intro y w listed hsz hls hun hwt hdown D' hRR hinv K hK
    have gv : y.tmps.getD 11 undef = .bool (ec == 0) := E4.postI (Post := (p_rck g N le ccap cao ec mm rs rr hp ls0 c2 c4 c6 ms)) (a := y) (w := w) D' (hwt 4 (hw 4 (by simp)))
    have wt : Region.wanted o (yielded ops y.tmps) = (ec == 0) := by
      rw [wanted_b E4 hg (by rw [hsz, ha0]; decide) gv]
      cases (ec == 0) <;> rfl
    cases hc : (ec == 0)
    · exact .inr ⟨wt.trans hc, hK _ _ (fun _ _ _ _ _ _ h => h) (by show undef = if (ec == 0) = true then .agg #[.int .i64 rs, .int .i64 rr] else undef; rw [hc]; rfl) hinv⟩
    · have f12 : y.eval (Operand.tmp 12) = .pointer (some ⟨g, 0, none⟩) := (show y.eval (Operand.tmp 12) = (if (ec == 0) = true then .pointer (some ⟨g, 0, none⟩) else undef) from E5.postI (Post := (p_rck g N le ccap cao ec mm rs rr hp ls0 c2 c4 c6 ms)) (a := y) (w := w) D' (hwt 5 (hw 5 (by simp)))).trans (if_pos hc)
      have h0 := hinv.cell k_g_0 (fun h => h)
      have h1 := hinv.cell k_g_1 (fun h => h)
      exact .inl ⟨wt.trans hc, wp_value (ox_load (v := .agg #[.int .i64 rs, .int .i64 rr]) ho f12 (by simp [go_sem, h0, h1])) (hK _ _ (fun _ _ _ _ _ _ h => h) (by show _ = if (ec == 0) = true then .agg #[.int .i64 rs, .int .i64 rr] else undef; rw [hc]; rfl) hinv)⟩
  have s7 : ∀ o, ops[7]? = some o → StepI Try.prog ops (p_rck g N le ccap cao ec mm rs rr hp ls0 c2 c4 c6 ms) (fun (_ : Array Bool) (_ : Act) (w : World) => Mod (fun _ => False) w0 w) a0 Q 7 o := by
    refine E7.stepI fun o hd ho hg hw => ?_
    intro y w listed hsz hls hun hwt hdown D' hRR hinv K hK
    have gv : y.tmps.getD 11 undef = .bool (ec == 0) := E4.postI (Post := (p_rck g N le ccap cao ec mm rs rr hp ls0 c2 c4 c6 ms)) (a := y) (w := w) D' (hwt 4 (hw 4 (by simp)))
    have wt : Region.wanted o (yielded ops y.tmps) = (ec == 0) := by
      rw [wanted_b E4 hg (by rw [hsz, ha0]; decide) gv]
      cases (ec == 0) <;> rfl
    cases hc : (ec == 0)
    · exact .inr ⟨wt.trans hc, hK _ _ (fun _ _ _ _ _ _ h => h) (by show undef = if (ec == 0) = true then .bool c2 else undef; rw [hc]; rfl) hinv⟩
    · have f13 : y.eval (Operand.tmp 13) = .agg #[.int .i64 rs, .int .i64 rr] := (show y.eval (Operand.tmp 13) = (if (ec == 0) = true then .agg #[.int .i64 rs, .int .i64 rr] else undef) from E6.postI (Post := (p_rck g N le ccap cao ec mm rs rr hp ls0 c2 c4 c6 ms)) (a := y) (w := w) D' (hwt 6 (hw 6 (by simp)))).trans (if_pos hc)
      refine .inl ⟨wt.trans hc, wp_enter (f := 37) (args := #[.agg #[.int .i64 rs, .int .i64 rr]]) ?_ (H7 w  hinv ) ?_⟩
      · have h := exec_call1 y.eval (fun args w => by simp [go_sem]) rfl ho (w := w)
        rw [f13] at h
        exact h
      · rintro e w' ⟨rfl, hm⟩
        exact ⟨_, rfl, hK _ _ (fun j oj d _ _ _ h => hstay _ _ _ _ hm h) (by show _ = if (ec == 0) = true then .bool c2 else undef; rw [hc]; rfl) (hinv.and hm)⟩
  have s8 : ∀ o, ops[8]? = some o → StepI Try.prog ops (p_rck g N le ccap cao ec mm rs rr hp ls0 c2 c4 c6 ms) (fun (_ : Array Bool) (_ : Act) (w : World) => Mod (fun _ => False) w0 w) a0 Q 8 o := by
    refine E8.stepI fun o hd ho hg hw => ?_
    intro y w listed hsz hls hun hwt hdown D' hRR hinv K hK
    have f11 : y.eval (Operand.tmp 11) = .bool (ec == 0) := E4.postI (Post := (p_rck g N le ccap cao ec mm rs rr hp ls0 c2 c4 c6 ms)) (a := y) (w := w) D' (hwt 4 (hw 4 (by simp)))
    have f14 : y.eval (Operand.tmp 14) = if (ec == 0) = true then .bool c2 else undef := E7.postI (Post := (p_rck g N le ccap cao ec mm rs rr hp ls0 c2 c4 c6 ms)) (a := y) (w := w) D' (hwt 7 (hw 7 (by simp)))
    exact .inl ⟨wanted_none hg, wp_value (ox_pick ho f11 (by rw [f14]; cases (ec == 0) <;> rfl)) (hK _ _ (fun _ _ _ _ _ _ h => h) rfl hinv)⟩
  have s9 : ∀ o, ops[9]? = some o → StepI Try.prog ops (p_rck g N le ccap cao ec mm rs rr hp ls0 c2 c4 c6 ms) (fun (_ : Array Bool) (_ : Act) (w : World) => Mod (fun _ => False) w0 w) a0 Q 9 o := by
    refine E9.stepI fun o hd ho hg hw => ?_
    intro y w listed hsz hls hun hwt hdown D' hRR hinv K hK
    have f15 : y.eval (Operand.tmp 15) = .bool ((ec == 0) && c2) := E8.postI (Post := (p_rck g N le ccap cao ec mm rs rr hp ls0 c2 c4 c6 ms)) (a := y) (w := w) D' (hwt 8 (hw 8 (by simp)))
    exact .inl ⟨wanted_none hg, wp_value (ox_move ho f15) (hK _ _ (fun _ _ _ _ _ _ h => h) rfl hinv)⟩
  have s10 : ∀ o, ops[10]? = some o → StepI Try.prog ops (p_rck g N le ccap cao ec mm rs rr hp ls0 c2 c4 c6 ms) (fun (_ : Array Bool) (_ : Act) (w : World) => Mod (fun _ => False) w0 w) a0 Q 10 o := by
    refine E10.stepI fun o hd ho hg hw => ?_
    intro y w listed hsz hls hun hwt hdown D' hRR hinv K hK
    have gv : y.tmps.getD 16 undef = .bool ((ec == 0) && c2) := E9.postI (Post := (p_rck g N le ccap cao ec mm rs rr hp ls0 c2 c4 c6 ms)) (a := y) (w := w) D' (hwt 9 (hw 9 (by simp)))
    have wt : Region.wanted o (yielded ops y.tmps) = ((ec == 0) && c2) := by
      rw [wanted_b E9 hg (by rw [hsz, ha0]; decide) gv]
      cases ((ec == 0) && c2) <;> rfl
    cases hc : ((ec == 0) && c2)
    · exact .inr ⟨wt.trans hc, hK _ _ (fun _ _ _ _ _ _ h => h) (by show undef = if ((ec == 0) && c2) = true then .pointer (some ⟨g, 0, none⟩) else undef; rw [hc]; rfl) hinv⟩
    · have f1 : y.eval (Operand.tmp 1) = .pointer (some ⟨g, 0, none⟩)   := (hRR 1 (not_of (by rw [hds]; decide))).trans b1
      exact .inl ⟨wt.trans hc, wp_value (ox_field (v := .pointer (some ⟨g, 0, none⟩)) ho f1 (by simp [go_sem])) (hK _ _ (fun _ _ _ _ _ _ h => h) (by show _ = if ((ec == 0) && c2) = true then .pointer (some ⟨g, 0, none⟩) else undef; rw [hc]; rfl) hinv)⟩
  have s11 : ∀ o, ops[11]? = some o → StepI Try.prog ops (p_rck g N le ccap cao ec mm rs rr hp ls0 c2 c4 c6 ms) (fun (_ : Array Bool) (_ : Act) (w : World) => Mod (fun _ => False) w0 w) a0 Q 11 o := by
    refine E11.stepI fun o hd ho hg hw => ?_
    intro y w listed hsz hls hun hwt hdown D' hRR hinv K hK
    have gv : y.tmps.getD 16 undef = .bool ((ec == 0) && c2) := E9.postI (Post := (p_rck g N le ccap cao ec mm rs rr hp ls0 c2 c4 c6 ms)) (a := y) (w := w) D' (hwt 9 (hw 9 (by simp)))
    have wt : Region.wanted o (yielded ops y.tmps) = ((ec == 0) && c2) := by
      rw [wanted_b E9 hg (by rw [hsz, ha0]; decide) gv]
      cases ((ec == 0) && c2) <;> rfl
    cases hc : ((ec == 0) && c2)
    · exact .inr ⟨wt.trans hc, hK _ _ (fun _ _ _ _ _ _ h => h) (by show undef = if ((ec == 0) && c2) = true then .pointer (some ⟨g, 1, none⟩) else undef; rw [hc]; rfl) hinv⟩
    · have f17 : y.eval (Operand.tmp 17) = .pointer (some ⟨g, 0, none⟩) := (show y.eval (Operand.tmp 17) = (if ((ec == 0) && c2) = true then .pointer (some ⟨g, 0, none⟩) else undef) from E10.postI (Post := (p_rck g N le ccap cao ec mm rs rr hp ls0 c2 c4 c6 ms)) (a := y) (w := w) D' (hwt 10 (hw 10 (by simp)))).trans (if_pos hc)
      exact .inl ⟨wt.trans hc, wp_value (ox_field (v := .pointer (some ⟨g, 1, none⟩)) ho f17 (by simp [go_sem])) (hK _ _ (fun _ _ _ _ _ _ h => h) (by show _ = if ((ec == 0) && c2) = true then .pointer (some ⟨g, 1, none⟩) else undef; rw [hc]; rfl) hinv)⟩
  have s12 : ∀ o, ops[12]? = some o → StepI Try.prog ops (p_rck g N le ccap cao ec mm rs rr hp ls0 c2 c4 c6 ms) (fun (_ : Array Bool) (_ : Act) (w : World) => Mod (fun _ => False) w0 w) a0 Q 12 o := by
    refine E12.stepI fun o hd ho hg hw => ?_
    intro y w listed hsz hls hun hwt hdown D' hRR hinv K hK
    have gv : y.tmps.getD 16 undef = .bool ((ec == 0) && c2) := E9.postI (Post := (p_rck g N le ccap cao ec mm rs rr hp ls0 c2 c4 c6 ms)) (a := y) (w := w) D' (hwt 9 (hw 9 (by simp)))
    have wt : Region.wanted o (yielded ops y.tmps) = ((ec == 0) && c2) := by
      rw [wanted_b E9 hg (by rw [hsz, ha0]; decide) gv]
      cases ((ec == 0) && c2) <;> rfl
    cases hc : ((ec == 0) && c2)
    · exact .inr ⟨wt.trans hc, hK _ _ (fun _ _ _ _ _ _ h => h) (by show undef = if ((ec == 0) && c2) = true then .int .i64 rr else undef; rw [hc]; rfl) hinv⟩
    · have f18 : y.eval (Operand.tmp 18) = .pointer (some ⟨g, 1, none⟩) := (show y.eval (Operand.tmp 18) = (if ((ec == 0) && c2) = true then .pointer (some ⟨g, 1, none⟩) else undef) from E11.postI (Post := (p_rck g N le ccap cao ec mm rs rr hp ls0 c2 c4 c6 ms)) (a := y) (w := w) D' (hwt 11 (hw 11 (by simp)))).trans (if_pos hc)
      have h0 := hinv.cell k_g_1 (fun h => h)
      exact .inl ⟨wt.trans hc, wp_value (ox_load (v := .int .i64 rr) ho f18 (by simp [go_sem, h0])) (hK _ _ (fun _ _ _ _ _ _ h => h) (by show _ = if ((ec == 0) && c2) = true then .int .i64 rr else undef; rw [hc]; rfl) hinv)⟩
  have s13 : ∀ o, ops[13]? = some o → StepI Try.prog ops (p_rck g N le ccap cao ec mm rs rr hp ls0 c2 c4 c6 ms) (fun (_ : Array Bool) (_ : Act) (w : World) => Mod (fun _ => False) w0 w) a0 Q 13 o := by
    refine E13.stepI fun o hd ho hg hw => ?_
    intro y w listed hsz hls hun hwt hdown D' hRR hinv K hK
    have gv : y.tmps.getD 16 undef = .bool ((ec == 0) && c2) := E9.postI (Post := (p_rck g N le ccap cao ec mm rs rr hp ls0 c2 c4 c6 ms)) (a := y) (w := w) D' (hwt 9 (hw 9 (by simp)))
    have wt : Region.wanted o (yielded ops y.tmps) = ((ec == 0) && c2) := by
      rw [wanted_b E9 hg (by rw [hsz, ha0]; decide) gv]
      cases ((ec == 0) && c2) <;> rfl
    cases hc : ((ec == 0) && c2)
    · exact .inr ⟨wt.trans hc, hK _ _ (fun _ _ _ _ _ _ h => h) (by show undef = if ((ec == 0) && c2) = true then .pointer (some ⟨g, 2, none⟩) else undef; rw [hc]; rfl) hinv⟩
    · have f1 : y.eval (Operand.tmp 1) = .pointer (some ⟨g, 0, none⟩)   := (hRR 1 (not_of (by rw [hds]; decide))).trans b1
      exact .inl ⟨wt.trans hc, wp_value (ox_field (v := .pointer (some ⟨g, 2, none⟩)) ho f1 (by simp [go_sem])) (hK _ _ (fun _ _ _ _ _ _ h => h) (by show _ = if ((ec == 0) && c2) = true then .pointer (some ⟨g, 2, none⟩) else undef; rw [hc]; rfl) hinv)⟩
  have s14 : ∀ o, ops[14]? = some o → StepI Try.prog ops (p_rck g N le ccap cao ec mm rs rr hp ls0 c2 c4 c6 ms) (fun (_ : Array Bool) (_ : Act) (w : World) => Mod (fun _ => False) w0 w) a0 Q 14 o := by
    refine E14.stepI fun o hd ho hg hw => ?_
    intro y w listed hsz hls hun hwt hdown D' hRR hinv K hK
    have gv : y.tmps.getD 16 undef = .bool ((ec == 0) && c2) := E9.postI (Post := (p_rck g N le ccap cao ec mm rs rr hp ls0 c2 c4 c6 ms)) (a := y) (w := w) D' (hwt 9 (hw 9 (by simp)))
    have wt : Region.wanted o (yielded ops y.tmps) = ((ec == 0) && c2) := by
      rw [wanted_b E9 hg (by rw [hsz, ha0]; decide) gv]
      cases ((ec == 0) && c2) <;> rfl
    cases hc : ((ec == 0) && c2)
    · exact .inr ⟨wt.trans hc, hK _ _ (fun _ _ _ _ _ _ h => h) (by show undef = if ((ec == 0) && c2) = true then .int .i64 mm else undef; rw [hc]; rfl) hinv⟩
    · have f20 : y.eval (Operand.tmp 20) = .pointer (some ⟨g, 2, none⟩) := (show y.eval (Operand.tmp 20) = (if ((ec == 0) && c2) = true then .pointer (some ⟨g, 2, none⟩) else undef) from E13.postI (Post := (p_rck g N le ccap cao ec mm rs rr hp ls0 c2 c4 c6 ms)) (a := y) (w := w) D' (hwt 13 (hw 13 (by simp)))).trans (if_pos hc)
      have h0 := hinv.cell k_g_2 (fun h => h)
      exact .inl ⟨wt.trans hc, wp_value (ox_load (v := .int .i64 mm) ho f20 (by simp [go_sem, h0])) (hK _ _ (fun _ _ _ _ _ _ h => h) (by show _ = if ((ec == 0) && c2) = true then .int .i64 mm else undef; rw [hc]; rfl) hinv)⟩
  have s15 : ∀ o, ops[15]? = some o → StepI Try.prog ops (p_rck g N le ccap cao ec mm rs rr hp ls0 c2 c4 c6 ms) (fun (_ : Array Bool) (_ : Act) (w : World) => Mod (fun _ => False) w0 w) a0 Q 15 o := by
    refine E15.stepI fun o hd ho hg hw => ?_
    intro y w listed hsz hls hun hwt hdown D' hRR hinv K hK
    have gv : y.tmps.getD 16 undef = .bool ((ec == 0) && c2) := E9.postI (Post := (p_rck g N le ccap cao ec mm rs rr hp ls0 c2 c4 c6 ms)) (a := y) (w := w) D' (hwt 9 (hw 9 (by simp)))
    have wt : Region.wanted o (yielded ops y.tmps) = ((ec == 0) && c2) := by
      rw [wanted_b E9 hg (by rw [hsz, ha0]; decide) gv]
      cases ((ec == 0) && c2) <;> rfl
    cases hc : ((ec == 0) && c2)
    · exact .inr ⟨wt.trans hc, hK _ _ (fun _ _ _ _ _ _ h => h) (by show undef = if ((ec == 0) && c2) = true then .int .i64 ls0 else undef; rw [hc]; rfl) hinv⟩
    · have f21 : y.eval (Operand.tmp 21) = .int .i64 mm := (show y.eval (Operand.tmp 21) = (if ((ec == 0) && c2) = true then .int .i64 mm else undef) from E14.postI (Post := (p_rck g N le ccap cao ec mm rs rr hp ls0 c2 c4 c6 ms)) (a := y) (w := w) D' (hwt 14 (hw 14 (by simp)))).trans (if_pos hc)
      refine .inl ⟨wt.trans hc, wp_enter (f := 38) (args := #[.int .i64 mm]) ?_ (H15 w  hinv ) ?_⟩
      · have h := exec_call1 y.eval (fun args w => by simp [go_sem]) rfl ho (w := w)
        rw [f21] at h
        exact h
      · rintro e w' ⟨rfl, hm⟩
        exact ⟨_, rfl, hK _ _ (fun j oj d _ _ _ h => hstay _ _ _ _ hm h) (by show _ = if ((ec == 0) && c2) = true then .int .i64 ls0 else undef; rw [hc]; rfl) (hinv.and hm)⟩
  have s16 : ∀ o, ops[16]? = some o → StepI Try.prog ops (p_rck g N le ccap cao ec mm rs rr hp ls0 c2 c4 c6 ms) (fun (_ : Array Bool) (_ : Act) (w : World) => Mod (fun _ => False) w0 w) a0 Q 16 o := by
    refine E16.stepI fun o hd ho hg hw => ?_
    intro y w listed hsz hls hun hwt hdown D' hRR hinv K hK
    have gv : y.tmps.getD 16 undef = .bool ((ec == 0) && c2) := E9.postI (Post := (p_rck g N le ccap cao ec mm rs rr hp ls0 c2 c4 c6 ms)) (a := y) (w := w) D' (hwt 9 (hw 9 (by simp)))
    have wt : Region.wanted o (yielded ops y.tmps) = ((ec == 0) && c2) := by
      rw [wanted_b E9 hg (by rw [hsz, ha0]; decide) gv]
      cases ((ec == 0) && c2) <;> rfl
    cases hc : ((ec == 0) && c2)
    · exact .inr ⟨wt.trans hc, hK _ _ (fun _ _ _ _ _ _ h => h) (by show undef = if ((ec == 0) && c2) = true then .bool (rr == ls0) else undef; rw [hc]; rfl) hinv⟩
    · have f19 : y.eval (Operand.tmp 19) = .int .i64 rr := (show y.eval (Operand.tmp 19) = (if ((ec == 0) && c2) = true then .int .i64 rr else undef) from E12.postI (Post := (p_rck g N le ccap cao ec mm rs rr hp ls0 c2 c4 c6 ms)) (a := y) (w := w) D' (hwt 12 (hw 12 (by simp)))).trans (if_pos hc)
      have f22 : y.eval (Operand.tmp 22) = .int .i64 ls0 := (show y.eval (Operand.tmp 22) = (if ((ec == 0) && c2) = true then .int .i64 ls0 else undef) from E15.postI (Post := (p_rck g N le ccap cao ec mm rs rr hp ls0 c2 c4 c6 ms)) (a := y) (w := w) D' (hwt 15 (hw 15 (by simp)))).trans (if_pos hc)
      exact .inl ⟨wt.trans hc, wp_value (rx_eql ho f19 f22) (hK _ _ (fun _ _ _ _ _ _ h => h) (by show _ = if ((ec == 0) && c2) = true then .bool (rr == ls0) else undef; rw [hc]; rfl) hinv)⟩
  have s17 : ∀ o, ops[17]? = some o → StepI Try.prog ops (p_rck g N le ccap cao ec mm rs rr hp ls0 c2 c4 c6 ms) (fun (_ : Array Bool) (_ : Act) (w : World) => Mod (fun _ => False) w0 w) a0 Q 17 o := by
    refine E17.stepI fun o hd ho hg hw => ?_
    intro y w listed hsz hls hun hwt hdown D' hRR hinv K hK
    have f16 : y.eval (Operand.tmp 16) = .bool ((ec == 0) && c2) := E9.postI (Post := (p_rck g N le ccap cao ec mm rs rr hp ls0 c2 c4 c6 ms)) (a := y) (w := w) D' (hwt 9 (hw 9 (by simp)))
    have f23 : y.eval (Operand.tmp 23) = if ((ec == 0) && c2) = true then .bool (rr == ls0) else undef := E16.postI (Post := (p_rck g N le ccap cao ec mm rs rr hp ls0 c2 c4 c6 ms)) (a := y) (w := w) D' (hwt 16 (hw 16 (by simp)))
    exact .inl ⟨wanted_none hg, wp_value (ox_pick ho f16 (by rw [f23]; cases ((ec == 0) && c2) <;> rfl)) (hK _ _ (fun _ _ _ _ _ _ h => h) rfl hinv)⟩
  have s18 : ∀ o, ops[18]? = some o → StepI Try.prog ops (p_rck g N le ccap cao ec mm rs rr hp ls0 c2 c4 c6 ms) (fun (_ : Array Bool) (_ : Act) (w : World) => Mod (fun _ => False) w0 w) a0 Q 18 o := by
    refine E18.stepI fun o hd ho hg hw => ?_
    intro y w listed hsz hls hun hwt hdown D' hRR hinv K hK
    have f24 : y.eval (Operand.tmp 24) = .bool (((ec == 0) && c2) && (rr == ls0)) := E17.postI (Post := (p_rck g N le ccap cao ec mm rs rr hp ls0 c2 c4 c6 ms)) (a := y) (w := w) D' (hwt 17 (hw 17 (by simp)))
    exact .inl ⟨wanted_none hg, wp_value (ox_move ho f24) (hK _ _ (fun _ _ _ _ _ _ h => h) rfl hinv)⟩
  have s19 : ∀ o, ops[19]? = some o → StepI Try.prog ops (p_rck g N le ccap cao ec mm rs rr hp ls0 c2 c4 c6 ms) (fun (_ : Array Bool) (_ : Act) (w : World) => Mod (fun _ => False) w0 w) a0 Q 19 o := by
    refine E19.stepI fun o hd ho hg hw => ?_
    intro y w listed hsz hls hun hwt hdown D' hRR hinv K hK
    have gv : y.tmps.getD 25 undef = .bool (((ec == 0) && c2) && (rr == ls0)) := E18.postI (Post := (p_rck g N le ccap cao ec mm rs rr hp ls0 c2 c4 c6 ms)) (a := y) (w := w) D' (hwt 18 (hw 18 (by simp)))
    have wt : Region.wanted o (yielded ops y.tmps) = (((ec == 0) && c2) && (rr == ls0)) := by
      rw [wanted_b E18 hg (by rw [hsz, ha0]; decide) gv]
      cases (((ec == 0) && c2) && (rr == ls0)) <;> rfl
    cases hc : (((ec == 0) && c2) && (rr == ls0))
    · exact .inr ⟨wt.trans hc, hK _ _ (fun _ _ _ _ _ _ h => h) (by show undef = if (((ec == 0) && c2) && (rr == ls0)) = true then .pointer (some ⟨g, 3, none⟩) else undef; rw [hc]; rfl) hinv⟩
    · have f1 : y.eval (Operand.tmp 1) = .pointer (some ⟨g, 0, none⟩)   := (hRR 1 (not_of (by rw [hds]; decide))).trans b1
      exact .inl ⟨wt.trans hc, wp_value (ox_field (v := .pointer (some ⟨g, 3, none⟩)) ho f1 (by simp [go_sem])) (hK _ _ (fun _ _ _ _ _ _ h => h) (by show _ = if (((ec == 0) && c2) && (rr == ls0)) = true then .pointer (some ⟨g, 3, none⟩) else undef; rw [hc]; rfl) hinv)⟩
  have s20 : ∀ o, ops[20]? = some o → StepI Try.prog ops (p_rck g N le ccap cao ec mm rs rr hp ls0 c2 c4 c6 ms) (fun (_ : Array Bool) (_ : Act) (w : World) => Mod (fun _ => False) w0 w) a0 Q 20 o := by
    refine E20.stepI fun o hd ho hg hw => ?_
    intro y w listed hsz hls hun hwt hdown D' hRR hinv K hK
    have gv : y.tmps.getD 25 undef = .bool (((ec == 0) && c2) && (rr == ls0)) := E18.postI (Post := (p_rck g N le ccap cao ec mm rs rr hp ls0 c2 c4 c6 ms)) (a := y) (w := w) D' (hwt 18 (hw 18 (by simp)))
    have wt : Region.wanted o (yielded ops y.tmps) = (((ec == 0) && c2) && (rr == ls0)) := by
      rw [wanted_b E18 hg (by rw [hsz, ha0]; decide) gv]
      cases (((ec == 0) && c2) && (rr == ls0)) <;> rfl
    cases hc : (((ec == 0) && c2) && (rr == ls0))
    · exact .inr ⟨wt.trans hc, hK _ _ (fun _ _ _ _ _ _ h => h) (by show undef = if (((ec == 0) && c2) && (rr == ls0)) = true then .int .i64 hp else undef; rw [hc]; rfl) hinv⟩
    · have f26 : y.eval (Operand.tmp 26) = .pointer (some ⟨g, 3, none⟩) := (show y.eval (Operand.tmp 26) = (if (((ec == 0) && c2) && (rr == ls0)) = true then .pointer (some ⟨g, 3, none⟩) else undef) from E19.postI (Post := (p_rck g N le ccap cao ec mm rs rr hp ls0 c2 c4 c6 ms)) (a := y) (w := w) D' (hwt 19 (hw 19 (by simp)))).trans (if_pos hc)
      have h0 := hinv.cell k_g_3 (fun h => h)
      exact .inl ⟨wt.trans hc, wp_value (ox_load (v := .int .i64 hp) ho f26 (by simp [go_sem, h0])) (hK _ _ (fun _ _ _ _ _ _ h => h) (by show _ = if (((ec == 0) && c2) && (rr == ls0)) = true then .int .i64 hp else undef; rw [hc]; rfl) hinv)⟩
  have s21 : ∀ o, ops[21]? = some o → StepI Try.prog ops (p_rck g N le ccap cao ec mm rs rr hp ls0 c2 c4 c6 ms) (fun (_ : Array Bool) (_ : Act) (w : World) => Mod (fun _ => False) w0 w) a0 Q 21 o := by
    refine E21.stepI fun o hd ho hg hw => ?_
    intro y w listed hsz hls hun hwt hdown D' hRR hinv K hK
    have gv : y.tmps.getD 25 undef = .bool (((ec == 0) && c2) && (rr == ls0)) := E18.postI (Post := (p_rck g N le ccap cao ec mm rs rr hp ls0 c2 c4 c6 ms)) (a := y) (w := w) D' (hwt 18 (hw 18 (by simp)))
    have wt : Region.wanted o (yielded ops y.tmps) = (((ec == 0) && c2) && (rr == ls0)) := by
      rw [wanted_b E18 hg (by rw [hsz, ha0]; decide) gv]
      cases (((ec == 0) && c2) && (rr == ls0)) <;> rfl
    cases hc : (((ec == 0) && c2) && (rr == ls0))
    · exact .inr ⟨wt.trans hc, hK _ _ (fun _ _ _ _ _ _ h => h) (by show undef = if (((ec == 0) && c2) && (rr == ls0)) = true then .int .i64 (N : Int) else undef; rw [hc]; rfl) hinv⟩
    · have f3 : y.eval (Operand.tmp 3) = .int .i64 (N : Int)   := (hRR 3 (not_of (by rw [hds]; decide))).trans b3
      exact .inl ⟨wt.trans hc, wp_value (ox_move ho f3) (hK _ _ (fun _ _ _ _ _ _ h => h) (by show _ = if (((ec == 0) && c2) && (rr == ls0)) = true then .int .i64 (N : Int) else undef; rw [hc]; rfl) hinv)⟩
  have s22 : ∀ o, ops[22]? = some o → StepI Try.prog ops (p_rck g N le ccap cao ec mm rs rr hp ls0 c2 c4 c6 ms) (fun (_ : Array Bool) (_ : Act) (w : World) => Mod (fun _ => False) w0 w) a0 Q 22 o := by
    refine E22.stepI fun o hd ho hg hw => ?_
    intro y w listed hsz hls hun hwt hdown D' hRR hinv K hK
    have gv : y.tmps.getD 25 undef = .bool (((ec == 0) && c2) && (rr == ls0)) := E18.postI (Post := (p_rck g N le ccap cao ec mm rs rr hp ls0 c2 c4 c6 ms)) (a := y) (w := w) D' (hwt 18 (hw 18 (by simp)))
    have wt : Region.wanted o (yielded ops y.tmps) = (((ec == 0) && c2) && (rr == ls0)) := by
      rw [wanted_b E18 hg (by rw [hsz, ha0]; decide) gv]
      cases (((ec == 0) && c2) && (rr == ls0)) <;> rfl
    cases hc : (((ec == 0) && c2) && (rr == ls0))
    · exact .inr ⟨wt.trans hc, hK _ _ (fun _ _ _ _ _ _ h => h) (by show undef = if (((ec == 0) && c2) && (rr == ls0)) = true then .int .i64 (IntKind.i64.wrap ((2 : Int) * (N : Int))) else undef; rw [hc]; rfl) hinv⟩
    · have f28 : y.eval (Operand.tmp 28) = .int .i64 (N : Int) := (show y.eval (Operand.tmp 28) = (if (((ec == 0) && c2) && (rr == ls0)) = true then .int .i64 (N : Int) else undef) from E21.postI (Post := (p_rck g N le ccap cao ec mm rs rr hp ls0 c2 c4 c6 ms)) (a := y) (w := w) D' (hwt 21 (hw 21 (by simp)))).trans (if_pos hc)
      exact .inl ⟨wt.trans hc, wp_value (rx_mul ho rfl f28) (hK _ _ (fun _ _ _ _ _ _ h => h) (by show _ = if (((ec == 0) && c2) && (rr == ls0)) = true then .int .i64 (IntKind.i64.wrap ((2 : Int) * (N : Int))) else undef; rw [hc]; rfl) hinv)⟩
  have s23 : ∀ o, ops[23]? = some o → StepI Try.prog ops (p_rck g N le ccap cao ec mm rs rr hp ls0 c2 c4 c6 ms) (fun (_ : Array Bool) (_ : Act) (w : World) => Mod (fun _ => False) w0 w) a0 Q 23 o := by
    refine E23.stepI fun o hd ho hg hw => ?_
    intro y w listed hsz hls hun hwt hdown D' hRR hinv K hK
    have gv : y.tmps.getD 25 undef = .bool (((ec == 0) && c2) && (rr == ls0)) := E18.postI (Post := (p_rck g N le ccap cao ec mm rs rr hp ls0 c2 c4 c6 ms)) (a := y) (w := w) D' (hwt 18 (hw 18 (by simp)))
    have wt : Region.wanted o (yielded ops y.tmps) = (((ec == 0) && c2) && (rr == ls0)) := by
      rw [wanted_b E18 hg (by rw [hsz, ha0]; decide) gv]
      cases (((ec == 0) && c2) && (rr == ls0)) <;> rfl
    cases hc : (((ec == 0) && c2) && (rr == ls0))
    · exact .inr ⟨wt.trans hc, hK _ _ (fun _ _ _ _ _ _ h => h) (by show undef = if (((ec == 0) && c2) && (rr == ls0)) = true then .bool c4 else undef; rw [hc]; rfl) hinv⟩
    · have f27 : y.eval (Operand.tmp 27) = .int .i64 hp := (show y.eval (Operand.tmp 27) = (if (((ec == 0) && c2) && (rr == ls0)) = true then .int .i64 hp else undef) from E20.postI (Post := (p_rck g N le ccap cao ec mm rs rr hp ls0 c2 c4 c6 ms)) (a := y) (w := w) D' (hwt 20 (hw 20 (by simp)))).trans (if_pos hc)
      have f29 : y.eval (Operand.tmp 29) = .int .i64 (IntKind.i64.wrap ((2 : Int) * (N : Int))) := (show y.eval (Operand.tmp 29) = (if (((ec == 0) && c2) && (rr == ls0)) = true then .int .i64 (IntKind.i64.wrap ((2 : Int) * (N : Int))) else undef) from E22.postI (Post := (p_rck g N le ccap cao ec mm rs rr hp ls0 c2 c4 c6 ms)) (a := y) (w := w) D' (hwt 22 (hw 22 (by simp)))).trans (if_pos hc)
      refine .inl ⟨wt.trans hc, wp_enter (f := 39) (args := #[.int .i64 hp, .int .i64 1, .int .i64 (IntKind.i64.wrap ((2 : Int) * (N : Int)))]) ?_ (H23 w  hinv ) ?_⟩
      · have h := rx_call3 (ρ := y.eval) (fun args w => by simp [go_sem]) rfl ho (w := w)
        rw [f27, f29] at h
        exact h
      · rintro e w' ⟨rfl, hm⟩
        exact ⟨_, rfl, hK _ _ (fun j oj d _ _ _ h => hstay _ _ _ _ hm h) (by show _ = if (((ec == 0) && c2) && (rr == ls0)) = true then .bool c4 else undef; rw [hc]; rfl) (hinv.and hm)⟩
  have s24 : ∀ o, ops[24]? = some o → StepI Try.prog ops (p_rck g N le ccap cao ec mm rs rr hp ls0 c2 c4 c6 ms) (fun (_ : Array Bool) (_ : Act) (w : World) => Mod (fun _ => False) w0 w) a0 Q 24 o := by
    refine E24.stepI fun o hd ho hg hw => ?_
    intro y w listed hsz hls hun hwt hdown D' hRR hinv K hK
    have f25 : y.eval (Operand.tmp 25) = .bool (((ec == 0) && c2) && (rr == ls0)) := E18.postI (Post := (p_rck g N le ccap cao ec mm rs rr hp ls0 c2 c4 c6 ms)) (a := y) (w := w) D' (hwt 18 (hw 18 (by simp)))
    have f30 : y.eval (Operand.tmp 30) = if (((ec == 0) && c2) && (rr == ls0)) = true then .bool c4 else undef := E23.postI (Post := (p_rck g N le ccap cao ec mm rs rr hp ls0 c2 c4 c6 ms)) (a := y) (w := w) D' (hwt 23 (hw 23 (by simp)))
    exact .inl ⟨wanted_none hg, wp_value (ox_pick ho f25 (by rw [f30]; cases (((ec == 0) && c2) && (rr == ls0)) <;> rfl)) (hK _ _ (fun _ _ _ _ _ _ h => h) rfl hinv)⟩
  have s25 : ∀ o, ops[25]? = some o → StepI Try.prog ops (p_rck g N le ccap cao ec mm rs rr hp ls0 c2 c4 c6 ms) (fun (_ : Array Bool) (_ : Act) (w : World) => Mod (fun _ => False) w0 w) a0 Q 25 o := by
    refine E25.stepI fun o hd ho hg hw => ?_
    intro y w listed hsz hls hun hwt hdown D' hRR hinv K hK
    have f31 : y.eval (Operand.tmp 31) = .bool ((((ec == 0) && c2) && (rr == ls0)) && c4) := E24.postI (Post := (p_rck g N le ccap cao ec mm rs rr hp ls0 c2 c4 c6 ms)) (a := y) (w := w) D' (hwt 24 (hw 24 (by simp)))
    exact .inl ⟨wanted_none hg, wp_value (ox_move ho f31) (hK _ _ (fun _ _ _ _ _ _ h => h) rfl hinv)⟩
  have s26 : ∀ o, ops[26]? = some o → StepI Try.prog ops (p_rck g N le ccap cao ec mm rs rr hp ls0 c2 c4 c6 ms) (fun (_ : Array Bool) (_ : Act) (w : World) => Mod (fun _ => False) w0 w) a0 Q 26 o := by
    refine E26.stepI fun o hd ho hg hw => ?_
    intro y w listed hsz hls hun hwt hdown D' hRR hinv K hK
    have gv : y.tmps.getD 32 undef = .bool ((((ec == 0) && c2) && (rr == ls0)) && c4) := E25.postI (Post := (p_rck g N le ccap cao ec mm rs rr hp ls0 c2 c4 c6 ms)) (a := y) (w := w) D' (hwt 25 (hw 25 (by simp)))
    have wt : Region.wanted o (yielded ops y.tmps) = ((((ec == 0) && c2) && (rr == ls0)) && c4) := by
      rw [wanted_b E25 hg (by rw [hsz, ha0]; decide) gv]
      cases ((((ec == 0) && c2) && (rr == ls0)) && c4) <;> rfl
    cases hc : ((((ec == 0) && c2) && (rr == ls0)) && c4)
    · exact .inr ⟨wt.trans hc, hK _ _ (fun _ _ _ _ _ _ h => h) (by show undef = if ((((ec == 0) && c2) && (rr == ls0)) && c4) = true then .pointer (some ⟨g, 4, none⟩) else undef; rw [hc]; rfl) hinv⟩
    · have f1 : y.eval (Operand.tmp 1) = .pointer (some ⟨g, 0, none⟩)   := (hRR 1 (not_of (by rw [hds]; decide))).trans b1
      exact .inl ⟨wt.trans hc, wp_value (ox_field (v := .pointer (some ⟨g, 4, none⟩)) ho f1 (by simp [go_sem])) (hK _ _ (fun _ _ _ _ _ _ h => h) (by show _ = if ((((ec == 0) && c2) && (rr == ls0)) && c4) = true then .pointer (some ⟨g, 4, none⟩) else undef; rw [hc]; rfl) hinv)⟩
  have s27 : ∀ o, ops[27]? = some o → StepI Try.prog ops (p_rck g N le ccap cao ec mm rs rr hp ls0 c2 c4 c6 ms) (fun (_ : Array Bool) (_ : Act) (w : World) => Mod (fun _ => False) w0 w) a0 Q 27 o := by
    refine E27.stepI fun o hd ho hg hw => ?_
    intro y w listed hsz hls hun hwt hdown D' hRR hinv K hK
    have gv : y.tmps.getD 32 undef = .bool ((((ec == 0) && c2) && (rr == ls0)) && c4) := E25.postI (Post := (p_rck g N le ccap cao ec mm rs rr hp ls0 c2 c4 c6 ms)) (a := y) (w := w) D' (hwt 25 (hw 25 (by simp)))
    have wt : Region.wanted o (yielded ops y.tmps) = ((((ec == 0) && c2) && (rr == ls0)) && c4) := by
      rw [wanted_b E25 hg (by rw [hsz, ha0]; decide) gv]
      cases ((((ec == 0) && c2) && (rr == ls0)) && c4) <;> rfl
    cases hc : ((((ec == 0) && c2) && (rr == ls0)) && c4)
    · exact .inr ⟨wt.trans hc, hK _ _ (fun _ _ _ _ _ _ h => h) (by show undef = if ((((ec == 0) && c2) && (rr == ls0)) && c4) = true then .slice cao le ccap else undef; rw [hc]; rfl) hinv⟩
    · have f33 : y.eval (Operand.tmp 33) = .pointer (some ⟨g, 4, none⟩) := (show y.eval (Operand.tmp 33) = (if ((((ec == 0) && c2) && (rr == ls0)) && c4) = true then .pointer (some ⟨g, 4, none⟩) else undef) from E26.postI (Post := (p_rck g N le ccap cao ec mm rs rr hp ls0 c2 c4 c6 ms)) (a := y) (w := w) D' (hwt 26 (hw 26 (by simp)))).trans (if_pos hc)
      have h0 := hinv.cell k_g_4 (fun h => h)
      exact .inl ⟨wt.trans hc, wp_value (ox_load (v := .slice cao le ccap) ho f33 (by simp [go_sem, h0])) (hK _ _ (fun _ _ _ _ _ _ h => h) (by show _ = if ((((ec == 0) && c2) && (rr == ls0)) && c4) = true then .slice cao le ccap else undef; rw [hc]; rfl) hinv)⟩
  have s28 : ∀ o, ops[28]? = some o → StepI Try.prog ops (p_rck g N le ccap cao ec mm rs rr hp ls0 c2 c4 c6 ms) (fun (_ : Array Bool) (_ : Act) (w : World) => Mod (fun _ => False) w0 w) a0 Q 28 o := by
    refine E28.stepI fun o hd ho hg hw => ?_
    intro y w listed hsz hls hun hwt hdown D' hRR hinv K hK
    have gv : y.tmps.getD 32 undef = .bool ((((ec == 0) && c2) && (rr == ls0)) && c4) := E25.postI (Post := (p_rck g N le ccap cao ec mm rs rr hp ls0 c2 c4 c6 ms)) (a := y) (w := w) D' (hwt 25 (hw 25 (by simp)))
    have wt : Region.wanted o (yielded ops y.tmps) = ((((ec == 0) && c2) && (rr == ls0)) && c4) := by
      rw [wanted_b E25 hg (by rw [hsz, ha0]; decide) gv]
      cases ((((ec == 0) && c2) && (rr == ls0)) && c4) <;> rfl
    cases hc : ((((ec == 0) && c2) && (rr == ls0)) && c4)
    · exact .inr ⟨wt.trans hc, hK _ _ (fun _ _ _ _ _ _ h => h) (by show undef = if ((((ec == 0) && c2) && (rr == ls0)) && c4) = true then .int .i64 (le : Int) else undef; rw [hc]; rfl) hinv⟩
    · have f34 : y.eval (Operand.tmp 34) = .slice cao le ccap := (show y.eval (Operand.tmp 34) = (if ((((ec == 0) && c2) && (rr == ls0)) && c4) = true then .slice cao le ccap else undef) from E27.postI (Post := (p_rck g N le ccap cao ec mm rs rr hp ls0 c2 c4 c6 ms)) (a := y) (w := w) D' (hwt 27 (hw 27 (by simp)))).trans (if_pos hc)
      exact .inl ⟨wt.trans hc, wp_value (rck_len24 ho f34) (hK _ _ (fun _ _ _ _ _ _ h => h) (by show _ = if ((((ec == 0) && c2) && (rr == ls0)) && c4) = true then .int .i64 (le : Int) else undef; rw [hc]; rfl) hinv)⟩
  have s29 : ∀ o, ops[29]? = some o → StepI Try.prog ops (p_rck g N le ccap cao ec mm rs rr hp ls0 c2 c4 c6 ms) (fun (_ : Array Bool) (_ : Act) (w : World) => Mod (fun _ => False) w0 w) a0 Q 29 o := by
    refine E29.stepI fun o hd ho hg hw => ?_
    intro y w listed hsz hls hun hwt hdown D' hRR hinv K hK
    have gv : y.tmps.getD 32 undef = .bool ((((ec == 0) && c2) && (rr == ls0)) && c4) := E25.postI (Post := (p_rck g N le ccap cao ec mm rs rr hp ls0 c2 c4 c6 ms)) (a := y) (w := w) D' (hwt 25 (hw 25 (by simp)))
    have wt : Region.wanted o (yielded ops y.tmps) = ((((ec == 0) && c2) && (rr == ls0)) && c4) := by
      rw [wanted_b E25 hg (by rw [hsz, ha0]; decide) gv]
      cases ((((ec == 0) && c2) && (rr == ls0)) && c4) <;> rfl
    cases hc : ((((ec == 0) && c2) && (rr == ls0)) && c4)
    · exact .inr ⟨wt.trans hc, hK _ _ (fun _ _ _ _ _ _ h => h) (by show undef = if ((((ec == 0) && c2) && (rr == ls0)) && c4) = true then .pointer (some ⟨g, 3, none⟩) else undef; rw [hc]; rfl) hinv⟩
    · have f1 : y.eval (Operand.tmp 1) = .pointer (some ⟨g, 0, none⟩)   := (hRR 1 (not_of (by rw [hds]; decide))).trans b1
      exact .inl ⟨wt.trans hc, wp_value (ox_field (v := .pointer (some ⟨g, 3, none⟩)) ho f1 (by simp [go_sem])) (hK _ _ (fun _ _ _ _ _ _ h => h) (by show _ = if ((((ec == 0) && c2) && (rr == ls0)) && c4) = true then .pointer (some ⟨g, 3, none⟩) else undef; rw [hc]; rfl) hinv)⟩
  have s30 : ∀ o, ops[30]? = some o → StepI Try.prog ops (p_rck g N le ccap cao ec mm rs rr hp ls0 c2 c4 c6 ms) (fun (_ : Array Bool) (_ : Act) (w : World) => Mod (fun _ => False) w0 w) a0 Q 30 o := by
    refine E30.stepI fun o hd ho hg hw => ?_
    intro y w listed hsz hls hun hwt hdown D' hRR hinv K hK
    have gv : y.tmps.getD 32 undef = .bool ((((ec == 0) && c2) && (rr == ls0)) && c4) := E25.postI (Post := (p_rck g N le ccap cao ec mm rs rr hp ls0 c2 c4 c6 ms)) (a := y) (w := w) D' (hwt 25 (hw 25 (by simp)))
    have wt : Region.wanted o (yielded ops y.tmps) = ((((ec == 0) && c2) && (rr == ls0)) && c4) := by
      rw [wanted_b E25 hg (by rw [hsz, ha0]; decide) gv]
      cases ((((ec == 0) && c2) && (rr == ls0)) && c4) <;> rfl
    cases hc : ((((ec == 0) && c2) && (rr == ls0)) && c4)
    · exact .inr ⟨wt.trans hc, hK _ _ (fun _ _ _ _ _ _ h => h) (by show undef = if ((((ec == 0) && c2) && (rr == ls0)) && c4) = true then .int .i64 hp else undef; rw [hc]; rfl) hinv⟩
    · have f36 : y.eval (Operand.tmp 36) = .pointer (some ⟨g, 3, none⟩) := (show y.eval (Operand.tmp 36) = (if ((((ec == 0) && c2) && (rr == ls0)) && c4) = true then .pointer (some ⟨g, 3, none⟩) else undef) from E29.postI (Post := (p_rck g N le ccap cao ec mm rs rr hp ls0 c2 c4 c6 ms)) (a := y) (w := w) D' (hwt 29 (hw 29 (by simp)))).trans (if_pos hc)
      have h0 := hinv.cell k_g_3 (fun h => h)
      exact .inl ⟨wt.trans hc, wp_value (ox_load (v := .int .i64 hp) ho f36 (by simp [go_sem, h0])) (hK _ _ (fun _ _ _ _ _ _ h => h) (by show _ = if ((((ec == 0) && c2) && (rr == ls0)) && c4) = true then .int .i64 hp else undef; rw [hc]; rfl) hinv)⟩
  have s31 : ∀ o, ops[31]? = some o → StepI Try.prog ops (p_rck g N le ccap cao ec mm rs rr hp ls0 c2 c4 c6 ms) (fun (_ : Array Bool) (_ : Act) (w : World) => Mod (fun _ => False) w0 w) a0 Q 31 o := by
    refine E31.stepI fun o hd ho hg hw => ?_
    intro y w listed hsz hls hun hwt hdown D' hRR hinv K hK
    have gv : y.tmps.getD 32 undef = .bool ((((ec == 0) && c2) && (rr == ls0)) && c4) := E25.postI (Post := (p_rck g N le ccap cao ec mm rs rr hp ls0 c2 c4 c6 ms)) (a := y) (w := w) D' (hwt 25 (hw 25 (by simp)))
    have wt : Region.wanted o (yielded ops y.tmps) = ((((ec == 0) && c2) && (rr == ls0)) && c4) := by
      rw [wanted_b E25 hg (by rw [hsz, ha0]; decide) gv]
      cases ((((ec == 0) && c2) && (rr == ls0)) && c4) <;> rfl
    cases hc : ((((ec == 0) && c2) && (rr == ls0)) && c4)
    · exact .inr ⟨wt.trans hc, hK _ _ (fun _ _ _ _ _ _ h => h) (by show undef = if ((((ec == 0) && c2) && (rr == ls0)) && c4) = true then .int .i64 (N : Int) else undef; rw [hc]; rfl) hinv⟩
    · have f3 : y.eval (Operand.tmp 3) = .int .i64 (N : Int)   := (hRR 3 (not_of (by rw [hds]; decide))).trans b3
      exact .inl ⟨wt.trans hc, wp_value (ox_move ho f3) (hK _ _ (fun _ _ _ _ _ _ h => h) (by show _ = if ((((ec == 0) && c2) && (rr == ls0)) && c4) = true then .int .i64 (N : Int) else undef; rw [hc]; rfl) hinv)⟩
  have s32 : ∀ o, ops[32]? = some o → StepI Try.prog ops (p_rck g N le ccap cao ec mm rs rr hp ls0 c2 c4 c6 ms) (fun (_ : Array Bool) (_ : Act) (w : World) => Mod (fun _ => False) w0 w) a0 Q 32 o := by
    refine E32.stepI fun o hd ho hg hw => ?_
    intro y w listed hsz hls hun hwt hdown D' hRR hinv K hK
    have gv : y.tmps.getD 32 undef = .bool ((((ec == 0) && c2) && (rr == ls0)) && c4) := E25.postI (Post := (p_rck g N le ccap cao ec mm rs rr hp ls0 c2 c4 c6 ms)) (a := y) (w := w) D' (hwt 25 (hw 25 (by simp)))
    have wt : Region.wanted o (yielded ops y.tmps) = ((((ec == 0) && c2) && (rr == ls0)) && c4) := by
      rw [wanted_b E25 hg (by rw [hsz, ha0]; decide) gv]
      cases ((((ec == 0) && c2) && (rr == ls0)) && c4) <;> rfl
    cases hc : ((((ec == 0) && c2) && (rr == ls0)) && c4)
    · exact .inr ⟨wt.trans hc, hK _ _ (fun _ _ _ _ _ _ h => h) (by show undef = if ((((ec == 0) && c2) && (rr == ls0)) && c4) = true then .int .i64 (if (N : Int) < hp then (N : Int) else hp) else undef; rw [hc]; rfl) hinv⟩
    · have f37 : y.eval (Operand.tmp 37) = .int .i64 hp := (show y.eval (Operand.tmp 37) = (if ((((ec == 0) && c2) && (rr == ls0)) && c4) = true then .int .i64 hp else undef) from E30.postI (Post := (p_rck g N le ccap cao ec mm rs rr hp ls0 c2 c4 c6 ms)) (a := y) (w := w) D' (hwt 30 (hw 30 (by simp)))).trans (if_pos hc)
      have f38 : y.eval (Operand.tmp 38) = .int .i64 (N : Int) := (show y.eval (Operand.tmp 38) = (if ((((ec == 0) && c2) && (rr == ls0)) && c4) = true then .int .i64 (N : Int) else undef) from E31.postI (Post := (p_rck g N le ccap cao ec mm rs rr hp ls0 c2 c4 c6 ms)) (a := y) (w := w) D' (hwt 31 (hw 31 (by simp)))).trans (if_pos hc)
      exact .inl ⟨wt.trans hc, wp_value (rx_min ho f37 f38) (hK _ _ (fun _ _ _ _ _ _ h => h) (by show _ = if ((((ec == 0) && c2) && (rr == ls0)) && c4) = true then .int .i64 (if (N : Int) < hp then (N : Int) else hp) else undef; rw [hc]; rfl) hinv)⟩
  have s33 : ∀ o, ops[33]? = some o → StepI Try.prog ops (p_rck g N le ccap cao ec mm rs rr hp ls0 c2 c4 c6 ms) (fun (_ : Array Bool) (_ : Act) (w : World) => Mod (fun _ => False) w0 w) a0 Q 33 o := by
    refine E33.stepI fun o hd ho hg hw => ?_
    intro y w listed hsz hls hun hwt hdown D' hRR hinv K hK
    have gv : y.tmps.getD 32 undef = .bool ((((ec == 0) && c2) && (rr == ls0)) && c4) := E25.postI (Post := (p_rck g N le ccap cao ec mm rs rr hp ls0 c2 c4 c6 ms)) (a := y) (w := w) D' (hwt 25 (hw 25 (by simp)))
    have wt : Region.wanted o (yielded ops y.tmps) = ((((ec == 0) && c2) && (rr == ls0)) && c4) := by
      rw [wanted_b E25 hg (by rw [hsz, ha0]; decide) gv]
      cases ((((ec == 0) && c2) && (rr == ls0)) && c4) <;> rfl
    cases hc : ((((ec == 0) && c2) && (rr == ls0)) && c4)
    · exact .inr ⟨wt.trans hc, hK _ _ (fun _ _ _ _ _ _ h => h) (by show undef = if ((((ec == 0) && c2) && (rr == ls0)) && c4) = true then .bool ((le : Int) == (if (N : Int) < hp then (N : Int) else hp)) else undef; rw [hc]; rfl) hinv⟩
    · have f35 : y.eval (Operand.tmp 35) = .int .i64 (le : Int) := (show y.eval (Operand.tmp 35) = (if ((((ec == 0) && c2) && (rr == ls0)) && c4) = true then .int .i64 (le : Int) else undef) from E28.postI (Post := (p_rck g N le ccap cao ec mm rs rr hp ls0 c2 c4 c6 ms)) (a := y) (w := w) D' (hwt 28 (hw 28 (by simp)))).trans (if_pos hc)
      have f39 : y.eval (Operand.tmp 39) = .int .i64 (if (N : Int) < hp then (N : Int) else hp) := (show y.eval (Operand.tmp 39) = (if ((((ec == 0) && c2) && (rr == ls0)) && c4) = true then .int .i64 (if (N : Int) < hp then (N : Int) else hp) else undef) from E32.postI (Post := (p_rck g N le ccap cao ec mm rs rr hp ls0 c2 c4 c6 ms)) (a := y) (w := w) D' (hwt 32 (hw 32 (by simp)))).trans (if_pos hc)
      exact .inl ⟨wt.trans hc, wp_value (rx_eql ho f35 f39) (hK _ _ (fun _ _ _ _ _ _ h => h) (by show _ = if ((((ec == 0) && c2) && (rr == ls0)) && c4) = true then .bool ((le : Int) == (if (N : Int) < hp then (N : Int) else hp)) else undef; rw [hc]; rfl) hinv)⟩
  have s34 : ∀ o, ops[34]? = some o → StepI Try.prog ops (p_rck g N le ccap cao ec mm rs rr hp ls0 c2 c4 c6 ms) (fun (_ : Array Bool) (_ : Act) (w : World) => Mod (fun _ => False) w0 w) a0 Q 34 o := by
    refine E34.stepI fun o hd ho hg hw => ?_
    intro y w listed hsz hls hun hwt hdown D' hRR hinv K hK
    have f32 : y.eval (Operand.tmp 32) = .bool ((((ec == 0) && c2) && (rr == ls0)) && c4) := E25.postI (Post := (p_rck g N le ccap cao ec mm rs rr hp ls0 c2 c4 c6 ms)) (a := y) (w := w) D' (hwt 25 (hw 25 (by simp)))
    have f40 : y.eval (Operand.tmp 40) = if ((((ec == 0) && c2) && (rr == ls0)) && c4) = true then .bool ((le : Int) == (if (N : Int) < hp then (N : Int) else hp)) else undef := E33.postI (Post := (p_rck g N le ccap cao ec mm rs rr hp ls0 c2 c4 c6 ms)) (a := y) (w := w) D' (hwt 33 (hw 33 (by simp)))
    exact .inl ⟨wanted_none hg, wp_value (ox_pick ho f32 (by rw [f40]; cases ((((ec == 0) && c2) && (rr == ls0)) && c4) <;> rfl)) (hK _ _ (fun _ _ _ _ _ _ h => h) rfl hinv)⟩
  have s35 : ∀ o, ops[35]? = some o → StepI Try.prog ops (p_rck g N le ccap cao ec mm rs rr hp ls0 c2 c4 c6 ms) (fun (_ : Array Bool) (_ : Act) (w : World) => Mod (fun _ => False) w0 w) a0 Q 35 o := by
    refine E35.stepI fun o hd ho hg hw => ?_
    intro y w listed hsz hls hun hwt hdown D' hRR hinv K hK
    have f41 : y.eval (Operand.tmp 41) = .bool (((((ec == 0) && c2) && (rr == ls0)) && c4) && ((le : Int) == (if (N : Int) < hp then (N : Int) else hp))) := E34.postI (Post := (p_rck g N le ccap cao ec mm rs rr hp ls0 c2 c4 c6 ms)) (a := y) (w := w) D' (hwt 34 (hw 34 (by simp)))
    exact .inl ⟨wanted_none hg, wp_value (ox_move ho f41) (hK _ _ (fun _ _ _ _ _ _ h => h) rfl hinv)⟩
  have s36 : ∀ o, ops[36]? = some o → StepI Try.prog ops (p_rck g N le ccap cao ec mm rs rr hp ls0 c2 c4 c6 ms) (fun (_ : Array Bool) (_ : Act) (w : World) => Mod (fun _ => False) w0 w) a0 Q 36 o := by
    refine E36.stepI fun o hd ho hg hw => ?_
    intro y w listed hsz hls hun hwt hdown D' hRR hinv K hK
    have gv : y.tmps.getD 42 undef = .bool (((((ec == 0) && c2) && (rr == ls0)) && c4) && ((le : Int) == (if (N : Int) < hp then (N : Int) else hp))) := E35.postI (Post := (p_rck g N le ccap cao ec mm rs rr hp ls0 c2 c4 c6 ms)) (a := y) (w := w) D' (hwt 35 (hw 35 (by simp)))
    have wt : Region.wanted o (yielded ops y.tmps) = (((((ec == 0) && c2) && (rr == ls0)) && c4) && ((le : Int) == (if (N : Int) < hp then (N : Int) else hp))) := by
      rw [wanted_b E35 hg (by rw [hsz, ha0]; decide) gv]
      cases (((((ec == 0) && c2) && (rr == ls0)) && c4) && ((le : Int) == (if (N : Int) < hp then (N : Int) else hp))) <;> rfl
    cases hc : (((((ec == 0) && c2) && (rr == ls0)) && c4) && ((le : Int) == (if (N : Int) < hp then (N : Int) else hp)))
    · exact .inr ⟨wt.trans hc, hK _ _ (fun _ _ _ _ _ _ h => h) (by show undef = if (((((ec == 0) && c2) && (rr == ls0)) && c4) && ((le : Int) == (if (N : Int) < hp then (N : Int) else hp))) = true then .pointer (some ⟨g, 4, none⟩) else undef; rw [hc]; rfl) hinv⟩
    · have f1 : y.eval (Operand.tmp 1) = .pointer (some ⟨g, 0, none⟩)   := (hRR 1 (not_of (by rw [hds]; decide))).trans b1
      exact .inl ⟨wt.trans hc, wp_value (ox_field (v := .pointer (some ⟨g, 4, none⟩)) ho f1 (by simp [go_sem])) (hK _ _ (fun _ _ _ _ _ _ h => h) (by show _ = if (((((ec == 0) && c2) && (rr == ls0)) && c4) && ((le : Int) == (if (N : Int) < hp then (N : Int) else hp))) = true then .pointer (some ⟨g, 4, none⟩) else undef; rw [hc]; rfl) hinv)⟩
  have s37 : ∀ o, ops[37]? = some o → StepI Try.prog ops (p_rck g N le ccap cao ec mm rs rr hp ls0 c2 c4 c6 ms) (fun (_ : Array Bool) (_ : Act) (w : World) => Mod (fun _ => False) w0 w) a0 Q 37 o := by
    refine E37.stepI fun o hd ho hg hw => ?_
    intro y w listed hsz hls hun hwt hdown D' hRR hinv K hK
    have gv : y.tmps.getD 42 undef = .bool (((((ec == 0) && c2) && (rr == ls0)) && c4) && ((le : Int) == (if (N : Int) < hp then (N : Int) else hp))) := E35.postI (Post := (p_rck g N le ccap cao ec mm rs rr hp ls0 c2 c4 c6 ms)) (a := y) (w := w) D' (hwt 35 (hw 35 (by simp)))
    have wt : Region.wanted o (yielded ops y.tmps) = (((((ec == 0) && c2) && (rr == ls0)) && c4) && ((le : Int) == (if (N : Int) < hp then (N : Int) else hp))) := by
      rw [wanted_b E35 hg (by rw [hsz, ha0]; decide) gv]
      cases (((((ec == 0) && c2) && (rr == ls0)) && c4) && ((le : Int) == (if (N : Int) < hp then (N : Int) else hp))) <;> rfl
    cases hc : (((((ec == 0) && c2) && (rr == ls0)) && c4) && ((le : Int) == (if (N : Int) < hp then (N : Int) else hp)))
    · exact .inr ⟨wt.trans hc, hK _ _ (fun _ _ _ _ _ _ h => h) (by show undef = if (((((ec == 0) && c2) && (rr == ls0)) && c4) && ((le : Int) == (if (N : Int) < hp then (N : Int) else hp))) = true then .slice cao le ccap else undef; rw [hc]; rfl) hinv⟩
    · have f43 : y.eval (Operand.tmp 43) = .pointer (some ⟨g, 4, none⟩) := (show y.eval (Operand.tmp 43) = (if (((((ec == 0) && c2) && (rr == ls0)) && c4) && ((le : Int) == (if (N : Int) < hp then (N : Int) else hp))) = true then .pointer (some ⟨g, 4, none⟩) else undef) from E36.postI (Post := (p_rck g N le ccap cao ec mm rs rr hp ls0 c2 c4 c6 ms)) (a := y) (w := w) D' (hwt 36 (hw 36 (by simp)))).trans (if_pos hc)
      have h0 := hinv.cell k_g_4 (fun h => h)
      exact .inl ⟨wt.trans hc, wp_value (ox_load (v := .slice cao le ccap) ho f43 (by simp [go_sem, h0])) (hK _ _ (fun _ _ _ _ _ _ h => h) (by show _ = if (((((ec == 0) && c2) && (rr == ls0)) && c4) && ((le : Int) == (if (N : Int) < hp then (N : Int) else hp))) = true then .slice cao le ccap else undef; rw [hc]; rfl) hinv)⟩
  have s38 : ∀ o, ops[38]? = some o → StepI Try.prog ops (p_rck g N le ccap cao ec mm rs rr hp ls0 c2 c4 c6 ms) (fun (_ : Array Bool) (_ : Act) (w : World) => Mod (fun _ => False) w0 w) a0 Q 38 o := by
    refine E38.stepI fun o hd ho hg hw => ?_
    intro y w listed hsz hls hun hwt hdown D' hRR hinv K hK
    have gv : y.tmps.getD 42 undef = .bool (((((ec == 0) && c2) && (rr == ls0)) && c4) && ((le : Int) == (if (N : Int) < hp then (N : Int) else hp))) := E35.postI (Post := (p_rck g N le ccap cao ec mm rs rr hp ls0 c2 c4 c6 ms)) (a := y) (w := w) D' (hwt 35 (hw 35 (by simp)))
    have wt : Region.wanted o (yielded ops y.tmps) = (((((ec == 0) && c2) && (rr == ls0)) && c4) && ((le : Int) == (if (N : Int) < hp then (N : Int) else hp))) := by
      rw [wanted_b E35 hg (by rw [hsz, ha0]; decide) gv]
      cases (((((ec == 0) && c2) && (rr == ls0)) && c4) && ((le : Int) == (if (N : Int) < hp then (N : Int) else hp))) <;> rfl
    cases hc : (((((ec == 0) && c2) && (rr == ls0)) && c4) && ((le : Int) == (if (N : Int) < hp then (N : Int) else hp)))
    · exact .inr ⟨wt.trans hc, hK _ _ (fun _ _ _ _ _ _ h => h) (by show undef = if (((((ec == 0) && c2) && (rr == ls0)) && c4) && ((le : Int) == (if (N : Int) < hp then (N : Int) else hp))) = true then .pointer (some ⟨g, 2, none⟩) else undef; rw [hc]; rfl) hinv⟩
    · have f1 : y.eval (Operand.tmp 1) = .pointer (some ⟨g, 0, none⟩)   := (hRR 1 (not_of (by rw [hds]; decide))).trans b1
      exact .inl ⟨wt.trans hc, wp_value (ox_field (v := .pointer (some ⟨g, 2, none⟩)) ho f1 (by simp [go_sem])) (hK _ _ (fun _ _ _ _ _ _ h => h) (by show _ = if (((((ec == 0) && c2) && (rr == ls0)) && c4) && ((le : Int) == (if (N : Int) < hp then (N : Int) else hp))) = true then .pointer (some ⟨g, 2, none⟩) else undef; rw [hc]; rfl) hinv)⟩
  have s39 : ∀ o, ops[39]? = some o → StepI Try.prog ops (p_rck g N le ccap cao ec mm rs rr hp ls0 c2 c4 c6 ms) (fun (_ : Array Bool) (_ : Act) (w : World) => Mod (fun _ => False) w0 w) a0 Q 39 o := by
    refine E39.stepI fun o hd ho hg hw => ?_
    intro y w listed hsz hls hun hwt hdown D' hRR hinv K hK
    have gv : y.tmps.getD 42 undef = .bool (((((ec == 0) && c2) && (rr == ls0)) && c4) && ((le : Int) == (if (N : Int) < hp then (N : Int) else hp))) := E35.postI (Post := (p_rck g N le ccap cao ec mm rs rr hp ls0 c2 c4 c6 ms)) (a := y) (w := w) D' (hwt 35 (hw 35 (by simp)))
    have wt : Region.wanted o (yielded ops y.tmps) = (((((ec == 0) && c2) && (rr == ls0)) && c4) && ((le : Int) == (if (N : Int) < hp then (N : Int) else hp))) := by
      rw [wanted_b E35 hg (by rw [hsz, ha0]; decide) gv]
      cases (((((ec == 0) && c2) && (rr == ls0)) && c4) && ((le : Int) == (if (N : Int) < hp then (N : Int) else hp))) <;> rfl
    cases hc : (((((ec == 0) && c2) && (rr == ls0)) && c4) && ((le : Int) == (if (N : Int) < hp then (N : Int) else hp)))
    · exact .inr ⟨wt.trans hc, hK _ _ (fun _ _ _ _ _ _ h => h) (by show undef = if (((((ec == 0) && c2) && (rr == ls0)) && c4) && ((le : Int) == (if (N : Int) < hp then (N : Int) else hp))) = true then .int .i64 mm else undef; rw [hc]; rfl) hinv⟩
    · have f45 : y.eval (Operand.tmp 45) = .pointer (some ⟨g, 2, none⟩) := (show y.eval (Operand.tmp 45) = (if (((((ec == 0) && c2) && (rr == ls0)) && c4) && ((le : Int) == (if (N : Int) < hp then (N : Int) else hp))) = true then .pointer (some ⟨g, 2, none⟩) else undef) from E38.postI (Post := (p_rck g N le ccap cao ec mm rs rr hp ls0 c2 c4 c6 ms)) (a := y) (w := w) D' (hwt 38 (hw 38 (by simp)))).trans (if_pos hc)
      have h0 := hinv.cell k_g_2 (fun h => h)
      exact .inl ⟨wt.trans hc, wp_value (ox_load (v := .int .i64 mm) ho f45 (by simp [go_sem, h0])) (hK _ _ (fun _ _ _ _ _ _ h => h) (by show _ = if (((((ec == 0) && c2) && (rr == ls0)) && c4) && ((le : Int) == (if (N : Int) < hp then (N : Int) else hp))) = true then .int .i64 mm else undef; rw [hc]; rfl) hinv)⟩
  have s40 : ∀ o, ops[40]? = some o → StepI Try.prog ops (p_rck g N le ccap cao ec mm rs rr hp ls0 c2 c4 c6 ms) (fun (_ : Array Bool) (_ : Act) (w : World) => Mod (fun _ => False) w0 w) a0 Q 40 o := by
    refine E40.stepI fun o hd ho hg hw => ?_
    intro y w listed hsz hls hun hwt hdown D' hRR hinv K hK
    have gv : y.tmps.getD 42 undef = .bool (((((ec == 0) && c2) && (rr == ls0)) && c4) && ((le : Int) == (if (N : Int) < hp then (N : Int) else hp))) := E35.postI (Post := (p_rck g N le ccap cao ec mm rs rr hp ls0 c2 c4 c6 ms)) (a := y) (w := w) D' (hwt 35 (hw 35 (by simp)))
    have wt : Region.wanted o (yielded ops y.tmps) = (((((ec == 0) && c2) && (rr == ls0)) && c4) && ((le : Int) == (if (N : Int) < hp then (N : Int) else hp))) := by
      rw [wanted_b E35 hg (by rw [hsz, ha0]; decide) gv]
      cases (((((ec == 0) && c2) && (rr == ls0)) && c4) && ((le : Int) == (if (N : Int) < hp then (N : Int) else hp))) <;> rfl
    cases hc : (((((ec == 0) && c2) && (rr == ls0)) && c4) && ((le : Int) == (if (N : Int) < hp then (N : Int) else hp)))
    · exact .inr ⟨wt.trans hc, hK _ _ (fun _ _ _ _ _ _ h => h) ⟨fun h => (by rw [hc] at h; cases h), fun _ => rfl⟩ hinv⟩
    · have f46 : y.eval (Operand.tmp 46) = .int .i64 mm := (show y.eval (Operand.tmp 46) = (if (((((ec == 0) && c2) && (rr == ls0)) && c4) && ((le : Int) == (if (N : Int) < hp then (N : Int) else hp))) = true then .int .i64 mm else undef) from E39.postI (Post := (p_rck g N le ccap cao ec mm rs rr hp ls0 c2 c4 c6 ms)) (a := y) (w := w) D' (hwt 39 (hw 39 (by simp)))).trans (if_pos hc)
      refine .inl ⟨wt.trans hc, wp_enter (f := 25) (args := #[.int .i64 mm]) ?_ (H40 w  hinv ) ?_⟩
      · have h := exec_call1 y.eval (fun args w => by simp [go_sem]) rfl ho (w := w)
        rw [f46] at h
        exact h
      · rintro e w' ⟨lv, rfl, hpp, hm⟩
        exact ⟨_, rfl, hK _ _ (fun j oj d _ _ _ h => hstay _ _ _ _ hm h) ⟨fun _ => ⟨lv, rfl, hpp⟩, fun h => (by rw [hc] at h; cases h)⟩ (hinv.and hm)⟩
  have s41 : ∀ o, ops[41]? = some o → StepI Try.prog ops (p_rck g N le ccap cao ec mm rs rr hp ls0 c2 c4 c6 ms) (fun (_ : Array Bool) (_ : Act) (w : World) => Mod (fun _ => False) w0 w) a0 Q 41 o := by
    refine E41.stepI fun o hd ho hg hw => ?_
    intro y w listed hsz hls hun hwt hdown D' hRR hinv K hK
    have gv : y.tmps.getD 42 undef = .bool (((((ec == 0) && c2) && (rr == ls0)) && c4) && ((le : Int) == (if (N : Int) < hp then (N : Int) else hp))) := E35.postI (Post := (p_rck g N le ccap cao ec mm rs rr hp ls0 c2 c4 c6 ms)) (a := y) (w := w) D' (hwt 35 (hw 35 (by simp)))
    have wt : Region.wanted o (yielded ops y.tmps) = (((((ec == 0) && c2) && (rr == ls0)) && c4) && ((le : Int) == (if (N : Int) < hp then (N : Int) else hp))) := by
      rw [wanted_b E35 hg (by rw [hsz, ha0]; decide) gv]
      cases (((((ec == 0) && c2) && (rr == ls0)) && c4) && ((le : Int) == (if (N : Int) < hp then (N : Int) else hp))) <;> rfl
    cases hc : (((((ec == 0) && c2) && (rr == ls0)) && c4) && ((le : Int) == (if (N : Int) < hp then (N : Int) else hp)))
    · exact .inr ⟨wt.trans hc, hK _ _ (fun _ _ _ _ _ _ h => h) (by show undef = if (((((ec == 0) && c2) && (rr == ls0)) && c4) && ((le : Int) == (if (N : Int) < hp then (N : Int) else hp))) = true then .bool c6 else undef; rw [hc]; rfl) hinv⟩
    · have f44 : y.eval (Operand.tmp 44) = .slice cao le ccap := (show y.eval (Operand.tmp 44) = (if (((((ec == 0) && c2) && (rr == ls0)) && c4) && ((le : Int) == (if (N : Int) < hp then (N : Int) else hp))) = true then .slice cao le ccap else undef) from E37.postI (Post := (p_rck g N le ccap cao ec mm rs rr hp ls0 c2 c4 c6 ms)) (a := y) (w := w) D' (hwt 37 (hw 37 (by simp)))).trans (if_pos hc)
      obtain ⟨lv, f47, q47⟩ : ∃ lv, y.eval (Operand.tmp 47) = lv ∧ Cr.Own w lv ms := (E40.postI (Post := (p_rck g N le ccap cao ec mm rs rr hp ls0 c2 c4 c6 ms)) (a := y) (w := w) D' (hwt 40 (hw 40 (by simp)))).1 hc
      refine .inl ⟨wt.trans hc, wp_enter (f := 40) (args := #[.slice cao le ccap, lv]) ?_ (H41 hc w lv hinv q47) ?_⟩
      · have h := exec_call2 y.eval (fun args w => by simp [go_sem]) rfl ho (w := w)
        rw [f44, f47] at h
        exact h
      · rintro e w' ⟨rfl, hm⟩
        exact ⟨_, rfl, hK _ _ (fun j oj d _ _ _ h => hstay _ _ _ _ hm h) (by show _ = if (((((ec == 0) && c2) && (rr == ls0)) && c4) && ((le : Int) == (if (N : Int) < hp then (N : Int) else hp))) = true then .bool c6 else undef; rw [hc]; rfl) (hinv.and hm)⟩
  have s42 : ∀ o, ops[42]? = some o → StepI Try.prog ops (p_rck g N le ccap cao ec mm rs rr hp ls0 c2 c4 c6 ms) (fun (_ : Array Bool) (_ : Act) (w : World) => Mod (fun _ => False) w0 w) a0 Q 42 o := by
    refine E42.stepI fun o hd ho hg hw => ?_
    intro y w listed hsz hls hun hwt hdown D' hRR hinv K hK
    have f42 : y.eval (Operand.tmp 42) = .bool (((((ec == 0) && c2) && (rr == ls0)) && c4) && ((le : Int) == (if (N : Int) < hp then (N : Int) else hp))) := E35.postI (Post := (p_rck g N le ccap cao ec mm rs rr hp ls0 c2 c4 c6 ms)) (a := y) (w := w) D' (hwt 35 (hw 35 (by simp)))
    have f48 : y.eval (Operand.tmp 48) = if (((((ec == 0) && c2) && (rr == ls0)) && c4) && ((le : Int) == (if (N : Int) < hp then (N : Int) else hp))) = true then .bool c6 else undef := E41.postI (Post := (p_rck g N le ccap cao ec mm rs rr hp ls0 c2 c4 c6 ms)) (a := y) (w := w) D' (hwt 41 (hw 41 (by simp)))
    exact .inl ⟨wanted_none hg, wp_value (ox_pick ho f42 (by rw [f48]; cases (((((ec == 0) && c2) && (rr == ls0)) && c4) && ((le : Int) == (if (N : Int) < hp then (N : Int) else hp))) <;> rfl)) (hK _ _ (fun _ _ _ _ _ _ h => h) rfl hinv)⟩
  refine region_freeI (Post := (p_rck g N le ccap cao ec mm rs rr hp ls0 c2 c4 c6 ms)) (Inv := (fun (_ : Array Bool) (_ : Act) (w : World) => Mod (fun _ => False) w0 w)) mixed (low_of hlow) (fun i o ho => by rw [ha0]; exact dst_of (by rw [hds]; decide) i o ho) (inj_of hnd) (Mod.refl _ _).drew ?_ ?_
  · intro i o ho
    have hi : i < 43 := by
      rw [← hN]
      rcases Nat.lt_or_ge i ops.size with h | h
      · exact h
      · rw [Array.getElem?_eq_none h] at ho; cases ho
    clear hend
    by_cases e0 : i = 0
    · subst e0; exact s0 o ho
    by_cases e1 : i = 1
    · subst e1; exact s1 o ho
    by_cases e2 : i = 2
    · subst e2; exact s2 o ho
    by_cases e3 : i = 3
    · subst e3; exact s3 o ho
    by_cases e4 : i = 4
    · subst e4; exact s4 o ho
    by_cases e5 : i = 5
    · subst e5; exact s5 o ho
    by_cases e6 : i = 6
    · subst e6; exact s6 o ho
    by_cases e7 : i = 7
    · subst e7; exact s7 o ho
    by_cases e8 : i = 8
    · subst e8; exact s8 o ho
    by_cases e9 : i = 9
    · subst e9; exact s9 o ho
    by_cases e10 : i = 10
    · subst e10; exact s10 o ho
    by_cases e11 : i = 11
    · subst e11; exact s11 o ho
    by_cases e12 : i = 12
    · subst e12; exact s12 o ho
    by_cases e13 : i = 13
    · subst e13; exact s13 o ho
    by_cases e14 : i = 14
    · subst e14; exact s14 o ho
    by_cases e15 : i = 15
    · subst e15; exact s15 o ho
    by_cases e16 : i = 16
    · subst e16; exact s16 o ho
    by_cases e17 : i = 17
    · subst e17; exact s17 o ho
    by_cases e18 : i = 18
    · subst e18; exact s18 o ho
    by_cases e19 : i = 19
    · subst e19; exact s19 o ho
    by_cases e20 : i = 20
    · subst e20; exact s20 o ho
    by_cases e21 : i = 21
    · subst e21; exact s21 o ho
    by_cases e22 : i = 22
    · subst e22; exact s22 o ho
    by_cases e23 : i = 23
    · subst e23; exact s23 o ho
    by_cases e24 : i = 24
    · subst e24; exact s24 o ho
    by_cases e25 : i = 25
    · subst e25; exact s25 o ho
    by_cases e26 : i = 26
    · subst e26; exact s26 o ho
    by_cases e27 : i = 27
    · subst e27; exact s27 o ho
    by_cases e28 : i = 28
    · subst e28; exact s28 o ho
    by_cases e29 : i = 29
    · subst e29; exact s29 o ho
    by_cases e30 : i = 30
    · subst e30; exact s30 o ho
    by_cases e31 : i = 31
    · subst e31; exact s31 o ho
    by_cases e32 : i = 32
    · subst e32; exact s32 o ho
    by_cases e33 : i = 33
    · subst e33; exact s33 o ho
    by_cases e34 : i = 34
    · subst e34; exact s34 o ho
    by_cases e35 : i = 35
    · subst e35; exact s35 o ho
    by_cases e36 : i = 36
    · subst e36; exact s36 o ho
    by_cases e37 : i = 37
    · subst e37; exact s37 o ho
    by_cases e38 : i = 38
    · subst e38; exact s38 o ho
    by_cases e39 : i = 39
    · subst e39; exact s39 o ho
    by_cases e40 : i = 40
    · subst e40; exact s40 o ho
    by_cases e41 : i = 41
    · subst e41; exact s41 o ho
    by_cases e42 : i = 42
    · subst e42; exact s42 o ho
    omega
  · intro y w listed hsz hdf hls hall hinv hPO hRE
    have e : y = puts a0 [(7, .pointer (some ⟨g, 2, none⟩)), (8, .int .i64 mm), (9, .int .i64 ec), (10, .bool (ec == 0)), (11, .bool (ec == 0)), (12, y.tmps.getD 12 undef), (13, y.tmps.getD 13 undef), (14, y.tmps.getD 14 undef), (15, .bool ((ec == 0) && c2)), (16, .bool ((ec == 0) && c2)), (17, y.tmps.getD 17 undef), (18, y.tmps.getD 18 undef), (19, y.tmps.getD 19 undef), (20, y.tmps.getD 20 undef), (21, y.tmps.getD 21 undef), (22, y.tmps.getD 22 undef), (23, y.tmps.getD 23 undef), (24, .bool (((ec == 0) && c2) && (rr == ls0))), (25, .bool (((ec == 0) && c2) && (rr == ls0))), (26, y.tmps.getD 26 undef), (27, y.tmps.getD 27 undef), (28, y.tmps.getD 28 undef), (29, y.tmps.getD 29 undef), (30, y.tmps.getD 30 undef), (31, .bool ((((ec == 0) && c2) && (rr == ls0)) && c4)), (32, .bool ((((ec == 0) && c2) && (rr == ls0)) && c4)), (33, y.tmps.getD 33 undef), (34, y.tmps.getD 34 undef), (35, y.tmps.getD 35 undef), (36, y.tmps.getD 36 undef), (37, y.tmps.getD 37 undef), (38, y.tmps.getD 38 undef), (39, y.tmps.getD 39 undef), (40, y.tmps.getD 40 undef), (41, .bool (((((ec == 0) && c2) && (rr == ls0)) && c4) && ((le : Int) == (if (N : Int) < hp then (N : Int) else hp)))), (42, .bool (((((ec == 0) && c2) && (rr == ls0)) && c4) && ((le : Int) == (if (N : Int) < hp then (N : Int) else hp)))), (43, y.tmps.getD 43 undef), (44, y.tmps.getD 44 undef), (45, y.tmps.getD 45 undef), (46, y.tmps.getD 46 undef), (47, y.tmps.getD 47 undef), (48, y.tmps.getD 48 undef), (49, .bool ((((((ec == 0) && c2) && (rr == ls0)) && c4) && ((le : Int) == (if (N : Int) < hp then (N : Int) else hp))) && c6))] := by
      refine eq_puts hsz hdf (nodup_of (D := [some 7, some 8, some 9, some 10, some 11, some 12, some 13, some 14, some 15, some 16, some 17, some 18, some 19, some 20, some 21, some 22, some 23, some 24, some 25, some 26, some 27, some 28, some 29, some 30, some 31, some 32, some 33, some 34, some 35, some 36, some 37, some 38, some 39, some 40, some 41, some 42, some 43, some 44, some 45, some 46, some 47, some 48, some 49]) rfl (by decide)) (by rw [ha0]; simp) ?_ ?_
      · intro q hq
        simp only [List.mem_cons, List.not_mem_nil, or_false] at hq
        rcases hq with rfl | rfl | rfl | rfl | rfl | rfl | rfl | rfl | rfl | rfl | rfl | rfl | rfl | rfl | rfl | rfl | rfl | rfl | rfl | rfl | rfl | rfl | rfl | rfl | rfl | rfl | rfl | rfl | rfl | rfl | rfl | rfl | rfl | rfl | rfl | rfl | rfl | rfl | rfl | rfl | rfl | rfl | rfl
        · obtain ⟨o, h1, h2, _⟩ := E0.ex
          exact hPO 0 o _ h1 h2
        · obtain ⟨o, h1, h2, _⟩ := E1.ex
          exact hPO 1 o _ h1 h2
        · obtain ⟨o, h1, h2, _⟩ := E2.ex
          exact hPO 2 o _ h1 h2
        · obtain ⟨o, h1, h2, _⟩ := E3.ex
          exact hPO 3 o _ h1 h2
        · obtain ⟨o, h1, h2, _⟩ := E4.ex
          exact hPO 4 o _ h1 h2
        · rfl
        · rfl
        · rfl
        · obtain ⟨o, h1, h2, _⟩ := E8.ex
          exact hPO 8 o _ h1 h2
        · obtain ⟨o, h1, h2, _⟩ := E9.ex
          exact hPO 9 o _ h1 h2
        · rfl
        · rfl
        · rfl
        · rfl
        · rfl
        · rfl
        · rfl
        · obtain ⟨o, h1, h2, _⟩ := E17.ex
          exact hPO 17 o _ h1 h2
        · obtain ⟨o, h1, h2, _⟩ := E18.ex
          exact hPO 18 o _ h1 h2
        · rfl
        · rfl
        · rfl
        · rfl
        · rfl
        · obtain ⟨o, h1, h2, _⟩ := E24.ex
          exact hPO 24 o _ h1 h2
        · obtain ⟨o, h1, h2, _⟩ := E25.ex
          exact hPO 25 o _ h1 h2
        · rfl
        · rfl
        · rfl
        · rfl
        · rfl
        · rfl
        · rfl
        · rfl
        · obtain ⟨o, h1, h2, _⟩ := E34.ex
          exact hPO 34 o _ h1 h2
        · obtain ⟨o, h1, h2, _⟩ := E35.ex
          exact hPO 35 o _ h1 h2
        · rfl
        · rfl
        · rfl
        · rfl
        · rfl
        · rfl
        · obtain ⟨o, h1, h2, _⟩ := E42.ex
          exact hPO 42 o _ h1 h2
      · intro t ht
        refine hRE t (not_of ?_)
        rw [hds]
        simp only [List.mem_cons, List.not_mem_nil, or_false, forall_eq_or_imp, forall_eq] at ht
        simp only [List.contains_cons, List.contains_nil, Bool.or_eq_false_iff, beq_eq_false_iff_ne, ne_eq, Option.some.injEq, Bool.or_false]
        simp only [eq_comm (a := t)]
        simp [ht]
    rw [e]
    exact hend (fun d => y.tmps.getD d undef) w hinv
set_option maxRecDepth 100000 in
set_option maxHeartbeats 8000000 in
theorem cCheck (rs rr mm hp : Int) (cao : Option Addr) (ccap : Nat) (ce : List Ey) (w : World) (hs : SlE w (.slice cao ce.length ccap) ce) (hmm : I64 mm) :
    Calls Try.prog 16 #[.agg #[.int .i64 rs, .int .i64 rr, .int .i64 mm, .int .i64 hp, .slice cao ce.length ccap]] w fun e w' => e = .returned (.int .i64 (ckC ⟨rs, rr, mm, hp, ce⟩)) ∧ Mod (fun _ => False) w w' := by
  have hM := (Mod.refl (fun _ => False) w).alloc (.cells #[.int .i64 rs, .int .i64 rr, .int .i64 mm, .int .i64 hp, .slice cao ce.length ccap] 26)
  have hBk := Bk.new w #[.int .i64 rs, .int .i64 rr, .int .i64 mm, .int .i64 hp, .slice cao ce.length ccap] 26
  have HCt := Cr.Count mm
  have H0 := fun W => Cr.Check mm W hmm
  have H2 := pkRing rs rr
  have H3 := Cr.Least mm
  have H4 := pkWithin hp 1 (2 * (Cr.cn (Cr.lo mm) : Int))
  have H5 := Cr.List12 mm
  have hlc := lo_cn mm
  have hcl := cn_le mm
  have H6 := fun W v h1 h2 h3 => areOf_any (.slice cao ce.length ccap) v ce (Cr.ls (Cr.lo mm)) W h1 h2 h3
  have hok : okC ⟨rs, rr, mm, hp, ce⟩ = ((((((Cr.chk mm == 0) && isr rs rr) && (rr == Cr.ab (Cr.lo mm) 0)) && win hp 1 (2 * (Cr.cn (Cr.lo mm) : Int))) && ((ce.length : Int) == if (Cr.cn (Cr.lo mm) : Int) < hp then (Cr.cn (Cr.lo mm) : Int) else hp)) && mbs ce (Cr.ls (Cr.lo mm))) := by
    have h1 : min hp (Cr.cn (Cr.lo mm) : Int) = if (Cr.cn (Cr.lo mm) : Int) < hp then (Cr.cn (Cr.lo mm) : Int) else hp := by split <;> omega
    rw [Bool.eq_iff_iff]
    simp only [okC, h1, Bool.and_eq_true, decide_eq_true_eq, beq_iff_eq, win]
    constructor
    · rintro ⟨⟨⟨⟨⟨⟨a, _⟩, b⟩, c⟩, d⟩, e⟩, f⟩
      exact ⟨⟨⟨⟨⟨a, b⟩, c⟩, d⟩, e⟩, f⟩
    · rintro ⟨⟨⟨⟨⟨a, b⟩, c⟩, d⟩, e⟩, f⟩
      exact ⟨⟨⟨⟨⟨⟨a, by omega⟩, b⟩, c⟩, d⟩, e⟩, f⟩
  have hck : ckC ⟨rs, rr, mm, hp, ce⟩ = if okC ⟨rs, rr, mm, hp, ce⟩ = true then 0 else 2 := rfl
  rw [hok] at hck
  generalize ckC ⟨rs, rr, mm, hp, ce⟩ = RR at hck ⊢
  have HR : Hid (RR = _) := hck
  have hs0 := hs.mod hM (fun _ _ _ h => h)
  generalize Cr.ab (Cr.lo mm) 0 = ls0 at *
  generalize hN : Cr.cn (Cr.lo mm) = N at *
  generalize hms : Cr.ls (Cr.lo mm) = ms at *
  generalize mbs ce ms = c6 at H6 HR
  generalize win hp 1 (2 * (N : Int)) = c4 at H4 HR
  generalize isr rs rr = c2 at H2 HR
  generalize Cr.chk mm = ec at H0 HR
  have hmul : IntKind.i64.wrap ((2 : Int) * (N : Int)) = 2 * (N : Int) := by rw [IntKind.wrap_i64]; omega
  rw [← hmul] at H4
  clear hck hok hmul hN hms
  go_enter Try.func16, Try.ntmps16
  go_wp2_with (fail)
  refine (HCt _).mono ?_
  rintro e w' ⟨rfl, rfl⟩
  go_upto_region 2 with fail
  refine rck w.heap.size N ce.length ccap cao ec mm rs rr hp ls0 c2 c4 c6 ms ⟨⟨⟨_, rfl, rfl, rfl, rfl, by decide +kernel⟩⟩, ⟨⟨_, rfl, rfl, rfl, rfl, by decide +kernel⟩⟩, ⟨⟨_, rfl, rfl, rfl, rfl, by decide +kernel⟩⟩, ⟨⟨_, rfl, rfl, rfl, rfl, by decide +kernel⟩⟩, ⟨⟨_, rfl, rfl, rfl, rfl, by decide +kernel⟩⟩, ⟨⟨_, rfl, rfl, rfl, rfl, by decide +kernel⟩⟩, ⟨⟨_, rfl, rfl, rfl, rfl, by decide +kernel⟩⟩, ⟨⟨_, rfl, rfl, rfl, rfl, by decide +kernel⟩⟩, ⟨⟨_, rfl, rfl, rfl, rfl, by decide +kernel⟩⟩, ⟨⟨_, rfl, rfl, rfl, rfl, by decide +kernel⟩⟩, ⟨⟨_, rfl, rfl, rfl, rfl, by decide +kernel⟩⟩, ⟨⟨_, rfl, rfl, rfl, rfl, by decide +kernel⟩⟩, ⟨⟨_, rfl, rfl, rfl, rfl, by decide +kernel⟩⟩, ⟨⟨_, rfl, rfl, rfl, rfl, by decide +kernel⟩⟩, ⟨⟨_, rfl, rfl, rfl, rfl, by decide +kernel⟩⟩, ⟨⟨_, rfl, rfl, rfl, rfl, by decide +kernel⟩⟩, ⟨⟨_, rfl, rfl, rfl, rfl, by decide +kernel⟩⟩, ⟨⟨_, rfl, rfl, rfl, rfl, by decide +kernel⟩⟩, ⟨⟨_, rfl, rfl, rfl, rfl, by decide +kernel⟩⟩, ⟨⟨_, rfl, rfl, rfl, rfl, by decide +kernel⟩⟩, ⟨⟨_, rfl, rfl, rfl, rfl, by decide +kernel⟩⟩, ⟨⟨_, rfl, rfl, rfl, rfl, by decide +kernel⟩⟩, ⟨⟨_, rfl, rfl, rfl, rfl, by decide +kernel⟩⟩, ⟨⟨_, rfl, rfl, rfl, rfl, by decide +kernel⟩⟩, ⟨⟨_, rfl, rfl, rfl, rfl, by decide +kernel⟩⟩, ⟨⟨_, rfl, rfl, rfl, rfl, by decide +kernel⟩⟩, ⟨⟨_, rfl, rfl, rfl, rfl, by decide +kernel⟩⟩, ⟨⟨_, rfl, rfl, rfl, rfl, by decide +kernel⟩⟩, ⟨⟨_, rfl, rfl, rfl, rfl, by decide +kernel⟩⟩, ⟨⟨_, rfl, rfl, rfl, rfl, by decide +kernel⟩⟩, ⟨⟨_, rfl, rfl, rfl, rfl, by decide +kernel⟩⟩, ⟨⟨_, rfl, rfl, rfl, rfl, by decide +kernel⟩⟩, ⟨⟨_, rfl, rfl, rfl, rfl, by decide +kernel⟩⟩, ⟨⟨_, rfl, rfl, rfl, rfl, by decide +kernel⟩⟩, ⟨⟨_, rfl, rfl, rfl, rfl, by decide +kernel⟩⟩, ⟨⟨_, rfl, rfl, rfl, rfl, by decide +kernel⟩⟩, ⟨⟨_, rfl, rfl, rfl, rfl, by decide +kernel⟩⟩, ⟨⟨_, rfl, rfl, rfl, rfl, by decide +kernel⟩⟩, ⟨⟨_, rfl, rfl, rfl, rfl, by decide +kernel⟩⟩, ⟨⟨_, rfl, rfl, rfl, rfl, by decide +kernel⟩⟩, ⟨⟨_, rfl, rfl, rfl, rfl, by decide +kernel⟩⟩, ⟨⟨_, rfl, rfl, rfl, rfl, by decide +kernel⟩⟩, ⟨⟨_, rfl, rfl, rfl, rfl, by decide +kernel⟩⟩⟩ rfl (by decide +kernel) rfl (by decide +kernel) rfl rfl rfl (hBk.cellv rfl) (hBk.cellv rfl) (hBk.cellv rfl) (hBk.cellv rfl) (hBk.cellv rfl) (fun W _ => (H0 W).mono fun _ _ h => ⟨h.1, h.2 ▸ Mod.refl _ _⟩) (fun W _ => H2 W) (fun W _ => (H3 W).mono fun _ _ h => ⟨h.1, h.2 ▸ Mod.refl _ _⟩) (fun W _ => (H4 W).mono fun _ _ h => ⟨h.1, h.2 ▸ Mod.refl _ _⟩) (fun W _ => (H5 W).mono fun _ _ h => by obtain ⟨v, rfl, h1, h2, _⟩ := h; exact ⟨v, rfl, h1, h2⟩) (fun hc W lv hW hlv => H6 W lv (hs0.mod hW (fun _ _ _ h => h)) hlv.sl ?_) ?_
  · simp only [Bool.and_eq_true, beq_iff_eq] at hc
    have h := hc.2
    rw [hlc]
    split at h <;> omega
  intro f w1 hm1
  simp only [puts, Act.put, List.setIfInBounds_toArray, List.set_cons_succ, List.set_cons_zero]
  replace hM := hM.and hm1
  clear hBk HCt H0 H2 H3 H4 H5 H6 hs0 hs
  have HRR := HR.out
  clear HR
  generalize (if (N : Int) < hp then (N : Int) else hp) = mn at HRR ⊢
  generalize ((((((ec == 0) && c2) && (rr == ls0)) && c4) && ((ce.length : Int) == mn)) && c6) = bb at HRR ⊢
  cases bb
  · simp only [if_neg (Bool.false_ne_true)] at HRR
    subst HRR
    go_wp2
    go_ret
    exact ⟨rfl, hM⟩
  · simp only [if_true] at HRR
    subst HRR
    go_wp2
    go_ret
    exact ⟨rfl, hM⟩
end Go.Proofs.Ytlekmgjjjniomaa
