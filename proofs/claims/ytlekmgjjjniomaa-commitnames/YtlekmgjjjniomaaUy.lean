/- CommitKnows: a commit's stamp, and who is kin by it, are the document's. No conditions. -/
import Derived.Test.YtlekmgjjjniomaaUj
import Derived.Test.YtlekmgjjjniomaaUx
import Derived.Test.YtlekmgjjjniomaaRge
import Derived.Deep.DeepCutAuto
import Derived.Deep.Light
namespace Go.Proofs.Ytlekmgjjjniomaa
open Go.RowKit
/-- What is said of a slot. -/
def p_rkn (_g : Nat) (rs rr mm hp A B D S : Int) (cao : Option Addr) (n ccap : Nat) (i : Nat) (v : Value) (_w : World) : Prop :=
  match i with
  | 0 => v = .int .i64 A
  | 1 => v = .int .i64 A
  | 2 => v = .bool (A == A)
  | 3 => v = .bool (A == A)
  | 4 => v = if (A == A) = true then .int .i64 B else undef
  | 5 => v = if (A == A) = true then .int .i64 B else undef
  | 6 => v = if (A == A) = true then .bool (B == B) else undef
  | 7 => v = .bool ((A == A) && (B == B))
  | 8 => v = .bool ((A == A) && (B == B))
  | 9 => v = if ((A == A) && (B == B)) = true then .int .i64 D else undef
  | 10 => v = if ((A == A) && (B == B)) = true then .int .i64 D else undef
  | 11 => v = if ((A == A) && (B == B)) = true then .bool (D == D) else undef
  | 12 => v = .bool (((A == A) && (B == B)) && (D == D))
  | 13 => v = .bool (((A == A) && (B == B)) && (D == D))
  | 14 => v = if (((A == A) && (B == B)) && (D == D)) = true then .agg #[.int .i64 rs, .int .i64 rr, .int .i64 mm, .int .i64 hp, .slice cao n ccap] else undef
  | 15 => v = if (((A == A) && (B == B)) && (D == D)) = true then .int .i64 S else undef
  | 16 => v = if (((A == A) && (B == B)) && (D == D)) = true then .agg #[.int .i64 rs, .int .i64 rr, .int .i64 mm, .int .i64 hp, .slice cao n ccap] else undef
  | 17 => v = if (((A == A) && (B == B)) && (D == D)) = true then .int .i64 S else undef
  | 18 => v = if (((A == A) && (B == B)) && (D == D)) = true then .bool (S == S) else undef
  | 19 => v = .bool ((((A == A) && (B == B)) && (D == D)) && (S == S))
  | 20 => v = .bool ((((A == A) && (B == B)) && (D == D)) && (S == S))
  | 21 => v = if ((((A == A) && (B == B)) && (D == D)) && (S == S)) = true then .bool true else undef
  | 22 => v = .bool (((((A == A) && (B == B)) && (D == D)) && (S == S)) && true)
  | 23 => v = .bool (((((A == A) && (B == B)) && (D == D)) && (S == S)) && true)
  | _ => True
/-- Its operations. -/
structure O_rkn (ops : Array Oper) : Prop where
  e0 : Is ops 0 (some 25) (Op.move (Operand.tmp 5)) none []
  e1 : Is ops 1 (some 26) (Op.move (Operand.tmp 8)) none []
  e2 : Is ops 2 (some 27) (Op.binOp BinOp.eql 3 (Operand.tmp 25) (Operand.tmp 26) 3) none [0, 1]
  e3 : Is ops 3 (some 28) (Op.move (Operand.tmp 27)) none [2]
  e4 : Is ops 4 (some 29) (Op.move (Operand.tmp 6)) (some (3, true)) [3]
  e5 : Is ops 5 (some 30) (Op.move (Operand.tmp 9)) (some (3, true)) [3]
  e6 : Is ops 6 (some 31) (Op.binOp BinOp.eql 3 (Operand.tmp 29) (Operand.tmp 30) 3) (some (3, true)) [3, 4, 5]
  e7 : Is ops 7 (some 32) (Op.pick (Operand.tmp 28) (Operand.tmp 31) (Operand.const (Value.bool false))) none [3, 6]
  e8 : Is ops 8 (some 33) (Op.move (Operand.tmp 32)) none [3, 7]
  e9 : Is ops 9 (some 34) (Op.move (Operand.tmp 7)) (some (8, true)) [8]
  e10 : Is ops 10 (some 35) (Op.move (Operand.tmp 10)) (some (8, true)) [8]
  e11 : Is ops 11 (some 36) (Op.binOp BinOp.eql 3 (Operand.tmp 34) (Operand.tmp 35) 3) (some (8, true)) [8, 9, 10]
  e12 : Is ops 12 (some 37) (Op.pick (Operand.tmp 33) (Operand.tmp 36) (Operand.const (Value.bool false))) none [8, 11]
  e13 : Is ops 13 (some 38) (Op.move (Operand.tmp 37)) none [8, 12]
  e14 : Is ops 14 (some 39) (Op.load 26 (Operand.tmp 2)) (some (13, true)) [13]
  e15 : Is ops 15 (some 40) (Op.call { callee := Callee.value (Operand.func 23), args := #[Operand.tmp 39], argTypes := #[26] }) (some (13, true)) [13, 14]
  e16 : Is ops 16 (some 41) (Op.load 26 (Operand.tmp 2)) (some (13, true)) [13]
  e17 : Is ops 17 (some 42) (Op.call { callee := Callee.value (Operand.func 24), args := #[Operand.tmp 41], argTypes := #[26] }) (some (13, true)) [13, 15, 16]
  e18 : Is ops 18 (some 43) (Op.binOp BinOp.eql 3 (Operand.tmp 40) (Operand.tmp 42) 3) (some (13, true)) [13, 15, 17]
  e19 : Is ops 19 (some 44) (Op.pick (Operand.tmp 38) (Operand.tmp 43) (Operand.const (Value.bool false))) none [13, 18]
  e20 : Is ops 20 (some 45) (Op.move (Operand.tmp 44)) none [17, 19]
  e21 : Is ops 21 (some 46) (Op.call { callee := Callee.value (Operand.func 20), args := #[], argTypes := #[] }) (some (20, true)) [20]
  e22 : Is ops 22 (some 47) (Op.pick (Operand.tmp 45) (Operand.tmp 46) (Operand.const (Value.bool false))) none [20, 21]
  e23 : Is ops 23 (some 4) (Op.assign (Operand.tmp 47)) none [0, 1, 2, 3, 4, 5, 6, 7, 8, 9, 10, 11, 12, 13, 14, 15, 16, 17, 18, 19, 20, 21, 22]
set_option maxRecDepth 100000 in
set_option maxHeartbeats 4000000 in
theorem rkn {ops : Array Oper} {id : Nat} {aZ : Act} {w0 : World} {Q : Exit → Act → World → Prop} (g : Nat) (rs rr mm hp A B D S : Int) (cao : Option Addr) (n ccap : Nat)
    (E : O_rkn ops) (hN : ops.size = 24) (hlow : lowB ops = true) (hds : dsts ops = [some 25, some 26, some 27, some 28, some 29, some 30, some 31, some 32, some 33, some 34, some 35, some 36, some 37, some 38, some 39, some 40, some 41, some 42, some 43, some 44, some 45, some 46, some 47, some 4]) (hnd : injB ops = true) (ha0 : aZ.tmps.size = 48)
    (bS2 : aZ.tmps.getD 2 undef = .pointer (some ⟨g, 0, none⟩))
    (bS5 : aZ.tmps.getD 5 undef = .int .i64 A)
    (bS6 : aZ.tmps.getD 6 undef = .int .i64 B)
    (bS7 : aZ.tmps.getD 7 undef = .int .i64 D)
    (bS8 : aZ.tmps.getD 8 undef = .int .i64 A)
    (bS9 : aZ.tmps.getD 9 undef = .int .i64 B)
    (bS10 : aZ.tmps.getD 10 undef = .int .i64 D)
    (k_g_0 : w0.cell? ⟨g, 0, none⟩ = some (.int .i64 rs))
    (k_g_1 : w0.cell? ⟨g, 1, none⟩ = some (.int .i64 rr))
    (k_g_2 : w0.cell? ⟨g, 2, none⟩ = some (.int .i64 mm))
    (k_g_3 : w0.cell? ⟨g, 3, none⟩ = some (.int .i64 hp))
    (k_g_4 : w0.cell? ⟨g, 4, none⟩ = some (.slice cao n ccap))
    (H15 : ∀ (W : World), Mod (fun _ => False) w0 W → Calls Try.prog 23 #[.agg #[.int .i64 rs, .int .i64 rr, .int .i64 mm, .int .i64 hp, .slice cao n ccap]] W fun e w' => e = .returned (.int .i64 S) ∧ Mod (fun _ => False) W w')
    (H17 : ∀ (W : World), Mod (fun _ => False) w0 W → Calls Try.prog 24 #[.agg #[.int .i64 rs, .int .i64 rr, .int .i64 mm, .int .i64 hp, .slice cao n ccap]] W fun e w' => e = .returned (.int .i64 S) ∧ Mod (fun _ => False) W w')
    (H21 : ∀ (W : World), Mod (fun _ => False) w0 W → Calls Try.prog 20 #[] W fun e w' => e = .returned (.bool true) ∧ Mod (fun _ => False) W w')
    (hend : ∀ (f : Nat → Value) (w : World), Mod (fun _ => False) w0 w → Q .normal (puts aZ [(25, .int .i64 A), (26, .int .i64 A), (27, .bool (A == A)), (28, .bool (A == A)), (29, f 29), (30, f 30), (31, f 31), (32, .bool ((A == A) && (B == B))), (33, .bool ((A == A) && (B == B))), (34, f 34), (35, f 35), (36, f 36), (37, .bool (((A == A) && (B == B)) && (D == D))), (38, .bool (((A == A) && (B == B)) && (D == D))), (39, f 39), (40, f 40), (41, f 41), (42, f 42), (43, f 43), (44, .bool ((((A == A) && (B == B)) && (D == D)) && (S == S))), (45, .bool ((((A == A) && (B == B)) && (D == D)) && (S == S))), (46, f 46), (47, .bool (((((A == A) && (B == B)) && (D == D)) && (S == S)) && true)), (4, .bool (((((A == A) && (B == B)) && (D == D)) && (S == S)) && true))]) w) :
    (Code.region id ops true).wp Try.prog Q aZ w0 := by
  obtain ⟨E0, E1, E2, E3, E4, E5, E6, E7, E8, E9, E10, E11, E12, E13, E14, E15, E16, E17, E18, E19, E20, E21, E22, E23⟩ := E
  have hstay : ∀ (i : Nat) (v : Value) (w w1 : World), Mod (fun _ => False) w w1 → (p_rkn g rs rr mm hp A B D S cao n ccap) i v w → (p_rkn g rs rr mm hp A B D S cao n ccap) i v w1 := fun _ _ _ _ _ h => h
  have s0 : ∀ o, ops[0]? = some o → StepI Try.prog ops (p_rkn g rs rr mm hp A B D S cao n ccap) (fun (_ : Array Bool) (_ : Act) (w : World) => Mod (fun _ => False) w0 w) aZ Q 0 o := by
    refine E0.stepI fun o hd ho hg hw => ?_
    intro y w listed hsz hls hun hwt hdown D' hRR hinv K hK
    have f5 : y.eval (Operand.tmp 5) = .int .i64 A   := (hRR 5 (not_of (by rw [hds]; decide))).trans bS5
    exact .inl ⟨wanted_none hg, wp_value (ox_move ho f5) (hK _ _ (fun _ _ _ _ _ _ h => h) rfl hinv)⟩
  have s1 : ∀ o, ops[1]? = some o → StepI Try.prog ops (p_rkn g rs rr mm hp A B D S cao n ccap) (fun (_ : Array Bool) (_ : Act) (w : World) => Mod (fun _ => False) w0 w) aZ Q 1 o := by
    refine E1.stepI fun o hd ho hg hw => ?_
    intro y w listed hsz hls hun hwt hdown D' hRR hinv K hK
    have f8 : y.eval (Operand.tmp 8) = .int .i64 A   := (hRR 8 (not_of (by rw [hds]; decide))).trans bS8
    exact .inl ⟨wanted_none hg, wp_value (ox_move ho f8) (hK _ _ (fun _ _ _ _ _ _ h => h) rfl hinv)⟩
  have s2 : ∀ o, ops[2]? = some o → StepI Try.prog ops (p_rkn g rs rr mm hp A B D S cao n ccap) (fun (_ : Array Bool) (_ : Act) (w : World) => Mod (fun _ => False) w0 w) aZ Q 2 o := by
    refine E2.stepI fun o hd ho hg hw => ?_
    intro y w listed hsz hls hun hwt hdown D' hRR hinv K hK
    have f25 : y.eval (Operand.tmp 25) = .int .i64 A := E0.postI (Post := (p_rkn g rs rr mm hp A B D S cao n ccap)) (a := y) (w := w) D' (hwt 0 (hw 0 (by simp)))
    have f26 : y.eval (Operand.tmp 26) = .int .i64 A := E1.postI (Post := (p_rkn g rs rr mm hp A B D S cao n ccap)) (a := y) (w := w) D' (hwt 1 (hw 1 (by simp)))
    exact .inl ⟨wanted_none hg, wp_value (rx_eql ho f25 f26) (hK _ _ (fun _ _ _ _ _ _ h => h) rfl hinv)⟩
  have s3 : ∀ o, ops[3]? = some o → StepI Try.prog ops (p_rkn g rs rr mm hp A B D S cao n ccap) (fun (_ : Array Bool) (_ : Act) (w : World) => Mod (fun _ => False) w0 w) aZ Q 3 o := by
    refine E3.stepI fun o hd ho hg hw => ?_
    intro y w listed hsz hls hun hwt hdown D' hRR hinv K hK
    have f27 : y.eval (Operand.tmp 27) = .bool (A == A) := E2.postI (Post := (p_rkn g rs rr mm hp A B D S cao n ccap)) (a := y) (w := w) D' (hwt 2 (hw 2 (by simp)))
    exact .inl ⟨wanted_none hg, wp_value (ox_move ho f27) (hK _ _ (fun _ _ _ _ _ _ h => h) rfl hinv)⟩
  have s4 : ∀ o, ops[4]? = some o → StepI Try.prog ops (p_rkn g rs rr mm hp A B D S cao n ccap) (fun (_ : Array Bool) (_ : Act) (w : World) => Mod (fun _ => False) w0 w) aZ Q 4 o := by
    refine E4.stepI fun o hd ho hg hw => ?_
    intro y w listed hsz hls hun hwt hdown D' hRR hinv K hK
    have gv : y.tmps.getD 28 undef = .bool (A == A) := E3.postI (Post := (p_rkn g rs rr mm hp A B D S cao n ccap)) (a := y) (w := w) D' (hwt 3 (hw 3 (by simp)))
    have wt : Region.wanted o (yielded ops y.tmps) = (A == A) := by
      rw [wanted_b E3 hg (by rw [hsz, ha0]; decide) gv]
      cases (A == A) <;> rfl
    cases hc : (A == A)
    · exact .inr ⟨wt.trans hc, hK _ _ (fun _ _ _ _ _ _ h => h) (by show undef = if (A == A) = true then .int .i64 B else undef; rw [hc]; rfl) hinv⟩
    · have f6 : y.eval (Operand.tmp 6) = .int .i64 B   := (hRR 6 (not_of (by rw [hds]; decide))).trans bS6
      exact .inl ⟨wt.trans hc, wp_value (ox_move ho f6) (hK _ _ (fun _ _ _ _ _ _ h => h) (by show _ = if (A == A) = true then .int .i64 B else undef; rw [hc]; rfl) hinv)⟩
  have s5 : ∀ o, ops[5]? = some o → StepI Try.prog ops (p_rkn g rs rr mm hp A B D S cao n ccap) (fun (_ : Array Bool) (_ : Act) (w : World) => Mod (fun _ => False) w0 w) aZ Q 5 o := by
    refine E5.stepI fun o hd ho hg hw => ?_
    intro y w listed hsz hls hun hwt hdown D' hRR hinv K hK
    have gv : y.tmps.getD 28 undef = .bool (A == A) := E3.postI (Post := (p_rkn g rs rr mm hp A B D S cao n ccap)) (a := y) (w := w) D' (hwt 3 (hw 3 (by simp)))
    have wt : Region.wanted o (yielded ops y.tmps) = (A == A) := by
      rw [wanted_b E3 hg (by rw [hsz, ha0]; decide) gv]
      cases (A == A) <;> rfl
    cases hc : (A == A)
    · exact .inr ⟨wt.trans hc, hK _ _ (fun _ _ _ _ _ _ h => h) (by show undef = if (A == A) = true then .int .i64 B else undef; rw [hc]; rfl) hinv⟩
    · have f9 : y.eval (Operand.tmp 9) = .int .i64 B   := (hRR 9 (not_of (by rw [hds]; decide))).trans bS9
      exact .inl ⟨wt.trans hc, wp_value (ox_move ho f9) (hK _ _ (fun _ _ _ _ _ _ h => h) (by show _ = if (A == A) = true then .int .i64 B else undef; rw [hc]; rfl) hinv)⟩
  have s6 : ∀ o, ops[6]? = some o → StepI Try.prog ops (p_rkn g rs rr mm hp A B D S cao n ccap) (fun (_ : Array Bool) (_ : Act) (w : World) => Mod (fun _ => False) w0 w) aZ Q 6 o := by
    refine E6.stepI fun o hd ho hg hw => ?_
    intro y w listed hsz hls hun hwt hdown D' hRR hinv K hK
    have gv : y.tmps.getD 28 undef = .bool (A == A) := E3.postI (Post := (p_rkn g rs rr mm hp A B D S cao n ccap)) (a := y) (w := w) D' (hwt 3 (hw 3 (by simp)))
    have wt : Region.wanted o (yielded ops y.tmps) = (A == A) := by
      rw [wanted_b E3 hg (by rw [hsz, ha0]; decide) gv]
      cases (A == A) <;> rfl
    cases hc : (A == A)
    · exact .inr ⟨wt.trans hc, hK _ _ (fun _ _ _ _ _ _ h => h) (by show undef = if (A == A) = true then .bool (B == B) else undef; rw [hc]; rfl) hinv⟩
    · have f29 : y.eval (Operand.tmp 29) = .int .i64 B := (show y.eval (Operand.tmp 29) = (if (A == A) = true then .int .i64 B else undef) from E4.postI (Post := (p_rkn g rs rr mm hp A B D S cao n ccap)) (a := y) (w := w) D' (hwt 4 (hw 4 (by simp)))).trans (if_pos hc)
      have f30 : y.eval (Operand.tmp 30) = .int .i64 B := (show y.eval (Operand.tmp 30) = (if (A == A) = true then .int .i64 B else undef) from E5.postI (Post := (p_rkn g rs rr mm hp A B D S cao n ccap)) (a := y) (w := w) D' (hwt 5 (hw 5 (by simp)))).trans (if_pos hc)
      exact .inl ⟨wt.trans hc, wp_value (rx_eql ho f29 f30) (hK _ _ (fun _ _ _ _ _ _ h => h) (by show _ = if (A == A) = true then .bool (B == B) else undef; rw [hc]; rfl) hinv)⟩
  have s7 : ∀ o, ops[7]? = some o → StepI Try.prog ops (p_rkn g rs rr mm hp A B D S cao n ccap) (fun (_ : Array Bool) (_ : Act) (w : World) => Mod (fun _ => False) w0 w) aZ Q 7 o := by
    refine E7.stepI fun o hd ho hg hw => ?_
    intro y w listed hsz hls hun hwt hdown D' hRR hinv K hK
    have f28 : y.eval (Operand.tmp 28) = .bool (A == A) := E3.postI (Post := (p_rkn g rs rr mm hp A B D S cao n ccap)) (a := y) (w := w) D' (hwt 3 (hw 3 (by simp)))
    have f31 : y.eval (Operand.tmp 31) = if (A == A) = true then .bool (B == B) else undef := E6.postI (Post := (p_rkn g rs rr mm hp A B D S cao n ccap)) (a := y) (w := w) D' (hwt 6 (hw 6 (by simp)))
    exact .inl ⟨wanted_none hg, wp_value (ox_pick (v := .bool ((A == A) && (B == B))) ho f28 (by rw [f31]; cases (A == A) <;> rfl)) (hK _ _ (fun _ _ _ _ _ _ h => h) rfl hinv)⟩
  have s8 : ∀ o, ops[8]? = some o → StepI Try.prog ops (p_rkn g rs rr mm hp A B D S cao n ccap) (fun (_ : Array Bool) (_ : Act) (w : World) => Mod (fun _ => False) w0 w) aZ Q 8 o := by
    refine E8.stepI fun o hd ho hg hw => ?_
    intro y w listed hsz hls hun hwt hdown D' hRR hinv K hK
    have f32 : y.eval (Operand.tmp 32) = .bool ((A == A) && (B == B)) := E7.postI (Post := (p_rkn g rs rr mm hp A B D S cao n ccap)) (a := y) (w := w) D' (hwt 7 (hw 7 (by simp)))
    exact .inl ⟨wanted_none hg, wp_value (ox_move ho f32) (hK _ _ (fun _ _ _ _ _ _ h => h) rfl hinv)⟩
  have s9 : ∀ o, ops[9]? = some o → StepI Try.prog ops (p_rkn g rs rr mm hp A B D S cao n ccap) (fun (_ : Array Bool) (_ : Act) (w : World) => Mod (fun _ => False) w0 w) aZ Q 9 o := by
    refine E9.stepI fun o hd ho hg hw => ?_
    intro y w listed hsz hls hun hwt hdown D' hRR hinv K hK
    have gv : y.tmps.getD 33 undef = .bool ((A == A) && (B == B)) := E8.postI (Post := (p_rkn g rs rr mm hp A B D S cao n ccap)) (a := y) (w := w) D' (hwt 8 (hw 8 (by simp)))
    have wt : Region.wanted o (yielded ops y.tmps) = ((A == A) && (B == B)) := by
      rw [wanted_b E8 hg (by rw [hsz, ha0]; decide) gv]
      cases ((A == A) && (B == B)) <;> rfl
    cases hc : ((A == A) && (B == B))
    · exact .inr ⟨wt.trans hc, hK _ _ (fun _ _ _ _ _ _ h => h) (by show undef = if ((A == A) && (B == B)) = true then .int .i64 D else undef; rw [hc]; rfl) hinv⟩
    · have f7 : y.eval (Operand.tmp 7) = .int .i64 D   := (hRR 7 (not_of (by rw [hds]; decide))).trans bS7
      exact .inl ⟨wt.trans hc, wp_value (ox_move ho f7) (hK _ _ (fun _ _ _ _ _ _ h => h) (by show _ = if ((A == A) && (B == B)) = true then .int .i64 D else undef; rw [hc]; rfl) hinv)⟩
  have s10 : ∀ o, ops[10]? = some o → StepI Try.prog ops (p_rkn g rs rr mm hp A B D S cao n ccap) (fun (_ : Array Bool) (_ : Act) (w : World) => Mod (fun _ => False) w0 w) aZ Q 10 o := by
    refine E10.stepI fun o hd ho hg hw => ?_
    intro y w listed hsz hls hun hwt hdown D' hRR hinv K hK
    have gv : y.tmps.getD 33 undef = .bool ((A == A) && (B == B)) := E8.postI (Post := (p_rkn g rs rr mm hp A B D S cao n ccap)) (a := y) (w := w) D' (hwt 8 (hw 8 (by simp)))
    have wt : Region.wanted o (yielded ops y.tmps) = ((A == A) && (B == B)) := by
      rw [wanted_b E8 hg (by rw [hsz, ha0]; decide) gv]
      cases ((A == A) && (B == B)) <;> rfl
    cases hc : ((A == A) && (B == B))
    · exact .inr ⟨wt.trans hc, hK _ _ (fun _ _ _ _ _ _ h => h) (by show undef = if ((A == A) && (B == B)) = true then .int .i64 D else undef; rw [hc]; rfl) hinv⟩
    · have f10 : y.eval (Operand.tmp 10) = .int .i64 D   := (hRR 10 (not_of (by rw [hds]; decide))).trans bS10
      exact .inl ⟨wt.trans hc, wp_value (ox_move ho f10) (hK _ _ (fun _ _ _ _ _ _ h => h) (by show _ = if ((A == A) && (B == B)) = true then .int .i64 D else undef; rw [hc]; rfl) hinv)⟩
  have s11 : ∀ o, ops[11]? = some o → StepI Try.prog ops (p_rkn g rs rr mm hp A B D S cao n ccap) (fun (_ : Array Bool) (_ : Act) (w : World) => Mod (fun _ => False) w0 w) aZ Q 11 o := by
    refine E11.stepI fun o hd ho hg hw => ?_
    intro y w listed hsz hls hun hwt hdown D' hRR hinv K hK
    have gv : y.tmps.getD 33 undef = .bool ((A == A) && (B == B)) := E8.postI (Post := (p_rkn g rs rr mm hp A B D S cao n ccap)) (a := y) (w := w) D' (hwt 8 (hw 8 (by simp)))
    have wt : Region.wanted o (yielded ops y.tmps) = ((A == A) && (B == B)) := by
      rw [wanted_b E8 hg (by rw [hsz, ha0]; decide) gv]
      cases ((A == A) && (B == B)) <;> rfl
    cases hc : ((A == A) && (B == B))
    · exact .inr ⟨wt.trans hc, hK _ _ (fun _ _ _ _ _ _ h => h) (by show undef = if ((A == A) && (B == B)) = true then .bool (D == D) else undef; rw [hc]; rfl) hinv⟩
    · have f34 : y.eval (Operand.tmp 34) = .int .i64 D := (show y.eval (Operand.tmp 34) = (if ((A == A) && (B == B)) = true then .int .i64 D else undef) from E9.postI (Post := (p_rkn g rs rr mm hp A B D S cao n ccap)) (a := y) (w := w) D' (hwt 9 (hw 9 (by simp)))).trans (if_pos hc)
      have f35 : y.eval (Operand.tmp 35) = .int .i64 D := (show y.eval (Operand.tmp 35) = (if ((A == A) && (B == B)) = true then .int .i64 D else undef) from E10.postI (Post := (p_rkn g rs rr mm hp A B D S cao n ccap)) (a := y) (w := w) D' (hwt 10 (hw 10 (by simp)))).trans (if_pos hc)
      exact .inl ⟨wt.trans hc, wp_value (rx_eql ho f34 f35) (hK _ _ (fun _ _ _ _ _ _ h => h) (by show _ = if ((A == A) && (B == B)) = true then .bool (D == D) else undef; rw [hc]; rfl) hinv)⟩
  have s12 : ∀ o, ops[12]? = some o → StepI Try.prog ops (p_rkn g rs rr mm hp A B D S cao n ccap) (fun (_ : Array Bool) (_ : Act) (w : World) => Mod (fun _ => False) w0 w) aZ Q 12 o := by
    refine E12.stepI fun o hd ho hg hw => ?_
    intro y w listed hsz hls hun hwt hdown D' hRR hinv K hK
    have f33 : y.eval (Operand.tmp 33) = .bool ((A == A) && (B == B)) := E8.postI (Post := (p_rkn g rs rr mm hp A B D S cao n ccap)) (a := y) (w := w) D' (hwt 8 (hw 8 (by simp)))
    have f36 : y.eval (Operand.tmp 36) = if ((A == A) && (B == B)) = true then .bool (D == D) else undef := E11.postI (Post := (p_rkn g rs rr mm hp A B D S cao n ccap)) (a := y) (w := w) D' (hwt 11 (hw 11 (by simp)))
    exact .inl ⟨wanted_none hg, wp_value (ox_pick (v := .bool (((A == A) && (B == B)) && (D == D))) ho f33 (by rw [f36]; cases ((A == A) && (B == B)) <;> rfl)) (hK _ _ (fun _ _ _ _ _ _ h => h) rfl hinv)⟩
  have s13 : ∀ o, ops[13]? = some o → StepI Try.prog ops (p_rkn g rs rr mm hp A B D S cao n ccap) (fun (_ : Array Bool) (_ : Act) (w : World) => Mod (fun _ => False) w0 w) aZ Q 13 o := by
    refine E13.stepI fun o hd ho hg hw => ?_
    intro y w listed hsz hls hun hwt hdown D' hRR hinv K hK
    have f37 : y.eval (Operand.tmp 37) = .bool (((A == A) && (B == B)) && (D == D)) := E12.postI (Post := (p_rkn g rs rr mm hp A B D S cao n ccap)) (a := y) (w := w) D' (hwt 12 (hw 12 (by simp)))
    exact .inl ⟨wanted_none hg, wp_value (ox_move ho f37) (hK _ _ (fun _ _ _ _ _ _ h => h) rfl hinv)⟩
  have s14 : ∀ o, ops[14]? = some o → StepI Try.prog ops (p_rkn g rs rr mm hp A B D S cao n ccap) (fun (_ : Array Bool) (_ : Act) (w : World) => Mod (fun _ => False) w0 w) aZ Q 14 o := by
    refine E14.stepI fun o hd ho hg hw => ?_
    intro y w listed hsz hls hun hwt hdown D' hRR hinv K hK
    have gv : y.tmps.getD 38 undef = .bool (((A == A) && (B == B)) && (D == D)) := E13.postI (Post := (p_rkn g rs rr mm hp A B D S cao n ccap)) (a := y) (w := w) D' (hwt 13 (hw 13 (by simp)))
    have wt : Region.wanted o (yielded ops y.tmps) = (((A == A) && (B == B)) && (D == D)) := by
      rw [wanted_b E13 hg (by rw [hsz, ha0]; decide) gv]
      cases (((A == A) && (B == B)) && (D == D)) <;> rfl
    cases hc : (((A == A) && (B == B)) && (D == D))
    · exact .inr ⟨wt.trans hc, hK _ _ (fun _ _ _ _ _ _ h => h) (by show undef = if (((A == A) && (B == B)) && (D == D)) = true then .agg #[.int .i64 rs, .int .i64 rr, .int .i64 mm, .int .i64 hp, .slice cao n ccap] else undef; rw [hc]; rfl) hinv⟩
    · have f2 : y.eval (Operand.tmp 2) = .pointer (some ⟨g, 0, none⟩)   := (hRR 2 (not_of (by rw [hds]; decide))).trans bS2
      have h0 := hinv.cell k_g_0 (fun h => h)
      have h1 := hinv.cell k_g_1 (fun h => h)
      have h2 := hinv.cell k_g_2 (fun h => h)
      have h3 := hinv.cell k_g_3 (fun h => h)
      have h4 := hinv.cell k_g_4 (fun h => h)
      exact .inl ⟨wt.trans hc, wp_value (ox_load (v := .agg #[.int .i64 rs, .int .i64 rr, .int .i64 mm, .int .i64 hp, .slice cao n ccap]) ho f2 (by simp [go_sem, h0, h1, h2, h3, h4])) (hK _ _ (fun _ _ _ _ _ _ h => h) (by show _ = if (((A == A) && (B == B)) && (D == D)) = true then .agg #[.int .i64 rs, .int .i64 rr, .int .i64 mm, .int .i64 hp, .slice cao n ccap] else undef; rw [hc]; rfl) hinv)⟩
  have s15 : ∀ o, ops[15]? = some o → StepI Try.prog ops (p_rkn g rs rr mm hp A B D S cao n ccap) (fun (_ : Array Bool) (_ : Act) (w : World) => Mod (fun _ => False) w0 w) aZ Q 15 o := by
    refine E15.stepI fun o hd ho hg hw => ?_
    intro y w listed hsz hls hun hwt hdown D' hRR hinv K hK
    have gv : y.tmps.getD 38 undef = .bool (((A == A) && (B == B)) && (D == D)) := E13.postI (Post := (p_rkn g rs rr mm hp A B D S cao n ccap)) (a := y) (w := w) D' (hwt 13 (hw 13 (by simp)))
    have wt : Region.wanted o (yielded ops y.tmps) = (((A == A) && (B == B)) && (D == D)) := by
      rw [wanted_b E13 hg (by rw [hsz, ha0]; decide) gv]
      cases (((A == A) && (B == B)) && (D == D)) <;> rfl
    cases hc : (((A == A) && (B == B)) && (D == D))
    · exact .inr ⟨wt.trans hc, hK _ _ (fun _ _ _ _ _ _ h => h) (by show undef = if (((A == A) && (B == B)) && (D == D)) = true then .int .i64 S else undef; rw [hc]; rfl) hinv⟩
    · have f39 : y.eval (Operand.tmp 39) = .agg #[.int .i64 rs, .int .i64 rr, .int .i64 mm, .int .i64 hp, .slice cao n ccap] := (show y.eval (Operand.tmp 39) = (if (((A == A) && (B == B)) && (D == D)) = true then .agg #[.int .i64 rs, .int .i64 rr, .int .i64 mm, .int .i64 hp, .slice cao n ccap] else undef) from E14.postI (Post := (p_rkn g rs rr mm hp A B D S cao n ccap)) (a := y) (w := w) D' (hwt 14 (hw 14 (by simp)))).trans (if_pos hc)
      refine .inl ⟨wt.trans hc, wp_enter (f := 23) (args := #[.agg #[.int .i64 rs, .int .i64 rr, .int .i64 mm, .int .i64 hp, .slice cao n ccap]]) ?_ (H15 w  hinv ) ?_⟩
      · have h := exec_call1 y.eval (fun args w => by simp [go_sem]) rfl ho (w := w)
        rw [f39] at h
        exact h
      · rintro e w' ⟨rfl, hm⟩
        exact ⟨_, rfl, hK _ _ (fun j oj d _ _ _ h => hstay _ _ _ _ hm h) (by show _ = if (((A == A) && (B == B)) && (D == D)) = true then .int .i64 S else undef; rw [hc]; rfl) (hinv.and hm)⟩
  have s16 : ∀ o, ops[16]? = some o → StepI Try.prog ops (p_rkn g rs rr mm hp A B D S cao n ccap) (fun (_ : Array Bool) (_ : Act) (w : World) => Mod (fun _ => False) w0 w) aZ Q 16 o := by
    refine E16.stepI fun o hd ho hg hw => ?_
    intro y w listed hsz hls hun hwt hdown D' hRR hinv K hK
    have gv : y.tmps.getD 38 undef = .bool (((A == A) && (B == B)) && (D == D)) := E13.postI (Post := (p_rkn g rs rr mm hp A B D S cao n ccap)) (a := y) (w := w) D' (hwt 13 (hw 13 (by simp)))
    have wt : Region.wanted o (yielded ops y.tmps) = (((A == A) && (B == B)) && (D == D)) := by
      rw [wanted_b E13 hg (by rw [hsz, ha0]; decide) gv]
      cases (((A == A) && (B == B)) && (D == D)) <;> rfl
    cases hc : (((A == A) && (B == B)) && (D == D))
    · exact .inr ⟨wt.trans hc, hK _ _ (fun _ _ _ _ _ _ h => h) (by show undef = if (((A == A) && (B == B)) && (D == D)) = true then .agg #[.int .i64 rs, .int .i64 rr, .int .i64 mm, .int .i64 hp, .slice cao n ccap] else undef; rw [hc]; rfl) hinv⟩
    · have f2 : y.eval (Operand.tmp 2) = .pointer (some ⟨g, 0, none⟩)   := (hRR 2 (not_of (by rw [hds]; decide))).trans bS2
      have h0 := hinv.cell k_g_0 (fun h => h)
      have h1 := hinv.cell k_g_1 (fun h => h)
      have h2 := hinv.cell k_g_2 (fun h => h)
      have h3 := hinv.cell k_g_3 (fun h => h)
      have h4 := hinv.cell k_g_4 (fun h => h)
      exact .inl ⟨wt.trans hc, wp_value (ox_load (v := .agg #[.int .i64 rs, .int .i64 rr, .int .i64 mm, .int .i64 hp, .slice cao n ccap]) ho f2 (by simp [go_sem, h0, h1, h2, h3, h4])) (hK _ _ (fun _ _ _ _ _ _ h => h) (by show _ = if (((A == A) && (B == B)) && (D == D)) = true then .agg #[.int .i64 rs, .int .i64 rr, .int .i64 mm, .int .i64 hp, .slice cao n ccap] else undef; rw [hc]; rfl) hinv)⟩
  have s17 : ∀ o, ops[17]? = some o → StepI Try.prog ops (p_rkn g rs rr mm hp A B D S cao n ccap) (fun (_ : Array Bool) (_ : Act) (w : World) => Mod (fun _ => False) w0 w) aZ Q 17 o := by
    refine E17.stepI fun o hd ho hg hw => ?_
    intro y w listed hsz hls hun hwt hdown D' hRR hinv K hK
    have gv : y.tmps.getD 38 undef = .bool (((A == A) && (B == B)) && (D == D)) := E13.postI (Post := (p_rkn g rs rr mm hp A B D S cao n ccap)) (a := y) (w := w) D' (hwt 13 (hw 13 (by simp)))
    have wt : Region.wanted o (yielded ops y.tmps) = (((A == A) && (B == B)) && (D == D)) := by
      rw [wanted_b E13 hg (by rw [hsz, ha0]; decide) gv]
      cases (((A == A) && (B == B)) && (D == D)) <;> rfl
    cases hc : (((A == A) && (B == B)) && (D == D))
    · exact .inr ⟨wt.trans hc, hK _ _ (fun _ _ _ _ _ _ h => h) (by show undef = if (((A == A) && (B == B)) && (D == D)) = true then .int .i64 S else undef; rw [hc]; rfl) hinv⟩
    · have f41 : y.eval (Operand.tmp 41) = .agg #[.int .i64 rs, .int .i64 rr, .int .i64 mm, .int .i64 hp, .slice cao n ccap] := (show y.eval (Operand.tmp 41) = (if (((A == A) && (B == B)) && (D == D)) = true then .agg #[.int .i64 rs, .int .i64 rr, .int .i64 mm, .int .i64 hp, .slice cao n ccap] else undef) from E16.postI (Post := (p_rkn g rs rr mm hp A B D S cao n ccap)) (a := y) (w := w) D' (hwt 16 (hw 16 (by simp)))).trans (if_pos hc)
      refine .inl ⟨wt.trans hc, wp_enter (f := 24) (args := #[.agg #[.int .i64 rs, .int .i64 rr, .int .i64 mm, .int .i64 hp, .slice cao n ccap]]) ?_ (H17 w  hinv ) ?_⟩
      · have h := exec_call1 y.eval (fun args w => by simp [go_sem]) rfl ho (w := w)
        rw [f41] at h
        exact h
      · rintro e w' ⟨rfl, hm⟩
        exact ⟨_, rfl, hK _ _ (fun j oj d _ _ _ h => hstay _ _ _ _ hm h) (by show _ = if (((A == A) && (B == B)) && (D == D)) = true then .int .i64 S else undef; rw [hc]; rfl) (hinv.and hm)⟩
  have s18 : ∀ o, ops[18]? = some o → StepI Try.prog ops (p_rkn g rs rr mm hp A B D S cao n ccap) (fun (_ : Array Bool) (_ : Act) (w : World) => Mod (fun _ => False) w0 w) aZ Q 18 o := by
    refine E18.stepI fun o hd ho hg hw => ?_
    intro y w listed hsz hls hun hwt hdown D' hRR hinv K hK
    have gv : y.tmps.getD 38 undef = .bool (((A == A) && (B == B)) && (D == D)) := E13.postI (Post := (p_rkn g rs rr mm hp A B D S cao n ccap)) (a := y) (w := w) D' (hwt 13 (hw 13 (by simp)))
    have wt : Region.wanted o (yielded ops y.tmps) = (((A == A) && (B == B)) && (D == D)) := by
      rw [wanted_b E13 hg (by rw [hsz, ha0]; decide) gv]
      cases (((A == A) && (B == B)) && (D == D)) <;> rfl
    cases hc : (((A == A) && (B == B)) && (D == D))
    · exact .inr ⟨wt.trans hc, hK _ _ (fun _ _ _ _ _ _ h => h) (by show undef = if (((A == A) && (B == B)) && (D == D)) = true then .bool (S == S) else undef; rw [hc]; rfl) hinv⟩
    · have f40 : y.eval (Operand.tmp 40) = .int .i64 S := (show y.eval (Operand.tmp 40) = (if (((A == A) && (B == B)) && (D == D)) = true then .int .i64 S else undef) from E15.postI (Post := (p_rkn g rs rr mm hp A B D S cao n ccap)) (a := y) (w := w) D' (hwt 15 (hw 15 (by simp)))).trans (if_pos hc)
      have f42 : y.eval (Operand.tmp 42) = .int .i64 S := (show y.eval (Operand.tmp 42) = (if (((A == A) && (B == B)) && (D == D)) = true then .int .i64 S else undef) from E17.postI (Post := (p_rkn g rs rr mm hp A B D S cao n ccap)) (a := y) (w := w) D' (hwt 17 (hw 17 (by simp)))).trans (if_pos hc)
      exact .inl ⟨wt.trans hc, wp_value (rx_eql ho f40 f42) (hK _ _ (fun _ _ _ _ _ _ h => h) (by show _ = if (((A == A) && (B == B)) && (D == D)) = true then .bool (S == S) else undef; rw [hc]; rfl) hinv)⟩
  have s19 : ∀ o, ops[19]? = some o → StepI Try.prog ops (p_rkn g rs rr mm hp A B D S cao n ccap) (fun (_ : Array Bool) (_ : Act) (w : World) => Mod (fun _ => False) w0 w) aZ Q 19 o := by
    refine E19.stepI fun o hd ho hg hw => ?_
    intro y w listed hsz hls hun hwt hdown D' hRR hinv K hK
    have f38 : y.eval (Operand.tmp 38) = .bool (((A == A) && (B == B)) && (D == D)) := E13.postI (Post := (p_rkn g rs rr mm hp A B D S cao n ccap)) (a := y) (w := w) D' (hwt 13 (hw 13 (by simp)))
    have f43 : y.eval (Operand.tmp 43) = if (((A == A) && (B == B)) && (D == D)) = true then .bool (S == S) else undef := E18.postI (Post := (p_rkn g rs rr mm hp A B D S cao n ccap)) (a := y) (w := w) D' (hwt 18 (hw 18 (by simp)))
    exact .inl ⟨wanted_none hg, wp_value (ox_pick (v := .bool ((((A == A) && (B == B)) && (D == D)) && (S == S))) ho f38 (by rw [f43]; cases (((A == A) && (B == B)) && (D == D)) <;> rfl)) (hK _ _ (fun _ _ _ _ _ _ h => h) rfl hinv)⟩
  have s20 : ∀ o, ops[20]? = some o → StepI Try.prog ops (p_rkn g rs rr mm hp A B D S cao n ccap) (fun (_ : Array Bool) (_ : Act) (w : World) => Mod (fun _ => False) w0 w) aZ Q 20 o := by
    refine E20.stepI fun o hd ho hg hw => ?_
    intro y w listed hsz hls hun hwt hdown D' hRR hinv K hK
    have f44 : y.eval (Operand.tmp 44) = .bool ((((A == A) && (B == B)) && (D == D)) && (S == S)) := E19.postI (Post := (p_rkn g rs rr mm hp A B D S cao n ccap)) (a := y) (w := w) D' (hwt 19 (hw 19 (by simp)))
    exact .inl ⟨wanted_none hg, wp_value (ox_move ho f44) (hK _ _ (fun _ _ _ _ _ _ h => h) rfl hinv)⟩
  have s21 : ∀ o, ops[21]? = some o → StepI Try.prog ops (p_rkn g rs rr mm hp A B D S cao n ccap) (fun (_ : Array Bool) (_ : Act) (w : World) => Mod (fun _ => False) w0 w) aZ Q 21 o := by
    refine E21.stepI fun o hd ho hg hw => ?_
    intro y w listed hsz hls hun hwt hdown D' hRR hinv K hK
    have gv : y.tmps.getD 45 undef = .bool ((((A == A) && (B == B)) && (D == D)) && (S == S)) := E20.postI (Post := (p_rkn g rs rr mm hp A B D S cao n ccap)) (a := y) (w := w) D' (hwt 20 (hw 20 (by simp)))
    have wt : Region.wanted o (yielded ops y.tmps) = ((((A == A) && (B == B)) && (D == D)) && (S == S)) := by
      rw [wanted_b E20 hg (by rw [hsz, ha0]; decide) gv]
      cases ((((A == A) && (B == B)) && (D == D)) && (S == S)) <;> rfl
    cases hc : ((((A == A) && (B == B)) && (D == D)) && (S == S))
    · exact .inr ⟨wt.trans hc, hK _ _ (fun _ _ _ _ _ _ h => h) (by show undef = if ((((A == A) && (B == B)) && (D == D)) && (S == S)) = true then .bool true else undef; rw [hc]; rfl) hinv⟩
    · refine .inl ⟨wt.trans hc, wp_enter (f := 20) (args := #[]) ?_ (H21 w  hinv ) ?_⟩
      · have h := exec_call0 y.eval (fun args w => by simp [go_sem]) rfl ho (w := w)
        exact h
      · rintro e w' ⟨rfl, hm⟩
        exact ⟨_, rfl, hK _ _ (fun j oj d _ _ _ h => hstay _ _ _ _ hm h) (by show _ = if ((((A == A) && (B == B)) && (D == D)) && (S == S)) = true then .bool true else undef; rw [hc]; rfl) (hinv.and hm)⟩
  have s22 : ∀ o, ops[22]? = some o → StepI Try.prog ops (p_rkn g rs rr mm hp A B D S cao n ccap) (fun (_ : Array Bool) (_ : Act) (w : World) => Mod (fun _ => False) w0 w) aZ Q 22 o := by
    refine E22.stepI fun o hd ho hg hw => ?_
    intro y w listed hsz hls hun hwt hdown D' hRR hinv K hK
    have f45 : y.eval (Operand.tmp 45) = .bool ((((A == A) && (B == B)) && (D == D)) && (S == S)) := E20.postI (Post := (p_rkn g rs rr mm hp A B D S cao n ccap)) (a := y) (w := w) D' (hwt 20 (hw 20 (by simp)))
    have f46 : y.eval (Operand.tmp 46) = if ((((A == A) && (B == B)) && (D == D)) && (S == S)) = true then .bool true else undef := E21.postI (Post := (p_rkn g rs rr mm hp A B D S cao n ccap)) (a := y) (w := w) D' (hwt 21 (hw 21 (by simp)))
    exact .inl ⟨wanted_none hg, wp_value (ox_pick (v := .bool (((((A == A) && (B == B)) && (D == D)) && (S == S)) && true)) ho f45 (by rw [f46]; cases ((((A == A) && (B == B)) && (D == D)) && (S == S)) <;> rfl)) (hK _ _ (fun _ _ _ _ _ _ h => h) rfl hinv)⟩
  have s23 : ∀ o, ops[23]? = some o → StepI Try.prog ops (p_rkn g rs rr mm hp A B D S cao n ccap) (fun (_ : Array Bool) (_ : Act) (w : World) => Mod (fun _ => False) w0 w) aZ Q 23 o := by
    refine E23.stepI fun o hd ho hg hw => ?_
    intro y w listed hsz hls hun hwt hdown D' hRR hinv K hK
    have f47 : y.eval (Operand.tmp 47) = .bool (((((A == A) && (B == B)) && (D == D)) && (S == S)) && true) := E22.postI (Post := (p_rkn g rs rr mm hp A B D S cao n ccap)) (a := y) (w := w) D' (hwt 22 (hw 22 (by simp)))
    exact .inl ⟨wanted_none hg, wp_value (rx_assign ho f47) (hK _ _ (fun _ _ _ _ _ _ h => h) rfl hinv)⟩
  refine region_freeI (Post := (p_rkn g rs rr mm hp A B D S cao n ccap)) (Inv := (fun (_ : Array Bool) (_ : Act) (w : World) => Mod (fun _ => False) w0 w)) mixed (low_of hlow) (fun i o ho => by rw [ha0]; exact dst_of (by rw [hds]; decide) i o ho) (inj_of hnd) (Mod.refl _ _).drew ?_ ?_
  · intro i o ho
    have hi : i < 24 := by
      rw [← hN]
      rcases Nat.lt_or_ge i ops.size with h | h
      · exact h
      · rw [Array.getElem?_eq_none h] at ho; cases ho
    clear hend
    by_cases e0 : i = 0
    · subst e0; exact s0 o ho
    by_cases e1 : i = 1
    · subst e1; exact s1 o ho
    by_cases e2 : i = 2
    · subst e2; exact s2 o ho
    by_cases e3 : i = 3
    · subst e3; exact s3 o ho
    by_cases e4 : i = 4
    · subst e4; exact s4 o ho
    by_cases e5 : i = 5
    · subst e5; exact s5 o ho
    by_cases e6 : i = 6
    · subst e6; exact s6 o ho
    by_cases e7 : i = 7
    · subst e7; exact s7 o ho
    by_cases e8 : i = 8
    · subst e8; exact s8 o ho
    by_cases e9 : i = 9
    · subst e9; exact s9 o ho
    by_cases e10 : i = 10
    · subst e10; exact s10 o ho
    by_cases e11 : i = 11
    · subst e11; exact s11 o ho
    by_cases e12 : i = 12
    · subst e12; exact s12 o ho
    by_cases e13 : i = 13
    · subst e13; exact s13 o ho
    by_cases e14 : i = 14
    · subst e14; exact s14 o ho
    by_cases e15 : i = 15
    · subst e15; exact s15 o ho
    by_cases e16 : i = 16
    · subst e16; exact s16 o ho
    by_cases e17 : i = 17
    · subst e17; exact s17 o ho
    by_cases e18 : i = 18
    · subst e18; exact s18 o ho
    by_cases e19 : i = 19
    · subst e19; exact s19 o ho
    by_cases e20 : i = 20
    · subst e20; exact s20 o ho
    by_cases e21 : i = 21
    · subst e21; exact s21 o ho
    by_cases e22 : i = 22
    · subst e22; exact s22 o ho
    by_cases e23 : i = 23
    · subst e23; exact s23 o ho
    omega
  · intro y w listed hsz hdf hls hall hinv hPO hRE
    have e : y = puts aZ [(25, .int .i64 A), (26, .int .i64 A), (27, .bool (A == A)), (28, .bool (A == A)), (29, y.tmps.getD 29 undef), (30, y.tmps.getD 30 undef), (31, y.tmps.getD 31 undef), (32, .bool ((A == A) && (B == B))), (33, .bool ((A == A) && (B == B))), (34, y.tmps.getD 34 undef), (35, y.tmps.getD 35 undef), (36, y.tmps.getD 36 undef), (37, .bool (((A == A) && (B == B)) && (D == D))), (38, .bool (((A == A) && (B == B)) && (D == D))), (39, y.tmps.getD 39 undef), (40, y.tmps.getD 40 undef), (41, y.tmps.getD 41 undef), (42, y.tmps.getD 42 undef), (43, y.tmps.getD 43 undef), (44, .bool ((((A == A) && (B == B)) && (D == D)) && (S == S))), (45, .bool ((((A == A) && (B == B)) && (D == D)) && (S == S))), (46, y.tmps.getD 46 undef), (47, .bool (((((A == A) && (B == B)) && (D == D)) && (S == S)) && true)), (4, .bool (((((A == A) && (B == B)) && (D == D)) && (S == S)) && true))] := by
      refine eq_puts hsz hdf (nodup_of (D := [some 25, some 26, some 27, some 28, some 29, some 30, some 31, some 32, some 33, some 34, some 35, some 36, some 37, some 38, some 39, some 40, some 41, some 42, some 43, some 44, some 45, some 46, some 47, some 4]) rfl (by decide)) (by rw [ha0]; simp) ?_ ?_
      · intro q hq
        simp only [List.mem_cons, List.not_mem_nil, or_false] at hq
        rcases hq with rfl | rfl | rfl | rfl | rfl | rfl | rfl | rfl | rfl | rfl | rfl | rfl | rfl | rfl | rfl | rfl | rfl | rfl | rfl | rfl | rfl | rfl | rfl | rfl
        · obtain ⟨o, h1, h2, _⟩ := E0.ex
          exact hPO 0 o _ h1 h2
        · obtain ⟨o, h1, h2, _⟩ := E1.ex
          exact hPO 1 o _ h1 h2
        · obtain ⟨o, h1, h2, _⟩ := E2.ex
          exact hPO 2 o _ h1 h2
        · obtain ⟨o, h1, h2, _⟩ := E3.ex
          exact hPO 3 o _ h1 h2
        · rfl
        · rfl
        · rfl
        · obtain ⟨o, h1, h2, _⟩ := E7.ex
          exact hPO 7 o _ h1 h2
        · obtain ⟨o, h1, h2, _⟩ := E8.ex
          exact hPO 8 o _ h1 h2
        · rfl
        · rfl
        · rfl
        · obtain ⟨o, h1, h2, _⟩ := E12.ex
          exact hPO 12 o _ h1 h2
        · obtain ⟨o, h1, h2, _⟩ := E13.ex
          exact hPO 13 o _ h1 h2
        · rfl
        · rfl
        · rfl
        · rfl
        · rfl
        · obtain ⟨o, h1, h2, _⟩ := E19.ex
          exact hPO 19 o _ h1 h2
        · obtain ⟨o, h1, h2, _⟩ := E20.ex
          exact hPO 20 o _ h1 h2
        · rfl
        · obtain ⟨o, h1, h2, _⟩ := E22.ex
          exact hPO 22 o _ h1 h2
        · obtain ⟨o, h1, h2, _⟩ := E23.ex
          exact hPO 23 o _ h1 h2
      · intro t ht
        exact hRE t (not_of (by rw [hds]; exact not_cont rfl ht))
    rw [e]
    exact hend (fun d => y.tmps.getD d undef) w hinv
set_option maxRecDepth 100000 in
set_option maxHeartbeats 20000000 in
theorem knows_walk (v : Value) (c : Cm) (q s : Int) (w : World) (h : Cv w v c) (hmm : I64 c.mem) (hhp : I64 c.hop) : Calls Try.prog 4 #[v, .agg #[.int .i64 q, .int .i64 s]] w fun e w' => e = .returned (.bool true) ∧ Mod (fun _ => False) w w' := by
  obtain ⟨rs, rr, mm, hp, ce⟩ := c
  obtain ⟨cao, ccap, rfl, hs⟩ := h.form
  simp only at *
  have HK := fun W h => Kin_any W (.agg #[.int .i64 rs, .int .i64 rr, .int .i64 mm, .int .i64 hp, .slice cao ce.length ccap]) ⟨rs, rr, mm, hp, ce⟩ q s h hmm
  have HS := fun W h => Stamp_any W (.agg #[.int .i64 rs, .int .i64 rr, .int .i64 mm, .int .i64 hp, .slice cao ce.length ccap]) ⟨rs, rr, mm, hp, ce⟩ h hmm
  have HK2 := fun W h => dKin W (.agg #[.int .i64 rs, .int .i64 rr, .int .i64 mm, .int .i64 hp, .slice cao ce.length ccap]) ⟨rs, rr, mm, hp, ce⟩ q s h hhp
  have HS2 := fun W h => dStamp W (.agg #[.int .i64 rs, .int .i64 rr, .int .i64 mm, .int .i64 hp, .slice cao ce.length ccap]) ⟨rs, rr, mm, hp, ce⟩ h hhp
  have hM := ((Mod.refl (fun _ => False) w).alloc (.cells #[.int .i64 rs, .int .i64 rr, .int .i64 mm, .int .i64 hp, .slice cao ce.length ccap] 26)).alloc (.cells #[.int .i64 q, .int .i64 s] 23)
  have hB := (Bk.new w #[.int .i64 rs, .int .i64 rr, .int .i64 mm, .int .i64 hp, .slice cao ce.length ccap] 26).mod ((Mod.refl (fun _ => False) _).alloc (.cells #[.int .i64 q, .int .i64 s] 23)) (fun h => h)
  have hB1 := Bk.new (w.alloc (.cells #[.int .i64 rs, .int .i64 rr, .int .i64 mm, .int .i64 hp, .slice cao ce.length ccap] 26)) #[.int .i64 q, .int .i64 s] 23
  simp only [World.size_alloc] at hB1
  replace h := h.keep hM
  generalize stC ⟨rs, rr, mm, hp, ce⟩ = S at HS HS2
  generalize kinC ⟨rs, rr, mm, hp, ce⟩ q s = KK at HK HK2
  obtain ⟨A, B, D⟩ := KK
  simp only at HK HK2
  go_enter Try.func4, Try.ntmps4
  obtain ⟨W1, hW⟩ : ∃ W1, W1 = (w.alloc (.cells #[.int .i64 rs, .int .i64 rr, .int .i64 mm, .int .i64 hp, .slice cao ce.length ccap] 26)).alloc (.cells #[.int .i64 q, .int .i64 s] 23) := ⟨_, rfl⟩
  have a0 := hB.cellv (j := 0) rfl
  have a1 := hB.cellv (j := 1) rfl
  have a2 := hB.cellv (j := 2) rfl
  have a3 := hB.cellv (j := 3) rfl
  have a4 := hB.cellv (j := 4) rfl
  have b0 := hB1.cellv (j := 0) rfl
  have b1 := hB1.cellv (j := 1) rfl
  clear hW hs
  go_wp2_with (fail)
  refine (HK _ h).mono ?_
  rintro e w1 ⟨rfl, hm1⟩
  clear a0 a1 a2 a3 a4 b0 b1 HK
  replace hM := hM.and hm1
  replace hB := hB.mod hm1 (fun h => h)
  replace hB1 := hB1.mod hm1 (fun h => h)
  replace h := h.keep hm1
  have a0 := hB.cellv (j := 0) rfl
  have a1 := hB.cellv (j := 1) rfl
  have a2 := hB.cellv (j := 2) rfl
  have a3 := hB.cellv (j := 3) rfl
  have a4 := hB.cellv (j := 4) rfl
  have b0 := hB1.cellv (j := 0) rfl
  have b1 := hB1.cellv (j := 1) rfl
  go_wp2_with (fail)
  refine (HK2 _ h).mono ?_
  rintro e w2 ⟨rfl, hm2⟩
  clear a0 a1 a2 a3 a4 b0 b1 HK2
  replace hM := hM.and hm2
  replace hB := hB.mod hm2 (fun h => h)
  replace h := h.keep hm2
  clear hB1 hm1 hm2
  go_upto_region 3 with fail
  refine rkn w.heap.size rs rr mm hp (A : Int) B D S cao ce.length ccap ⟨⟨⟨_, rfl, rfl, rfl, rfl, by decide +kernel⟩⟩, ⟨⟨_, rfl, rfl, rfl, rfl, by decide +kernel⟩⟩, ⟨⟨_, rfl, rfl, rfl, rfl, by decide +kernel⟩⟩, ⟨⟨_, rfl, rfl, rfl, rfl, by decide +kernel⟩⟩, ⟨⟨_, rfl, rfl, rfl, rfl, by decide +kernel⟩⟩, ⟨⟨_, rfl, rfl, rfl, rfl, by decide +kernel⟩⟩, ⟨⟨_, rfl, rfl, rfl, rfl, by decide +kernel⟩⟩, ⟨⟨_, rfl, rfl, rfl, rfl, by decide +kernel⟩⟩, ⟨⟨_, rfl, rfl, rfl, rfl, by decide +kernel⟩⟩, ⟨⟨_, rfl, rfl, rfl, rfl, by decide +kernel⟩⟩, ⟨⟨_, rfl, rfl, rfl, rfl, by decide +kernel⟩⟩, ⟨⟨_, rfl, rfl, rfl, rfl, by decide +kernel⟩⟩, ⟨⟨_, rfl, rfl, rfl, rfl, by decide +kernel⟩⟩, ⟨⟨_, rfl, rfl, rfl, rfl, by decide +kernel⟩⟩, ⟨⟨_, rfl, rfl, rfl, rfl, by decide +kernel⟩⟩, ⟨⟨_, rfl, rfl, rfl, rfl, by decide +kernel⟩⟩, ⟨⟨_, rfl, rfl, rfl, rfl, by decide +kernel⟩⟩, ⟨⟨_, rfl, rfl, rfl, rfl, by decide +kernel⟩⟩, ⟨⟨_, rfl, rfl, rfl, rfl, by decide +kernel⟩⟩, ⟨⟨_, rfl, rfl, rfl, rfl, by decide +kernel⟩⟩, ⟨⟨_, rfl, rfl, rfl, rfl, by decide +kernel⟩⟩, ⟨⟨_, rfl, rfl, rfl, rfl, by decide +kernel⟩⟩, ⟨⟨_, rfl, rfl, rfl, rfl, by decide +kernel⟩⟩, ⟨⟨_, rfl, rfl, rfl, rfl, by decide +kernel⟩⟩⟩ rfl (by decide +kernel) rfl (by decide +kernel) rfl rfl rfl rfl rfl rfl rfl rfl (hB.cellv rfl) (hB.cellv rfl) (hB.cellv rfl) (hB.cellv rfl) (hB.cellv rfl) (fun W hW => HS W (h.keep hW)) (fun W hW => HS2 W (h.keep hW)) (fun W _ => awake_any W) ?_
  intro f w5 hm5
  simp only [puts, Act.put, List.setIfInBounds_toArray, List.set_cons_succ, List.set_cons_zero]
  replace hM := hM.and hm5
  clear hB h hm5 HS HS2
  go_wp2
  go_ret
  exact ⟨by simp, hM⟩
namespace commitKnows
open Go.ChangeShapes Go.WideShapes Go.ChangeAt Go.RowKit
set_option maxRecDepth 100000 in
theorem lifted (os : Os) (started : os.Started) (H : Type) (enc : TypeId × Value → H) :
    ReturnsInHanded {} Try.checked os 4 .any (Rows.commitKnowsSpec.pre6 enc Try.prog Try.f4 Rows.commitKnowsRow.domain false) (Rows.commitKnowsSpec.post enc Try.prog Try.f4 false true false false) := by
  refine returnsInHanded_of_change_sized (C := Try.checked) own started (by kernel_rfl) Try.func4
    (ChangeSpec.witness6 (enc := enc) (C := Try.checked) false ⟨#[], #[.agg #[.int .i64 0, .int .i64 0, .int .i64 0, .int .i64 0, .slice none 0 0], .agg #[.int .i64 0, .int .i64 0]], []⟩ 8 (by kernel_rfl) (by kernel_rfl) (by kernel_rfl) (by kernel_rfl)) ?_
  intro W base args ds gs before hval0 hW hcnd hsz0 _
  have hval : ∀ (j : Nat) t v, Try.f4.params[j]? = some t → args[j]? = some v → Value.okWide Try.prog W .any base t v := hval0
  have hsz : (DataW.weightsEach Try.prog (Try.f4.params.toList ++ Rows.commitKnowsSpec.plain.varTypes Try.prog) (ds ++ gs)).all (· ≤ reachBytes) = true := hsz0
  have hW' := hW
  obtain ⟨p, q, hA0, hV, rfl, hfz, hnd⟩ := hW
  have hA : DataW.TrodAll enc Try.prog W 0 (fun _ => true) true Try.f4.params.toList args.toList ds p := hA0
  rw [Try.params4] at hA hval hsz
  obtain ⟨v0, vs0, d0, ds0, p0, q0, hargs, rfl, rfl, h0, r0⟩ := trodAll_cons hA
  obtain ⟨v1, vs1, d1, ds1, p1, q1, rfl, rfl, rfl, h1, r1⟩ := trodAll_cons r0
  obtain ⟨rfl, rfl, rfl⟩ := trodAll_nil r1
  obtain rfl : args = #[v0, v1] := by cases args; simp_all
  obtain ⟨rfl, rfl⟩ := trodVars_none hV
  have k0 := h0
  have lt0 : ∀ x ∈ p0, x.block < W.heap.size := by obtain ⟨m, hm⟩ := k0; exact DataW.trod_lt m _ _ _ hm
  obtain ⟨c0, hc0, ic0, ih0⟩ := open_commit (hval 0 26 v0 rfl rfl) h0
  have k1 := h1
  have lt1 : ∀ x ∈ p1, x.block < W.heap.size := by obtain ⟨m, hm⟩ := k1; exact DataW.trod_lt m _ _ _ hm
  obtain ⟨gq1, gr1, rfl⟩ := open_ring (hval 1 23 v1 rfl rfl) h1
  clear hA0 hval0
  refine (knows_walk v0 c0 gq1 gr1 W hc0 ic0 ih0).mono fun e W' ⟨he, hm⟩ => ?_
  subst he
  have bel : Below W.heap.size W W' := hm.below _ (Nat.le_refl _) (fun _ h => h.elim)
  exact ⟨_, rfl, _, _, _, [], _, [], hW', trodAll_mk1 (shut_bool Try.underlying4 _), (trodAll_cons_mk (Below.trod laidOut (by kernel_rfl) (of_decide_eq_true (by kernel_rfl)) k0 bel lt0) (trodAll_cons_mk (Below.trod laidOut (by kernel_rfl) (of_decide_eq_true (by kernel_rfl)) k1 bel lt1) trodAll_mk0)), rfl, bel.frame _, fun h => by cases h⟩

theorem over : Rows.commitKnowsRow.holds Try.pinned (OpenSpec.ofChange Rows.commitKnowsSpec) :=
  OpenClaim.holds_of_wide 4 Try.f4 rfl rfl rfl rfl rfl rfl rfl ⟨rfl, rfl, rfl, rfl, rfl⟩ rfl rfl rfl rfl rfl (by kernel_rfl) Try.func4 (by kernel_rfl)
    (of_decide_eq_true (by kernel_rfl)) (by unfold Func.isWrapper; first | (rw [if_pos (by decide +kernel)]; kernel_rfl) | (rw [if_neg (by decide +kernel)]; exact ⟨rfl, rfl⟩))
    (fun os started H enc _ => lifted os started H enc)
end commitKnows
theorem commitKnows_holds : Rows.CommitKnowsSaid := commitKnows.over
end Go.Proofs.Ytlekmgjjjniomaa
