/- The drawn statement of CommitSteps. No conditions. -/
import Derived.Test.YtlekmgjjjniomaaUad
import Derived.Test.YtlekmgjjjniomaaUj
import Derived.Test.YtlekmgjjjniomaaRge
namespace Go.Proofs.Ytlekmgjjjniomaa
open Go.RowKit
/-- What is said of a slot. -/
def p_rst (_gi _gc : Nat) (rs rr mm hp nd ec vv : Int) (iao cao : Option Addr) (n icap ccap : Nat) (i : Nat) (v : Value) (_w : World) : Prop :=
  match i with
  | 0 => v = .agg #[.int .i64 rs, .int .i64 rr, .int .i64 mm, .int .i64 hp, .slice iao n icap]
  | 1 => v = .int .i64 ec
  | 2 => v = .agg #[.int .i64 rs, .int .i64 rr, .int .i64 mm, .int .i64 hp, .slice cao n ccap]
  | 3 => v = .int .i64 ec
  | 4 => v = .bool (ec != ec)
  | 5 => v = .bool (ec != ec)
  | 6 => v = if (!(ec != ec)) = true then .agg #[.int .i64 rs, .int .i64 rr, .int .i64 mm, .int .i64 hp, .slice iao n icap] else undef
  | 7 => v = if (!(ec != ec)) = true then .int .i64 nd else undef
  | 8 => v = if (!(ec != ec)) = true then .int .i64 vv else undef
  | 9 => v = if (!(ec != ec)) = true then .agg #[.int .i64 rs, .int .i64 rr, .int .i64 mm, .int .i64 hp, .slice cao n ccap] else undef
  | 10 => v = if (!(ec != ec)) = true then .int .i64 nd else undef
  | 11 => v = if (!(ec != ec)) = true then .int .i64 vv else undef
  | 12 => v = if (!(ec != ec)) = true then .bool (vv != vv) else undef
  | 13 => v = .bool ((ec != ec) || (vv != vv))
  | 14 => v = .bool ((ec != ec) || (vv != vv))
  | 15 => v = if (!((ec != ec) || (vv != vv))) = true then .agg #[.int .i64 rs, .int .i64 rr, .int .i64 mm, .int .i64 hp, .slice iao n icap] else undef
  | 16 => v = if (!((ec != ec) || (vv != vv))) = true then .agg #[.int .i64 rs, .int .i64 rr, .int .i64 mm, .int .i64 hp, .slice cao n ccap] else undef
  | 17 => v = if (!((ec != ec) || (vv != vv))) = true then .bool true else undef
  | 18 => v = if (!((ec != ec) || (vv != vv))) = true then .bool (!true) else undef
  | 19 => v = .bool (((ec != ec) || (vv != vv)) || (!true))
  | _ => True
/-- Its operations. -/
structure O_rst (ops : Array Oper) : Prop where
  e0 : Is ops 0 (some 95) (Op.load 26 (Operand.tmp 7)) none []
  e1 : Is ops 1 (some 96) (Op.call { callee := Callee.value (Operand.func 16), args := #[Operand.tmp 95], argTypes := #[26] }) none [0]
  e2 : Is ops 2 (some 97) (Op.load 26 (Operand.tmp 3)) none []
  e3 : Is ops 3 (some 98) (Op.call { callee := Callee.value (Operand.func 17), args := #[Operand.tmp 97], argTypes := #[26] }) none [1, 2]
  e4 : Is ops 4 (some 99) (Op.binOp BinOp.neq 30 (Operand.tmp 96) (Operand.tmp 98) 30) none [1, 3]
  e5 : Is ops 5 (some 100) (Op.move (Operand.tmp 99)) none [3, 4]
  e6 : Is ops 6 (some 101) (Op.load 26 (Operand.tmp 7)) (some (5, false)) [5]
  e7 : Is ops 7 (some 102) (Op.move (Operand.tmp 2)) (some (5, false)) [5]
  e8 : Is ops 8 (some 103) (Op.call { callee := Callee.value (Operand.func 18), args := #[Operand.tmp 101, Operand.tmp 102], argTypes := #[26, 3] }) (some (5, false)) [5, 6, 7]
  e9 : Is ops 9 (some 104) (Op.load 26 (Operand.tmp 3)) (some (5, false)) [5]
  e10 : Is ops 10 (some 105) (Op.move (Operand.tmp 2)) (some (5, false)) [5]
  e11 : Is ops 11 (some 106) (Op.call { callee := Callee.value (Operand.func 19), args := #[Operand.tmp 104, Operand.tmp 105], argTypes := #[26, 3] }) (some (5, false)) [5, 8, 9, 10]
  e12 : Is ops 12 (some 107) (Op.binOp BinOp.neq 3 (Operand.tmp 103) (Operand.tmp 106) 3) (some (5, false)) [5, 8, 11]
  e13 : Is ops 13 (some 108) (Op.pick (Operand.tmp 100) (Operand.const (Value.bool true)) (Operand.tmp 107)) none [5, 12]
  e14 : Is ops 14 (some 109) (Op.move (Operand.tmp 108)) none [11, 13]
  e15 : Is ops 15 (some 110) (Op.load 26 (Operand.tmp 7)) (some (14, false)) [14]
  e16 : Is ops 16 (some 111) (Op.load 26 (Operand.tmp 3)) (some (14, false)) [14]
  e17 : Is ops 17 (some 112) (Op.call { callee := Callee.value (Operand.func 15), args := #[Operand.tmp 110, Operand.tmp 111], argTypes := #[26, 26] }) (some (14, false)) [14, 15, 16]
  e18 : Is ops 18 (some 113) (Op.unOp UnOp.not 4 (Operand.tmp 112)) (some (14, false)) [14, 17]
  e19 : Is ops 19 (some 114) (Op.pick (Operand.tmp 109) (Operand.const (Value.bool true)) (Operand.tmp 113)) none [14, 18]
set_option maxRecDepth 100000 in
set_option maxHeartbeats 4000000 in
theorem rst {ops : Array Oper} {id : Nat} {aZ : Act} {w0 : World} {Q : Exit → Act → World → Prop} (gi gc : Nat) (rs rr mm hp nd ec vv : Int) (iao cao : Option Addr) (n icap ccap : Nat)
    (E : O_rst ops) (hN : ops.size = 20) (hlow : lowB ops = true) (hds : dsts ops = [some 95, some 96, some 97, some 98, some 99, some 100, some 101, some 102, some 103, some 104, some 105, some 106, some 107, some 108, some 109, some 110, some 111, some 112, some 113, some 114]) (hnd : injB ops = true) (ha0 : aZ.tmps.size = 145)
    (bS2 : aZ.tmps.getD 2 undef = .int .i64 nd)
    (bS3 : aZ.tmps.getD 3 undef = .pointer (some ⟨gc, 0, none⟩))
    (bS7 : aZ.tmps.getD 7 undef = .pointer (some ⟨gi, 0, none⟩))
    (k_gi_0 : w0.cell? ⟨gi, 0, none⟩ = some (.int .i64 rs))
    (k_gi_1 : w0.cell? ⟨gi, 1, none⟩ = some (.int .i64 rr))
    (k_gi_2 : w0.cell? ⟨gi, 2, none⟩ = some (.int .i64 mm))
    (k_gi_3 : w0.cell? ⟨gi, 3, none⟩ = some (.int .i64 hp))
    (k_gi_4 : w0.cell? ⟨gi, 4, none⟩ = some (.slice iao n icap))
    (k_gc_0 : w0.cell? ⟨gc, 0, none⟩ = some (.int .i64 rs))
    (k_gc_1 : w0.cell? ⟨gc, 1, none⟩ = some (.int .i64 rr))
    (k_gc_2 : w0.cell? ⟨gc, 2, none⟩ = some (.int .i64 mm))
    (k_gc_3 : w0.cell? ⟨gc, 3, none⟩ = some (.int .i64 hp))
    (k_gc_4 : w0.cell? ⟨gc, 4, none⟩ = some (.slice cao n ccap))
    (H1 : ∀ (W : World), Mod (fun _ => False) w0 W → Calls Try.prog 16 #[.agg #[.int .i64 rs, .int .i64 rr, .int .i64 mm, .int .i64 hp, .slice iao n icap]] W fun e w' => e = .returned (.int .i64 ec) ∧ Mod (fun _ => False) W w')
    (H3 : ∀ (W : World), Mod (fun _ => False) w0 W → Calls Try.prog 17 #[.agg #[.int .i64 rs, .int .i64 rr, .int .i64 mm, .int .i64 hp, .slice cao n ccap]] W fun e w' => e = .returned (.int .i64 ec) ∧ Mod (fun _ => False) W w')
    (H8 : ∀ (W : World), Mod (fun _ => False) w0 W → Calls Try.prog 18 #[.agg #[.int .i64 rs, .int .i64 rr, .int .i64 mm, .int .i64 hp, .slice iao n icap], .int .i64 nd] W fun e w' => e = .returned (.int .i64 vv) ∧ Mod (fun _ => False) W w')
    (H11 : ∀ (W : World), Mod (fun _ => False) w0 W → Calls Try.prog 19 #[.agg #[.int .i64 rs, .int .i64 rr, .int .i64 mm, .int .i64 hp, .slice cao n ccap], .int .i64 nd] W fun e w' => e = .returned (.int .i64 vv) ∧ Mod (fun _ => False) W w')
    (H17 : ∀ (W : World), Mod (fun _ => False) w0 W → Calls Try.prog 15 #[.agg #[.int .i64 rs, .int .i64 rr, .int .i64 mm, .int .i64 hp, .slice iao n icap], .agg #[.int .i64 rs, .int .i64 rr, .int .i64 mm, .int .i64 hp, .slice cao n ccap]] W fun e w' => e = .returned (.bool true) ∧ Mod (fun _ => False) W w')
    (hend : ∀ (f : Nat → Value) (w : World), Mod (fun _ => False) w0 w → Q .normal (puts aZ [(95, .agg #[.int .i64 rs, .int .i64 rr, .int .i64 mm, .int .i64 hp, .slice iao n icap]), (96, .int .i64 ec), (97, .agg #[.int .i64 rs, .int .i64 rr, .int .i64 mm, .int .i64 hp, .slice cao n ccap]), (98, .int .i64 ec), (99, .bool (ec != ec)), (100, .bool (ec != ec)), (101, f 101), (102, f 102), (103, f 103), (104, f 104), (105, f 105), (106, f 106), (107, f 107), (108, .bool ((ec != ec) || (vv != vv))), (109, .bool ((ec != ec) || (vv != vv))), (110, f 110), (111, f 111), (112, f 112), (113, f 113), (114, .bool (((ec != ec) || (vv != vv)) || (!true)))]) w) :
    (Code.region id ops true).wp Try.prog Q aZ w0 := by
  obtain ⟨E0, E1, E2, E3, E4, E5, E6, E7, E8, E9, E10, E11, E12, E13, E14, E15, E16, E17, E18, E19⟩ := E
  have hstay : ∀ (i : Nat) (v : Value) (w w1 : World), Mod (fun _ => False) w w1 → (p_rst gi gc rs rr mm hp nd ec vv iao cao n icap ccap) i v w → (p_rst gi gc rs rr mm hp nd ec vv iao cao n icap ccap) i v w1 := fun _ _ _ _ _ h => h
  have s0 : ∀ o, ops[0]? = some o → StepI Try.prog ops (p_rst gi gc rs rr mm hp nd ec vv iao cao n icap ccap) (fun (_ : Array Bool) (_ : Act) (w : World) => Mod (fun _ => False) w0 w) aZ Q 0 o := by
    refine E0.stepI fun o hd ho hg hw => ?_
    intro y w listed hsz hls hun hwt hdown D' hRR hinv K hK
    have f7 : y.eval (Operand.tmp 7) = .pointer (some ⟨gi, 0, none⟩)   := (hRR 7 (not_of (by rw [hds]; decide))).trans bS7
    have h0 := hinv.cell k_gi_0 (fun h => h)
    have h1 := hinv.cell k_gi_1 (fun h => h)
    have h2 := hinv.cell k_gi_2 (fun h => h)
    have h3 := hinv.cell k_gi_3 (fun h => h)
    have h4 := hinv.cell k_gi_4 (fun h => h)
    exact .inl ⟨wanted_none hg, wp_value (ox_load (v := .agg #[.int .i64 rs, .int .i64 rr, .int .i64 mm, .int .i64 hp, .slice iao n icap]) ho f7 (by simp [go_sem, h0, h1, h2, h3, h4])) (hK _ _ (fun _ _ _ _ _ _ h => h) rfl hinv)⟩
  have s1 : ∀ o, ops[1]? = some o → StepI Try.prog ops (p_rst gi gc rs rr mm hp nd ec vv iao cao n icap ccap) (fun (_ : Array Bool) (_ : Act) (w : World) => Mod (fun _ => False) w0 w) aZ Q 1 o := by
    refine E1.stepI fun o hd ho hg hw => ?_
    intro y w listed hsz hls hun hwt hdown D' hRR hinv K hK
    have f95 : y.eval (Operand.tmp 95) = .agg #[.int .i64 rs, .int .i64 rr, .int .i64 mm, .int .i64 hp, .slice iao n icap] := E0.postI (Post := (p_rst gi gc rs rr mm hp nd ec vv iao cao n icap ccap)) (a := y) (w := w) D' (hwt 0 (hw 0 (by simp)))
    refine .inl ⟨wanted_none hg, wp_enter (f := 16) (args := #[.agg #[.int .i64 rs, .int .i64 rr, .int .i64 mm, .int .i64 hp, .slice iao n icap]]) ?_ (H1 w  hinv ) ?_⟩
    · have h := exec_call1 y.eval (fun args w => by simp [go_sem]) rfl ho (w := w)
      rw [f95] at h
      exact h
    · rintro e w' ⟨rfl, hm⟩
      exact ⟨_, rfl, hK _ _ (fun j oj d _ _ _ h => hstay _ _ _ _ hm h) rfl (hinv.and hm)⟩
  have s2 : ∀ o, ops[2]? = some o → StepI Try.prog ops (p_rst gi gc rs rr mm hp nd ec vv iao cao n icap ccap) (fun (_ : Array Bool) (_ : Act) (w : World) => Mod (fun _ => False) w0 w) aZ Q 2 o := by
    refine E2.stepI fun o hd ho hg hw => ?_
    intro y w listed hsz hls hun hwt hdown D' hRR hinv K hK
    have f3 : y.eval (Operand.tmp 3) = .pointer (some ⟨gc, 0, none⟩)   := (hRR 3 (not_of (by rw [hds]; decide))).trans bS3
    have h0 := hinv.cell k_gc_0 (fun h => h)
    have h1 := hinv.cell k_gc_1 (fun h => h)
    have h2 := hinv.cell k_gc_2 (fun h => h)
    have h3 := hinv.cell k_gc_3 (fun h => h)
    have h4 := hinv.cell k_gc_4 (fun h => h)
    exact .inl ⟨wanted_none hg, wp_value (ox_load (v := .agg #[.int .i64 rs, .int .i64 rr, .int .i64 mm, .int .i64 hp, .slice cao n ccap]) ho f3 (by simp [go_sem, h0, h1, h2, h3, h4])) (hK _ _ (fun _ _ _ _ _ _ h => h) rfl hinv)⟩
  have s3 : ∀ o, ops[3]? = some o → StepI Try.prog ops (p_rst gi gc rs rr mm hp nd ec vv iao cao n icap ccap) (fun (_ : Array Bool) (_ : Act) (w : World) => Mod (fun _ => False) w0 w) aZ Q 3 o := by
    refine E3.stepI fun o hd ho hg hw => ?_
    intro y w listed hsz hls hun hwt hdown D' hRR hinv K hK
    have f97 : y.eval (Operand.tmp 97) = .agg #[.int .i64 rs, .int .i64 rr, .int .i64 mm, .int .i64 hp, .slice cao n ccap] := E2.postI (Post := (p_rst gi gc rs rr mm hp nd ec vv iao cao n icap ccap)) (a := y) (w := w) D' (hwt 2 (hw 2 (by simp)))
    refine .inl ⟨wanted_none hg, wp_enter (f := 17) (args := #[.agg #[.int .i64 rs, .int .i64 rr, .int .i64 mm, .int .i64 hp, .slice cao n ccap]]) ?_ (H3 w  hinv ) ?_⟩
    · have h := exec_call1 y.eval (fun args w => by simp [go_sem]) rfl ho (w := w)
      rw [f97] at h
      exact h
    · rintro e w' ⟨rfl, hm⟩
      exact ⟨_, rfl, hK _ _ (fun j oj d _ _ _ h => hstay _ _ _ _ hm h) rfl (hinv.and hm)⟩
  have s4 : ∀ o, ops[4]? = some o → StepI Try.prog ops (p_rst gi gc rs rr mm hp nd ec vv iao cao n icap ccap) (fun (_ : Array Bool) (_ : Act) (w : World) => Mod (fun _ => False) w0 w) aZ Q 4 o := by
    refine E4.stepI fun o hd ho hg hw => ?_
    intro y w listed hsz hls hun hwt hdown D' hRR hinv K hK
    have f96 : y.eval (Operand.tmp 96) = .int .i64 ec := E1.postI (Post := (p_rst gi gc rs rr mm hp nd ec vv iao cao n icap ccap)) (a := y) (w := w) D' (hwt 1 (hw 1 (by simp)))
    have f98 : y.eval (Operand.tmp 98) = .int .i64 ec := E3.postI (Post := (p_rst gi gc rs rr mm hp nd ec vv iao cao n icap ccap)) (a := y) (w := w) D' (hwt 3 (hw 3 (by simp)))
    exact .inl ⟨wanted_none hg, wp_value (rx_neqT ho f96 f98) (hK _ _ (fun _ _ _ _ _ _ h => h) rfl hinv)⟩
  have s5 : ∀ o, ops[5]? = some o → StepI Try.prog ops (p_rst gi gc rs rr mm hp nd ec vv iao cao n icap ccap) (fun (_ : Array Bool) (_ : Act) (w : World) => Mod (fun _ => False) w0 w) aZ Q 5 o := by
    refine E5.stepI fun o hd ho hg hw => ?_
    intro y w listed hsz hls hun hwt hdown D' hRR hinv K hK
    have f99 : y.eval (Operand.tmp 99) = .bool (ec != ec) := E4.postI (Post := (p_rst gi gc rs rr mm hp nd ec vv iao cao n icap ccap)) (a := y) (w := w) D' (hwt 4 (hw 4 (by simp)))
    exact .inl ⟨wanted_none hg, wp_value (ox_move ho f99) (hK _ _ (fun _ _ _ _ _ _ h => h) rfl hinv)⟩
  have s6 : ∀ o, ops[6]? = some o → StepI Try.prog ops (p_rst gi gc rs rr mm hp nd ec vv iao cao n icap ccap) (fun (_ : Array Bool) (_ : Act) (w : World) => Mod (fun _ => False) w0 w) aZ Q 6 o := by
    refine E6.stepI fun o hd ho hg hw => ?_
    intro y w listed hsz hls hun hwt hdown D' hRR hinv K hK
    have gv : y.tmps.getD 100 undef = .bool (ec != ec) := E5.postI (Post := (p_rst gi gc rs rr mm hp nd ec vv iao cao n icap ccap)) (a := y) (w := w) D' (hwt 5 (hw 5 (by simp)))
    have wt : Region.wanted o (yielded ops y.tmps) = (!(ec != ec)) := by
      rw [wanted_b E5 hg (by rw [hsz, ha0]; decide) gv]
      cases (ec != ec) <;> rfl
    cases hc : (!(ec != ec))
    · exact .inr ⟨wt.trans hc, hK _ _ (fun _ _ _ _ _ _ h => h) (by show undef = if (!(ec != ec)) = true then .agg #[.int .i64 rs, .int .i64 rr, .int .i64 mm, .int .i64 hp, .slice iao n icap] else undef; rw [hc]; rfl) hinv⟩
    · have f7 : y.eval (Operand.tmp 7) = .pointer (some ⟨gi, 0, none⟩)   := (hRR 7 (not_of (by rw [hds]; decide))).trans bS7
      have h0 := hinv.cell k_gi_0 (fun h => h)
      have h1 := hinv.cell k_gi_1 (fun h => h)
      have h2 := hinv.cell k_gi_2 (fun h => h)
      have h3 := hinv.cell k_gi_3 (fun h => h)
      have h4 := hinv.cell k_gi_4 (fun h => h)
      exact .inl ⟨wt.trans hc, wp_value (ox_load (v := .agg #[.int .i64 rs, .int .i64 rr, .int .i64 mm, .int .i64 hp, .slice iao n icap]) ho f7 (by simp [go_sem, h0, h1, h2, h3, h4])) (hK _ _ (fun _ _ _ _ _ _ h => h) (by show _ = if (!(ec != ec)) = true then .agg #[.int .i64 rs, .int .i64 rr, .int .i64 mm, .int .i64 hp, .slice iao n icap] else undef; rw [hc]; rfl) hinv)⟩
  have s7 : ∀ o, ops[7]? = some o → StepI Try.prog ops (p_rst gi gc rs rr mm hp nd ec vv iao cao n icap ccap) (fun (_ : Array Bool) (_ : Act) (w : World) => Mod (fun _ => False) w0 w) aZ Q 7 o := by
    refine E7.stepI fun o hd ho hg hw => ?_
    intro y w listed hsz hls hun hwt hdown D' hRR hinv K hK
    have gv : y.tmps.getD 100 undef = .bool (ec != ec) := E5.postI (Post := (p_rst gi gc rs rr mm hp nd ec vv iao cao n icap ccap)) (a := y) (w := w) D' (hwt 5 (hw 5 (by simp)))
    have wt : Region.wanted o (yielded ops y.tmps) = (!(ec != ec)) := by
      rw [wanted_b E5 hg (by rw [hsz, ha0]; decide) gv]
      cases (ec != ec) <;> rfl
    cases hc : (!(ec != ec))
    · exact .inr ⟨wt.trans hc, hK _ _ (fun _ _ _ _ _ _ h => h) (by show undef = if (!(ec != ec)) = true then .int .i64 nd else undef; rw [hc]; rfl) hinv⟩
    · have f2 : y.eval (Operand.tmp 2) = .int .i64 nd   := (hRR 2 (not_of (by rw [hds]; decide))).trans bS2
      exact .inl ⟨wt.trans hc, wp_value (ox_move ho f2) (hK _ _ (fun _ _ _ _ _ _ h => h) (by show _ = if (!(ec != ec)) = true then .int .i64 nd else undef; rw [hc]; rfl) hinv)⟩
  have s8 : ∀ o, ops[8]? = some o → StepI Try.prog ops (p_rst gi gc rs rr mm hp nd ec vv iao cao n icap ccap) (fun (_ : Array Bool) (_ : Act) (w : World) => Mod (fun _ => False) w0 w) aZ Q 8 o := by
    refine E8.stepI fun o hd ho hg hw => ?_
    intro y w listed hsz hls hun hwt hdown D' hRR hinv K hK
    have gv : y.tmps.getD 100 undef = .bool (ec != ec) := E5.postI (Post := (p_rst gi gc rs rr mm hp nd ec vv iao cao n icap ccap)) (a := y) (w := w) D' (hwt 5 (hw 5 (by simp)))
    have wt : Region.wanted o (yielded ops y.tmps) = (!(ec != ec)) := by
      rw [wanted_b E5 hg (by rw [hsz, ha0]; decide) gv]
      cases (ec != ec) <;> rfl
    cases hc : (!(ec != ec))
    · exact .inr ⟨wt.trans hc, hK _ _ (fun _ _ _ _ _ _ h => h) (by show undef = if (!(ec != ec)) = true then .int .i64 vv else undef; rw [hc]; rfl) hinv⟩
    · have f101 : y.eval (Operand.tmp 101) = .agg #[.int .i64 rs, .int .i64 rr, .int .i64 mm, .int .i64 hp, .slice iao n icap] := (show y.eval (Operand.tmp 101) = (if (!(ec != ec)) = true then .agg #[.int .i64 rs, .int .i64 rr, .int .i64 mm, .int .i64 hp, .slice iao n icap] else undef) from E6.postI (Post := (p_rst gi gc rs rr mm hp nd ec vv iao cao n icap ccap)) (a := y) (w := w) D' (hwt 6 (hw 6 (by simp)))).trans (if_pos hc)
      have f102 : y.eval (Operand.tmp 102) = .int .i64 nd := (show y.eval (Operand.tmp 102) = (if (!(ec != ec)) = true then .int .i64 nd else undef) from E7.postI (Post := (p_rst gi gc rs rr mm hp nd ec vv iao cao n icap ccap)) (a := y) (w := w) D' (hwt 7 (hw 7 (by simp)))).trans (if_pos hc)
      refine .inl ⟨wt.trans hc, wp_enter (f := 18) (args := #[.agg #[.int .i64 rs, .int .i64 rr, .int .i64 mm, .int .i64 hp, .slice iao n icap], .int .i64 nd]) ?_ (H8 w  hinv ) ?_⟩
      · have h := exec_call2 y.eval (fun args w => by simp [go_sem]) rfl ho (w := w)
        rw [f101, f102] at h
        exact h
      · rintro e w' ⟨rfl, hm⟩
        exact ⟨_, rfl, hK _ _ (fun j oj d _ _ _ h => hstay _ _ _ _ hm h) (by show _ = if (!(ec != ec)) = true then .int .i64 vv else undef; rw [hc]; rfl) (hinv.and hm)⟩
  have s9 : ∀ o, ops[9]? = some o → StepI Try.prog ops (p_rst gi gc rs rr mm hp nd ec vv iao cao n icap ccap) (fun (_ : Array Bool) (_ : Act) (w : World) => Mod (fun _ => False) w0 w) aZ Q 9 o := by
    refine E9.stepI fun o hd ho hg hw => ?_
    intro y w listed hsz hls hun hwt hdown D' hRR hinv K hK
    have gv : y.tmps.getD 100 undef = .bool (ec != ec) := E5.postI (Post := (p_rst gi gc rs rr mm hp nd ec vv iao cao n icap ccap)) (a := y) (w := w) D' (hwt 5 (hw 5 (by simp)))
    have wt : Region.wanted o (yielded ops y.tmps) = (!(ec != ec)) := by
      rw [wanted_b E5 hg (by rw [hsz, ha0]; decide) gv]
      cases (ec != ec) <;> rfl
    cases hc : (!(ec != ec))
    · exact .inr ⟨wt.trans hc, hK _ _ (fun _ _ _ _ _ _ h => h) (by show undef = if (!(ec != ec)) = true then .agg #[.int .i64 rs, .int .i64 rr, .int .i64 mm, .int .i64 hp, .slice cao n ccap] else undef; rw [hc]; rfl) hinv⟩
    · have f3 : y.eval (Operand.tmp 3) = .pointer (some ⟨gc, 0, none⟩)   := (hRR 3 (not_of (by rw [hds]; decide))).trans bS3
      have h0 := hinv.cell k_gc_0 (fun h => h)
      have h1 := hinv.cell k_gc_1 (fun h => h)
      have h2 := hinv.cell k_gc_2 (fun h => h)
      have h3 := hinv.cell k_gc_3 (fun h => h)
      have h4 := hinv.cell k_gc_4 (fun h => h)
      exact .inl ⟨wt.trans hc, wp_value (ox_load (v := .agg #[.int .i64 rs, .int .i64 rr, .int .i64 mm, .int .i64 hp, .slice cao n ccap]) ho f3 (by simp [go_sem, h0, h1, h2, h3, h4])) (hK _ _ (fun _ _ _ _ _ _ h => h) (by show _ = if (!(ec != ec)) = true then .agg #[.int .i64 rs, .int .i64 rr, .int .i64 mm, .int .i64 hp, .slice cao n ccap] else undef; rw [hc]; rfl) hinv)⟩
  have s10 : ∀ o, ops[10]? = some o → StepI Try.prog ops (p_rst gi gc rs rr mm hp nd ec vv iao cao n icap ccap) (fun (_ : Array Bool) (_ : Act) (w : World) => Mod (fun _ => False) w0 w) aZ Q 10 o := by
    refine E10.stepI fun o hd ho hg hw => ?_
    intro y w listed hsz hls hun hwt hdown D' hRR hinv K hK
    have gv : y.tmps.getD 100 undef = .bool (ec != ec) := E5.postI (Post := (p_rst gi gc rs rr mm hp nd ec vv iao cao n icap ccap)) (a := y) (w := w) D' (hwt 5 (hw 5 (by simp)))
    have wt : Region.wanted o (yielded ops y.tmps) = (!(ec != ec)) := by
      rw [wanted_b E5 hg (by rw [hsz, ha0]; decide) gv]
      cases (ec != ec) <;> rfl
    cases hc : (!(ec != ec))
    · exact .inr ⟨wt.trans hc, hK _ _ (fun _ _ _ _ _ _ h => h) (by show undef = if (!(ec != ec)) = true then .int .i64 nd else undef; rw [hc]; rfl) hinv⟩
    · have f2 : y.eval (Operand.tmp 2) = .int .i64 nd   := (hRR 2 (not_of (by rw [hds]; decide))).trans bS2
      exact .inl ⟨wt.trans hc, wp_value (ox_move ho f2) (hK _ _ (fun _ _ _ _ _ _ h => h) (by show _ = if (!(ec != ec)) = true then .int .i64 nd else undef; rw [hc]; rfl) hinv)⟩
  have s11 : ∀ o, ops[11]? = some o → StepI Try.prog ops (p_rst gi gc rs rr mm hp nd ec vv iao cao n icap ccap) (fun (_ : Array Bool) (_ : Act) (w : World) => Mod (fun _ => False) w0 w) aZ Q 11 o := by
    refine E11.stepI fun o hd ho hg hw => ?_
    intro y w listed hsz hls hun hwt hdown D' hRR hinv K hK
    have gv : y.tmps.getD 100 undef = .bool (ec != ec) := E5.postI (Post := (p_rst gi gc rs rr mm hp nd ec vv iao cao n icap ccap)) (a := y) (w := w) D' (hwt 5 (hw 5 (by simp)))
    have wt : Region.wanted o (yielded ops y.tmps) = (!(ec != ec)) := by
      rw [wanted_b E5 hg (by rw [hsz, ha0]; decide) gv]
      cases (ec != ec) <;> rfl
    cases hc : (!(ec != ec))
    · exact .inr ⟨wt.trans hc, hK _ _ (fun _ _ _ _ _ _ h => h) (by show undef = if (!(ec != ec)) = true then .int .i64 vv else undef; rw [hc]; rfl) hinv⟩
    · have f104 : y.eval (Operand.tmp 104) = .agg #[.int .i64 rs, .int .i64 rr, .int .i64 mm, .int .i64 hp, .slice cao n ccap] := (show y.eval (Operand.tmp 104) = (if (!(ec != ec)) = true then .agg #[.int .i64 rs, .int .i64 rr, .int .i64 mm, .int .i64 hp, .slice cao n ccap] else undef) from E9.postI (Post := (p_rst gi gc rs rr mm hp nd ec vv iao cao n icap ccap)) (a := y) (w := w) D' (hwt 9 (hw 9 (by simp)))).trans (if_pos hc)
      have f105 : y.eval (Operand.tmp 105) = .int .i64 nd := (show y.eval (Operand.tmp 105) = (if (!(ec != ec)) = true then .int .i64 nd else undef) from E10.postI (Post := (p_rst gi gc rs rr mm hp nd ec vv iao cao n icap ccap)) (a := y) (w := w) D' (hwt 10 (hw 10 (by simp)))).trans (if_pos hc)
      refine .inl ⟨wt.trans hc, wp_enter (f := 19) (args := #[.agg #[.int .i64 rs, .int .i64 rr, .int .i64 mm, .int .i64 hp, .slice cao n ccap], .int .i64 nd]) ?_ (H11 w  hinv ) ?_⟩
      · have h := exec_call2 y.eval (fun args w => by simp [go_sem]) rfl ho (w := w)
        rw [f104, f105] at h
        exact h
      · rintro e w' ⟨rfl, hm⟩
        exact ⟨_, rfl, hK _ _ (fun j oj d _ _ _ h => hstay _ _ _ _ hm h) (by show _ = if (!(ec != ec)) = true then .int .i64 vv else undef; rw [hc]; rfl) (hinv.and hm)⟩
  have s12 : ∀ o, ops[12]? = some o → StepI Try.prog ops (p_rst gi gc rs rr mm hp nd ec vv iao cao n icap ccap) (fun (_ : Array Bool) (_ : Act) (w : World) => Mod (fun _ => False) w0 w) aZ Q 12 o := by
    refine E12.stepI fun o hd ho hg hw => ?_
    intro y w listed hsz hls hun hwt hdown D' hRR hinv K hK
    have gv : y.tmps.getD 100 undef = .bool (ec != ec) := E5.postI (Post := (p_rst gi gc rs rr mm hp nd ec vv iao cao n icap ccap)) (a := y) (w := w) D' (hwt 5 (hw 5 (by simp)))
    have wt : Region.wanted o (yielded ops y.tmps) = (!(ec != ec)) := by
      rw [wanted_b E5 hg (by rw [hsz, ha0]; decide) gv]
      cases (ec != ec) <;> rfl
    cases hc : (!(ec != ec))
    · exact .inr ⟨wt.trans hc, hK _ _ (fun _ _ _ _ _ _ h => h) (by show undef = if (!(ec != ec)) = true then .bool (vv != vv) else undef; rw [hc]; rfl) hinv⟩
    · have f103 : y.eval (Operand.tmp 103) = .int .i64 vv := (show y.eval (Operand.tmp 103) = (if (!(ec != ec)) = true then .int .i64 vv else undef) from E8.postI (Post := (p_rst gi gc rs rr mm hp nd ec vv iao cao n icap ccap)) (a := y) (w := w) D' (hwt 8 (hw 8 (by simp)))).trans (if_pos hc)
      have f106 : y.eval (Operand.tmp 106) = .int .i64 vv := (show y.eval (Operand.tmp 106) = (if (!(ec != ec)) = true then .int .i64 vv else undef) from E11.postI (Post := (p_rst gi gc rs rr mm hp nd ec vv iao cao n icap ccap)) (a := y) (w := w) D' (hwt 11 (hw 11 (by simp)))).trans (if_pos hc)
      exact .inl ⟨wt.trans hc, wp_value (rx_neq ho f103 f106) (hK _ _ (fun _ _ _ _ _ _ h => h) (by show _ = if (!(ec != ec)) = true then .bool (vv != vv) else undef; rw [hc]; rfl) hinv)⟩
  have s13 : ∀ o, ops[13]? = some o → StepI Try.prog ops (p_rst gi gc rs rr mm hp nd ec vv iao cao n icap ccap) (fun (_ : Array Bool) (_ : Act) (w : World) => Mod (fun _ => False) w0 w) aZ Q 13 o := by
    refine E13.stepI fun o hd ho hg hw => ?_
    intro y w listed hsz hls hun hwt hdown D' hRR hinv K hK
    have f100 : y.eval (Operand.tmp 100) = .bool (ec != ec) := E5.postI (Post := (p_rst gi gc rs rr mm hp nd ec vv iao cao n icap ccap)) (a := y) (w := w) D' (hwt 5 (hw 5 (by simp)))
    have f107 : y.eval (Operand.tmp 107) = if (!(ec != ec)) = true then .bool (vv != vv) else undef := E12.postI (Post := (p_rst gi gc rs rr mm hp nd ec vv iao cao n icap ccap)) (a := y) (w := w) D' (hwt 12 (hw 12 (by simp)))
    exact .inl ⟨wanted_none hg, wp_value (ox_pick (v := .bool ((ec != ec) || (vv != vv))) ho f100 (by rw [f107]; cases (ec != ec) <;> rfl)) (hK _ _ (fun _ _ _ _ _ _ h => h) rfl hinv)⟩
  have s14 : ∀ o, ops[14]? = some o → StepI Try.prog ops (p_rst gi gc rs rr mm hp nd ec vv iao cao n icap ccap) (fun (_ : Array Bool) (_ : Act) (w : World) => Mod (fun _ => False) w0 w) aZ Q 14 o := by
    refine E14.stepI fun o hd ho hg hw => ?_
    intro y w listed hsz hls hun hwt hdown D' hRR hinv K hK
    have f108 : y.eval (Operand.tmp 108) = .bool ((ec != ec) || (vv != vv)) := E13.postI (Post := (p_rst gi gc rs rr mm hp nd ec vv iao cao n icap ccap)) (a := y) (w := w) D' (hwt 13 (hw 13 (by simp)))
    exact .inl ⟨wanted_none hg, wp_value (ox_move ho f108) (hK _ _ (fun _ _ _ _ _ _ h => h) rfl hinv)⟩
  have s15 : ∀ o, ops[15]? = some o → StepI Try.prog ops (p_rst gi gc rs rr mm hp nd ec vv iao cao n icap ccap) (fun (_ : Array Bool) (_ : Act) (w : World) => Mod (fun _ => False) w0 w) aZ Q 15 o := by
    refine E15.stepI fun o hd ho hg hw => ?_
    intro y w listed hsz hls hun hwt hdown D' hRR hinv K hK
    have gv : y.tmps.getD 109 undef = .bool ((ec != ec) || (vv != vv)) := E14.postI (Post := (p_rst gi gc rs rr mm hp nd ec vv iao cao n icap ccap)) (a := y) (w := w) D' (hwt 14 (hw 14 (by simp)))
    have wt : Region.wanted o (yielded ops y.tmps) = (!((ec != ec) || (vv != vv))) := by
      rw [wanted_b E14 hg (by rw [hsz, ha0]; decide) gv]
      cases ((ec != ec) || (vv != vv)) <;> rfl
    cases hc : (!((ec != ec) || (vv != vv)))
    · exact .inr ⟨wt.trans hc, hK _ _ (fun _ _ _ _ _ _ h => h) (by show undef = if (!((ec != ec) || (vv != vv))) = true then .agg #[.int .i64 rs, .int .i64 rr, .int .i64 mm, .int .i64 hp, .slice iao n icap] else undef; rw [hc]; rfl) hinv⟩
    · have f7 : y.eval (Operand.tmp 7) = .pointer (some ⟨gi, 0, none⟩)   := (hRR 7 (not_of (by rw [hds]; decide))).trans bS7
      have h0 := hinv.cell k_gi_0 (fun h => h)
      have h1 := hinv.cell k_gi_1 (fun h => h)
      have h2 := hinv.cell k_gi_2 (fun h => h)
      have h3 := hinv.cell k_gi_3 (fun h => h)
      have h4 := hinv.cell k_gi_4 (fun h => h)
      exact .inl ⟨wt.trans hc, wp_value (ox_load (v := .agg #[.int .i64 rs, .int .i64 rr, .int .i64 mm, .int .i64 hp, .slice iao n icap]) ho f7 (by simp [go_sem, h0, h1, h2, h3, h4])) (hK _ _ (fun _ _ _ _ _ _ h => h) (by show _ = if (!((ec != ec) || (vv != vv))) = true then .agg #[.int .i64 rs, .int .i64 rr, .int .i64 mm, .int .i64 hp, .slice iao n icap] else undef; rw [hc]; rfl) hinv)⟩
  have s16 : ∀ o, ops[16]? = some o → StepI Try.prog ops (p_rst gi gc rs rr mm hp nd ec vv iao cao n icap ccap) (fun (_ : Array Bool) (_ : Act) (w : World) => Mod (fun _ => False) w0 w) aZ Q 16 o := by
    refine E16.stepI fun o hd ho hg hw => ?_
    intro y w listed hsz hls hun hwt hdown D' hRR hinv K hK
    have gv : y.tmps.getD 109 undef = .bool ((ec != ec) || (vv != vv)) := E14.postI (Post := (p_rst gi gc rs rr mm hp nd ec vv iao cao n icap ccap)) (a := y) (w := w) D' (hwt 14 (hw 14 (by simp)))
    have wt : Region.wanted o (yielded ops y.tmps) = (!((ec != ec) || (vv != vv))) := by
      rw [wanted_b E14 hg (by rw [hsz, ha0]; decide) gv]
      cases ((ec != ec) || (vv != vv)) <;> rfl
    cases hc : (!((ec != ec) || (vv != vv)))
    · exact .inr ⟨wt.trans hc, hK _ _ (fun _ _ _ _ _ _ h => h) (by show undef = if (!((ec != ec) || (vv != vv))) = true then .agg #[.int .i64 rs, .int .i64 rr, .int .i64 mm, .int .i64 hp, .slice cao n ccap] else undef; rw [hc]; rfl) hinv⟩
    · have f3 : y.eval (Operand.tmp 3) = .pointer (some ⟨gc, 0, none⟩)   := (hRR 3 (not_of (by rw [hds]; decide))).trans bS3
      have h0 := hinv.cell k_gc_0 (fun h => h)
      have h1 := hinv.cell k_gc_1 (fun h => h)
      have h2 := hinv.cell k_gc_2 (fun h => h)
      have h3 := hinv.cell k_gc_3 (fun h => h)
      have h4 := hinv.cell k_gc_4 (fun h => h)
      exact .inl ⟨wt.trans hc, wp_value (ox_load (v := .agg #[.int .i64 rs, .int .i64 rr, .int .i64 mm, .int .i64 hp, .slice cao n ccap]) ho f3 (by simp [go_sem, h0, h1, h2, h3, h4])) (hK _ _ (fun _ _ _ _ _ _ h => h) (by show _ = if (!((ec != ec) || (vv != vv))) = true then .agg #[.int .i64 rs, .int .i64 rr, .int .i64 mm, .int .i64 hp, .slice cao n ccap] else undef; rw [hc]; rfl) hinv)⟩
  have s17 : ∀ o, ops[17]? = some o → StepI Try.prog ops (p_rst gi gc rs rr mm hp nd ec vv iao cao n icap ccap) (fun (_ : Array Bool) (_ : Act) (w : World) => Mod (fun _ => False) w0 w) aZ Q 17 o := by
    refine E17.stepI fun o hd ho hg hw => ?_
    intro y w listed hsz hls hun hwt hdown D' hRR hinv K hK
    have gv : y.tmps.getD 109 undef = .bool ((ec != ec) || (vv != vv)) := E14.postI (Post := (p_rst gi gc rs rr mm hp nd ec vv iao cao n icap ccap)) (a := y) (w := w) D' (hwt 14 (hw 14 (by simp)))
    have wt : Region.wanted o (yielded ops y.tmps) = (!((ec != ec) || (vv != vv))) := by
      rw [wanted_b E14 hg (by rw [hsz, ha0]; decide) gv]
      cases ((ec != ec) || (vv != vv)) <;> rfl
    cases hc : (!((ec != ec) || (vv != vv)))
    · exact .inr ⟨wt.trans hc, hK _ _ (fun _ _ _ _ _ _ h => h) (by show undef = if (!((ec != ec) || (vv != vv))) = true then .bool true else undef; rw [hc]; rfl) hinv⟩
    · have f110 : y.eval (Operand.tmp 110) = .agg #[.int .i64 rs, .int .i64 rr, .int .i64 mm, .int .i64 hp, .slice iao n icap] := (show y.eval (Operand.tmp 110) = (if (!((ec != ec) || (vv != vv))) = true then .agg #[.int .i64 rs, .int .i64 rr, .int .i64 mm, .int .i64 hp, .slice iao n icap] else undef) from E15.postI (Post := (p_rst gi gc rs rr mm hp nd ec vv iao cao n icap ccap)) (a := y) (w := w) D' (hwt 15 (hw 15 (by simp)))).trans (if_pos hc)
      have f111 : y.eval (Operand.tmp 111) = .agg #[.int .i64 rs, .int .i64 rr, .int .i64 mm, .int .i64 hp, .slice cao n ccap] := (show y.eval (Operand.tmp 111) = (if (!((ec != ec) || (vv != vv))) = true then .agg #[.int .i64 rs, .int .i64 rr, .int .i64 mm, .int .i64 hp, .slice cao n ccap] else undef) from E16.postI (Post := (p_rst gi gc rs rr mm hp nd ec vv iao cao n icap ccap)) (a := y) (w := w) D' (hwt 16 (hw 16 (by simp)))).trans (if_pos hc)
      refine .inl ⟨wt.trans hc, wp_enter (f := 15) (args := #[.agg #[.int .i64 rs, .int .i64 rr, .int .i64 mm, .int .i64 hp, .slice iao n icap], .agg #[.int .i64 rs, .int .i64 rr, .int .i64 mm, .int .i64 hp, .slice cao n ccap]]) ?_ (H17 w  hinv ) ?_⟩
      · have h := exec_call2 y.eval (fun args w => by simp [go_sem]) rfl ho (w := w)
        rw [f110, f111] at h
        exact h
      · rintro e w' ⟨rfl, hm⟩
        exact ⟨_, rfl, hK _ _ (fun j oj d _ _ _ h => hstay _ _ _ _ hm h) (by show _ = if (!((ec != ec) || (vv != vv))) = true then .bool true else undef; rw [hc]; rfl) (hinv.and hm)⟩
  have s18 : ∀ o, ops[18]? = some o → StepI Try.prog ops (p_rst gi gc rs rr mm hp nd ec vv iao cao n icap ccap) (fun (_ : Array Bool) (_ : Act) (w : World) => Mod (fun _ => False) w0 w) aZ Q 18 o := by
    refine E18.stepI fun o hd ho hg hw => ?_
    intro y w listed hsz hls hun hwt hdown D' hRR hinv K hK
    have gv : y.tmps.getD 109 undef = .bool ((ec != ec) || (vv != vv)) := E14.postI (Post := (p_rst gi gc rs rr mm hp nd ec vv iao cao n icap ccap)) (a := y) (w := w) D' (hwt 14 (hw 14 (by simp)))
    have wt : Region.wanted o (yielded ops y.tmps) = (!((ec != ec) || (vv != vv))) := by
      rw [wanted_b E14 hg (by rw [hsz, ha0]; decide) gv]
      cases ((ec != ec) || (vv != vv)) <;> rfl
    cases hc : (!((ec != ec) || (vv != vv)))
    · exact .inr ⟨wt.trans hc, hK _ _ (fun _ _ _ _ _ _ h => h) (by show undef = if (!((ec != ec) || (vv != vv))) = true then .bool (!true) else undef; rw [hc]; rfl) hinv⟩
    · have f112 : y.eval (Operand.tmp 112) = .bool true := (show y.eval (Operand.tmp 112) = (if (!((ec != ec) || (vv != vv))) = true then .bool true else undef) from E17.postI (Post := (p_rst gi gc rs rr mm hp nd ec vv iao cao n icap ccap)) (a := y) (w := w) D' (hwt 17 (hw 17 (by simp)))).trans (if_pos hc)
      exact .inl ⟨wt.trans hc, wp_value (ox_not ho f112) (hK _ _ (fun _ _ _ _ _ _ h => h) (by show _ = if (!((ec != ec) || (vv != vv))) = true then .bool (!true) else undef; rw [hc]; rfl) hinv)⟩
  have s19 : ∀ o, ops[19]? = some o → StepI Try.prog ops (p_rst gi gc rs rr mm hp nd ec vv iao cao n icap ccap) (fun (_ : Array Bool) (_ : Act) (w : World) => Mod (fun _ => False) w0 w) aZ Q 19 o := by
    refine E19.stepI fun o hd ho hg hw => ?_
    intro y w listed hsz hls hun hwt hdown D' hRR hinv K hK
    have f109 : y.eval (Operand.tmp 109) = .bool ((ec != ec) || (vv != vv)) := E14.postI (Post := (p_rst gi gc rs rr mm hp nd ec vv iao cao n icap ccap)) (a := y) (w := w) D' (hwt 14 (hw 14 (by simp)))
    have f113 : y.eval (Operand.tmp 113) = if (!((ec != ec) || (vv != vv))) = true then .bool (!true) else undef := E18.postI (Post := (p_rst gi gc rs rr mm hp nd ec vv iao cao n icap ccap)) (a := y) (w := w) D' (hwt 18 (hw 18 (by simp)))
    exact .inl ⟨wanted_none hg, wp_value (ox_pick (v := .bool (((ec != ec) || (vv != vv)) || (!true))) ho f109 (by rw [f113]; cases ((ec != ec) || (vv != vv)) <;> rfl)) (hK _ _ (fun _ _ _ _ _ _ h => h) rfl hinv)⟩
  refine region_freeI (Post := (p_rst gi gc rs rr mm hp nd ec vv iao cao n icap ccap)) (Inv := (fun (_ : Array Bool) (_ : Act) (w : World) => Mod (fun _ => False) w0 w)) mixed (low_of hlow) (fun i o ho => by rw [ha0]; exact dst_of (by rw [hds]; decide) i o ho) (inj_of hnd) (Mod.refl _ _).drew ?_ ?_
  · intro i o ho
    have hi : i < 20 := by
      rw [← hN]
      rcases Nat.lt_or_ge i ops.size with h | h
      · exact h
      · rw [Array.getElem?_eq_none h] at ho; cases ho
    clear hend
    by_cases e0 : i = 0
    · subst e0; exact s0 o ho
    by_cases e1 : i = 1
    · subst e1; exact s1 o ho
    by_cases e2 : i = 2
    · subst e2; exact s2 o ho
    by_cases e3 : i = 3
    · subst e3; exact s3 o ho
    by_cases e4 : i = 4
    · subst e4; exact s4 o ho
    by_cases e5 : i = 5
    · subst e5; exact s5 o ho
    by_cases e6 : i = 6
    · subst e6; exact s6 o ho
    by_cases e7 : i = 7
    · subst e7; exact s7 o ho
    by_cases e8 : i = 8
    · subst e8; exact s8 o ho
    by_cases e9 : i = 9
    · subst e9; exact s9 o ho
    by_cases e10 : i = 10
    · subst e10; exact s10 o ho
    by_cases e11 : i = 11
    · subst e11; exact s11 o ho
    by_cases e12 : i = 12
    · subst e12; exact s12 o ho
    by_cases e13 : i = 13
    · subst e13; exact s13 o ho
    by_cases e14 : i = 14
    · subst e14; exact s14 o ho
    by_cases e15 : i = 15
    · subst e15; exact s15 o ho
    by_cases e16 : i = 16
    · subst e16; exact s16 o ho
    by_cases e17 : i = 17
    · subst e17; exact s17 o ho
    by_cases e18 : i = 18
    · subst e18; exact s18 o ho
    by_cases e19 : i = 19
    · subst e19; exact s19 o ho
    omega
  · intro y w listed hsz hdf hls hall hinv hPO hRE
    have e : y = puts aZ [(95, .agg #[.int .i64 rs, .int .i64 rr, .int .i64 mm, .int .i64 hp, .slice iao n icap]), (96, .int .i64 ec), (97, .agg #[.int .i64 rs, .int .i64 rr, .int .i64 mm, .int .i64 hp, .slice cao n ccap]), (98, .int .i64 ec), (99, .bool (ec != ec)), (100, .bool (ec != ec)), (101, y.tmps.getD 101 undef), (102, y.tmps.getD 102 undef), (103, y.tmps.getD 103 undef), (104, y.tmps.getD 104 undef), (105, y.tmps.getD 105 undef), (106, y.tmps.getD 106 undef), (107, y.tmps.getD 107 undef), (108, .bool ((ec != ec) || (vv != vv))), (109, .bool ((ec != ec) || (vv != vv))), (110, y.tmps.getD 110 undef), (111, y.tmps.getD 111 undef), (112, y.tmps.getD 112 undef), (113, y.tmps.getD 113 undef), (114, .bool (((ec != ec) || (vv != vv)) || (!true)))] := by
      refine eq_puts hsz hdf (nodup_of (D := [some 95, some 96, some 97, some 98, some 99, some 100, some 101, some 102, some 103, some 104, some 105, some 106, some 107, some 108, some 109, some 110, some 111, some 112, some 113, some 114]) rfl (by decide)) (by rw [ha0]; simp) ?_ ?_
      · intro q hq
        simp only [List.mem_cons, List.not_mem_nil, or_false] at hq
        rcases hq with rfl | rfl | rfl | rfl | rfl | rfl | rfl | rfl | rfl | rfl | rfl | rfl | rfl | rfl | rfl | rfl | rfl | rfl | rfl | rfl
        · obtain ⟨o, h1, h2, _⟩ := E0.ex
          exact hPO 0 o _ h1 h2
        · obtain ⟨o, h1, h2, _⟩ := E1.ex
          exact hPO 1 o _ h1 h2
        · obtain ⟨o, h1, h2, _⟩ := E2.ex
          exact hPO 2 o _ h1 h2
        · obtain ⟨o, h1, h2, _⟩ := E3.ex
          exact hPO 3 o _ h1 h2
        · obtain ⟨o, h1, h2, _⟩ := E4.ex
          exact hPO 4 o _ h1 h2
        · obtain ⟨o, h1, h2, _⟩ := E5.ex
          exact hPO 5 o _ h1 h2
        · rfl
        · rfl
        · rfl
        · rfl
        · rfl
        · rfl
        · rfl
        · obtain ⟨o, h1, h2, _⟩ := E13.ex
          exact hPO 13 o _ h1 h2
        · obtain ⟨o, h1, h2, _⟩ := E14.ex
          exact hPO 14 o _ h1 h2
        · rfl
        · rfl
        · rfl
        · rfl
        · obtain ⟨o, h1, h2, _⟩ := E19.ex
          exact hPO 19 o _ h1 h2
      · intro t ht
        exact hRE t (not_of (by rw [hds]; exact not_cont rfl ht))
    rw [e]
    exact hend (fun d => y.tmps.getD d undef) w hinv
end Go.Proofs.Ytlekmgjjjniomaa
