/- CommitKin: each member of a whole commit is kin of just those with its old configuration. No conditions. -/
import Derived.Test.YtlekmgjjjniomaaUj
import Derived.Test.YtlekmgjjjniomaaUk
import Derived.Test.YtlekmgjjjniomaaRge
import Derived.Deep.DeepCutAuto
import Derived.Deep.Light
namespace Go.Proofs.Ytlekmgjjjniomaa
open Go.RowKit
/-- What is said of a slot. -/
def p_rk16 (gx gy : Nat) (M : Nat) (_x0 x1 x2 _x3 _x4 _x5 y0 y1 y2 _y3 _y4 _y5 : Int) (cb : Bool) (i : Nat) (v : Value) (_w : World) : Prop :=
  match i with
  | 0 => v = .int .i64 (M : Int)
  | 1 => v = .pointer (some ⟨gy, 0, none⟩)
  | 2 => v = .int .i64 y0
  | 3 => v = .bool cb
  | 4 => v = .pointer (some ⟨gy, 1, none⟩)
  | 5 => v = .agg #[.int .i64 y1, .int .i64 y2]
  | 6 => v = .pointer (some ⟨gx, 1, none⟩)
  | 7 => v = .agg #[.int .i64 x1, .int .i64 x2]
  | 8 => v = .bool (decide (y1 = x1) && decide (y2 = x2))
  | 9 => v = .bool (cb != (decide (y1 = x1) && decide (y2 = x2)))
  | _ => True
/-- Its operations. -/
structure O_rk16 (ops : Array Oper) : Prop where
  e0 : Is ops 0 (some 75) (Op.move (Operand.tmp 8)) none []
  e1 : Is ops 1 (some 76) (Op.fieldAddr 28 (Operand.tmp 15) 0) none []
  e2 : Is ops 2 (some 77) (Op.load 3 (Operand.tmp 76)) none [1]
  e3 : Is ops 3 (some 78) (Op.call { callee := Callee.value (Operand.func 27), args := #[Operand.tmp 75, Operand.tmp 77], argTypes := #[3, 3] }) none [0, 2]
  e4 : Is ops 4 (some 79) (Op.fieldAddr 28 (Operand.tmp 15) 1) none []
  e5 : Is ops 5 (some 80) (Op.load 23 (Operand.tmp 79)) none [4]
  e6 : Is ops 6 (some 81) (Op.fieldAddr 28 (Operand.tmp 7) 1) none []
  e7 : Is ops 7 (some 82) (Op.load 23 (Operand.tmp 81)) none [6]
  e8 : Is ops 8 (some 83) (Op.binOp BinOp.eql 23 (Operand.tmp 80) (Operand.tmp 82) 23) none [5, 7]
  e9 : Is ops 9 (some 84) (Op.binOp BinOp.neq 4 (Operand.tmp 78) (Operand.tmp 83) 4) none [3, 8]
set_option maxRecDepth 100000 in
set_option maxHeartbeats 4000000 in
theorem rk16 {ops : Array Oper} {id : Nat} {a0 : Act} {w0 : World} {Q : Exit → Act → World → Prop} (gx gy : Nat) (M : Nat) (x0 x1 x2 x3 x4 x5 y0 y1 y2 y3 y4 y5 : Int) (cb : Bool)
    (E : O_rk16 ops) (hN : ops.size = 10) (hlow : lowB ops = true) (hds : dsts ops = [some 75, some 76, some 77, some 78, some 79, some 80, some 81, some 82, some 83, some 84]) (hnd : injB ops = true) (ha0 : a0.tmps.size = 140)
    (b7 : a0.tmps.getD 7 undef = .pointer (some ⟨gx, 0, none⟩))
    (b8 : a0.tmps.getD 8 undef = .int .i64 (M : Int))
    (b15 : a0.tmps.getD 15 undef = .pointer (some ⟨gy, 0, none⟩))
    (k_gy_0 : w0.cell? ⟨gy, 0, none⟩ = some (.int .i64 y0))
    (k_gy_1 : w0.cell? ⟨gy, 1, none⟩ = some (.int .i64 y1))
    (k_gy_2 : w0.cell? ⟨gy, 2, none⟩ = some (.int .i64 y2))
    (_k_gy_3 : w0.cell? ⟨gy, 3, none⟩ = some (.int .i64 y3))
    (_k_gy_4 : w0.cell? ⟨gy, 4, none⟩ = some (.int .i64 y4))
    (_k_gy_5 : w0.cell? ⟨gy, 5, none⟩ = some (.int .i64 y5))
    (_k_gx_0 : w0.cell? ⟨gx, 0, none⟩ = some (.int .i64 x0))
    (k_gx_1 : w0.cell? ⟨gx, 1, none⟩ = some (.int .i64 x1))
    (k_gx_2 : w0.cell? ⟨gx, 2, none⟩ = some (.int .i64 x2))
    (_k_gx_3 : w0.cell? ⟨gx, 3, none⟩ = some (.int .i64 x3))
    (_k_gx_4 : w0.cell? ⟨gx, 4, none⟩ = some (.int .i64 x4))
    (_k_gx_5 : w0.cell? ⟨gx, 5, none⟩ = some (.int .i64 x5))
    (H3 : ∀ (W : World), Mod (fun _ => False) w0 W → Calls Try.prog 27 #[.int .i64 (M : Int), .int .i64 y0] W fun e w' => e = .returned (.bool cb) ∧ Mod (fun _ => False) W w')
    (hend : ∀ (_f : Nat → Value) (w : World), Mod (fun _ => False) w0 w → Q .normal (puts a0 [(75, .int .i64 (M : Int)), (76, .pointer (some ⟨gy, 0, none⟩)), (77, .int .i64 y0), (78, .bool cb), (79, .pointer (some ⟨gy, 1, none⟩)), (80, .agg #[.int .i64 y1, .int .i64 y2]), (81, .pointer (some ⟨gx, 1, none⟩)), (82, .agg #[.int .i64 x1, .int .i64 x2]), (83, .bool (decide (y1 = x1) && decide (y2 = x2))), (84, .bool (cb != (decide (y1 = x1) && decide (y2 = x2))))]) w) :
    (Code.region id ops true).wp Try.prog Q a0 w0 := by
  obtain ⟨E0, E1, E2, E3, E4, E5, E6, E7, E8, E9⟩ := E
  have hstay : ∀ (i : Nat) (v : Value) (w w1 : World), Mod (fun _ => False) w w1 → (p_rk16 gx gy M x0 x1 x2 x3 x4 x5 y0 y1 y2 y3 y4 y5 cb) i v w → (p_rk16 gx gy M x0 x1 x2 x3 x4 x5 y0 y1 y2 y3 y4 y5 cb) i v w1 := fun _ _ _ _ _ h => h
  have s0 : ∀ o, ops[0]? = some o → StepI Try.prog ops (p_rk16 gx gy M x0 x1 x2 x3 x4 x5 y0 y1 y2 y3 y4 y5 cb) (fun (_ : Array Bool) (_ : Act) (w : World) => Mod (fun _ => False) w0 w) a0 Q 0 o := by
    refine E0.stepI fun o hd ho hg hw => ?_
    intro y w listed hsz hls hun hwt hdown D' hRR hinv K hK
    have f8 : y.eval (Operand.tmp 8) = .int .i64 (M : Int)   := (hRR 8 (not_of (by rw [hds]; decide))).trans b8
    exact .inl ⟨wanted_none hg, wp_value (ox_move ho f8) (hK _ _ (fun _ _ _ _ _ _ h => h) rfl hinv)⟩
  have s1 : ∀ o, ops[1]? = some o → StepI Try.prog ops (p_rk16 gx gy M x0 x1 x2 x3 x4 x5 y0 y1 y2 y3 y4 y5 cb) (fun (_ : Array Bool) (_ : Act) (w : World) => Mod (fun _ => False) w0 w) a0 Q 1 o := by
    refine E1.stepI fun o hd ho hg hw => ?_
    intro y w listed hsz hls hun hwt hdown D' hRR hinv K hK
    have f15 : y.eval (Operand.tmp 15) = .pointer (some ⟨gy, 0, none⟩)   := (hRR 15 (not_of (by rw [hds]; decide))).trans b15
    exact .inl ⟨wanted_none hg, wp_value (ox_field (v := .pointer (some ⟨gy, 0, none⟩)) ho f15 (by simp [go_sem])) (hK _ _ (fun _ _ _ _ _ _ h => h) rfl hinv)⟩
  have s2 : ∀ o, ops[2]? = some o → StepI Try.prog ops (p_rk16 gx gy M x0 x1 x2 x3 x4 x5 y0 y1 y2 y3 y4 y5 cb) (fun (_ : Array Bool) (_ : Act) (w : World) => Mod (fun _ => False) w0 w) a0 Q 2 o := by
    refine E2.stepI fun o hd ho hg hw => ?_
    intro y w listed hsz hls hun hwt hdown D' hRR hinv K hK
    have f76 : y.eval (Operand.tmp 76) = .pointer (some ⟨gy, 0, none⟩) := E1.postI (Post := (p_rk16 gx gy M x0 x1 x2 x3 x4 x5 y0 y1 y2 y3 y4 y5 cb)) (a := y) (w := w) D' (hwt 1 (hw 1 (by simp)))
    have h0 := hinv.cell k_gy_0 (fun h => h)
    exact .inl ⟨wanted_none hg, wp_value (ox_load (v := .int .i64 y0) ho f76 (by simp [go_sem, h0])) (hK _ _ (fun _ _ _ _ _ _ h => h) rfl hinv)⟩
  have s3 : ∀ o, ops[3]? = some o → StepI Try.prog ops (p_rk16 gx gy M x0 x1 x2 x3 x4 x5 y0 y1 y2 y3 y4 y5 cb) (fun (_ : Array Bool) (_ : Act) (w : World) => Mod (fun _ => False) w0 w) a0 Q 3 o := by
    refine E3.stepI fun o hd ho hg hw => ?_
    intro y w listed hsz hls hun hwt hdown D' hRR hinv K hK
    have f75 : y.eval (Operand.tmp 75) = .int .i64 (M : Int) := E0.postI (Post := (p_rk16 gx gy M x0 x1 x2 x3 x4 x5 y0 y1 y2 y3 y4 y5 cb)) (a := y) (w := w) D' (hwt 0 (hw 0 (by simp)))
    have f77 : y.eval (Operand.tmp 77) = .int .i64 y0 := E2.postI (Post := (p_rk16 gx gy M x0 x1 x2 x3 x4 x5 y0 y1 y2 y3 y4 y5 cb)) (a := y) (w := w) D' (hwt 2 (hw 2 (by simp)))
    refine .inl ⟨wanted_none hg, wp_enter (f := 27) (args := #[.int .i64 (M : Int), .int .i64 y0]) ?_ (H3 w  hinv ) ?_⟩
    · have h := exec_call2 y.eval (fun args w => by simp [go_sem]) rfl ho (w := w)
      rw [f75, f77] at h
      exact h
    · rintro e w' ⟨rfl, hm⟩
      exact ⟨_, rfl, hK _ _ (fun j oj d _ _ _ h => hstay _ _ _ _ hm h) rfl (hinv.and hm)⟩
  have s4 : ∀ o, ops[4]? = some o → StepI Try.prog ops (p_rk16 gx gy M x0 x1 x2 x3 x4 x5 y0 y1 y2 y3 y4 y5 cb) (fun (_ : Array Bool) (_ : Act) (w : World) => Mod (fun _ => False) w0 w) a0 Q 4 o := by
    refine E4.stepI fun o hd ho hg hw => ?_
    intro y w listed hsz hls hun hwt hdown D' hRR hinv K hK
    have f15 : y.eval (Operand.tmp 15) = .pointer (some ⟨gy, 0, none⟩)   := (hRR 15 (not_of (by rw [hds]; decide))).trans b15
    exact .inl ⟨wanted_none hg, wp_value (ox_field (v := .pointer (some ⟨gy, 1, none⟩)) ho f15 (by simp [go_sem])) (hK _ _ (fun _ _ _ _ _ _ h => h) rfl hinv)⟩
  have s5 : ∀ o, ops[5]? = some o → StepI Try.prog ops (p_rk16 gx gy M x0 x1 x2 x3 x4 x5 y0 y1 y2 y3 y4 y5 cb) (fun (_ : Array Bool) (_ : Act) (w : World) => Mod (fun _ => False) w0 w) a0 Q 5 o := by
    refine E5.stepI fun o hd ho hg hw => ?_
    intro y w listed hsz hls hun hwt hdown D' hRR hinv K hK
    have f79 : y.eval (Operand.tmp 79) = .pointer (some ⟨gy, 1, none⟩) := E4.postI (Post := (p_rk16 gx gy M x0 x1 x2 x3 x4 x5 y0 y1 y2 y3 y4 y5 cb)) (a := y) (w := w) D' (hwt 4 (hw 4 (by simp)))
    have h0 := hinv.cell k_gy_1 (fun h => h)
    have h1 := hinv.cell k_gy_2 (fun h => h)
    exact .inl ⟨wanted_none hg, wp_value (ox_load (v := .agg #[.int .i64 y1, .int .i64 y2]) ho f79 (by simp [go_sem, h0, h1])) (hK _ _ (fun _ _ _ _ _ _ h => h) rfl hinv)⟩
  have s6 : ∀ o, ops[6]? = some o → StepI Try.prog ops (p_rk16 gx gy M x0 x1 x2 x3 x4 x5 y0 y1 y2 y3 y4 y5 cb) (fun (_ : Array Bool) (_ : Act) (w : World) => Mod (fun _ => False) w0 w) a0 Q 6 o := by
    refine E6.stepI fun o hd ho hg hw => ?_
    intro y w listed hsz hls hun hwt hdown D' hRR hinv K hK
    have f7 : y.eval (Operand.tmp 7) = .pointer (some ⟨gx, 0, none⟩)   := (hRR 7 (not_of (by rw [hds]; decide))).trans b7
    exact .inl ⟨wanted_none hg, wp_value (ox_field (v := .pointer (some ⟨gx, 1, none⟩)) ho f7 (by simp [go_sem])) (hK _ _ (fun _ _ _ _ _ _ h => h) rfl hinv)⟩
  have s7 : ∀ o, ops[7]? = some o → StepI Try.prog ops (p_rk16 gx gy M x0 x1 x2 x3 x4 x5 y0 y1 y2 y3 y4 y5 cb) (fun (_ : Array Bool) (_ : Act) (w : World) => Mod (fun _ => False) w0 w) a0 Q 7 o := by
    refine E7.stepI fun o hd ho hg hw => ?_
    intro y w listed hsz hls hun hwt hdown D' hRR hinv K hK
    have f81 : y.eval (Operand.tmp 81) = .pointer (some ⟨gx, 1, none⟩) := E6.postI (Post := (p_rk16 gx gy M x0 x1 x2 x3 x4 x5 y0 y1 y2 y3 y4 y5 cb)) (a := y) (w := w) D' (hwt 6 (hw 6 (by simp)))
    have h0 := hinv.cell k_gx_1 (fun h => h)
    have h1 := hinv.cell k_gx_2 (fun h => h)
    exact .inl ⟨wanted_none hg, wp_value (ox_load (v := .agg #[.int .i64 x1, .int .i64 x2]) ho f81 (by simp [go_sem, h0, h1])) (hK _ _ (fun _ _ _ _ _ _ h => h) rfl hinv)⟩
  have s8 : ∀ o, ops[8]? = some o → StepI Try.prog ops (p_rk16 gx gy M x0 x1 x2 x3 x4 x5 y0 y1 y2 y3 y4 y5 cb) (fun (_ : Array Bool) (_ : Act) (w : World) => Mod (fun _ => False) w0 w) a0 Q 8 o := by
    refine E8.stepI fun o hd ho hg hw => ?_
    intro y w listed hsz hls hun hwt hdown D' hRR hinv K hK
    have f80 : y.eval (Operand.tmp 80) = .agg #[.int .i64 y1, .int .i64 y2] := E5.postI (Post := (p_rk16 gx gy M x0 x1 x2 x3 x4 x5 y0 y1 y2 y3 y4 y5 cb)) (a := y) (w := w) D' (hwt 5 (hw 5 (by simp)))
    have f82 : y.eval (Operand.tmp 82) = .agg #[.int .i64 x1, .int .i64 x2] := E7.postI (Post := (p_rk16 gx gy M x0 x1 x2 x3 x4 x5 y0 y1 y2 y3 y4 y5 cb)) (a := y) (w := w) D' (hwt 7 (hw 7 (by simp)))
    exact .inl ⟨wanted_none hg, wp_value (rx_eqlR ho f80 f82) (hK _ _ (fun _ _ _ _ _ _ h => h) rfl hinv)⟩
  have s9 : ∀ o, ops[9]? = some o → StepI Try.prog ops (p_rk16 gx gy M x0 x1 x2 x3 x4 x5 y0 y1 y2 y3 y4 y5 cb) (fun (_ : Array Bool) (_ : Act) (w : World) => Mod (fun _ => False) w0 w) a0 Q 9 o := by
    refine E9.stepI fun o hd ho hg hw => ?_
    intro y w listed hsz hls hun hwt hdown D' hRR hinv K hK
    have f78 : y.eval (Operand.tmp 78) = .bool cb := E3.postI (Post := (p_rk16 gx gy M x0 x1 x2 x3 x4 x5 y0 y1 y2 y3 y4 y5 cb)) (a := y) (w := w) D' (hwt 3 (hw 3 (by simp)))
    have f83 : y.eval (Operand.tmp 83) = .bool (decide (y1 = x1) && decide (y2 = x2)) := E8.postI (Post := (p_rk16 gx gy M x0 x1 x2 x3 x4 x5 y0 y1 y2 y3 y4 y5 cb)) (a := y) (w := w) D' (hwt 8 (hw 8 (by simp)))
    exact .inl ⟨wanted_none hg, wp_value (rx_neqB ho f78 f83) (hK _ _ (fun _ _ _ _ _ _ h => h) rfl hinv)⟩
  refine region_freeI (Post := (p_rk16 gx gy M x0 x1 x2 x3 x4 x5 y0 y1 y2 y3 y4 y5 cb)) (Inv := (fun (_ : Array Bool) (_ : Act) (w : World) => Mod (fun _ => False) w0 w)) mixed (low_of hlow) (fun i o ho => by rw [ha0]; exact dst_of (by rw [hds]; decide) i o ho) (inj_of hnd) (Mod.refl _ _).drew ?_ ?_
  · intro i o ho
    have hi : i < 10 := by
      rw [← hN]
      rcases Nat.lt_or_ge i ops.size with h | h
      · exact h
      · rw [Array.getElem?_eq_none h] at ho; cases ho
    clear hend
    by_cases e0 : i = 0
    · subst e0; exact s0 o ho
    by_cases e1 : i = 1
    · subst e1; exact s1 o ho
    by_cases e2 : i = 2
    · subst e2; exact s2 o ho
    by_cases e3 : i = 3
    · subst e3; exact s3 o ho
    by_cases e4 : i = 4
    · subst e4; exact s4 o ho
    by_cases e5 : i = 5
    · subst e5; exact s5 o ho
    by_cases e6 : i = 6
    · subst e6; exact s6 o ho
    by_cases e7 : i = 7
    · subst e7; exact s7 o ho
    by_cases e8 : i = 8
    · subst e8; exact s8 o ho
    by_cases e9 : i = 9
    · subst e9; exact s9 o ho
    omega
  · intro y w listed hsz hdf hls hall hinv hPO hRE
    have e : y = puts a0 [(75, .int .i64 (M : Int)), (76, .pointer (some ⟨gy, 0, none⟩)), (77, .int .i64 y0), (78, .bool cb), (79, .pointer (some ⟨gy, 1, none⟩)), (80, .agg #[.int .i64 y1, .int .i64 y2]), (81, .pointer (some ⟨gx, 1, none⟩)), (82, .agg #[.int .i64 x1, .int .i64 x2]), (83, .bool (decide (y1 = x1) && decide (y2 = x2))), (84, .bool (cb != (decide (y1 = x1) && decide (y2 = x2))))] := by
      refine eq_puts hsz hdf (nodup_of (D := [some 75, some 76, some 77, some 78, some 79, some 80, some 81, some 82, some 83, some 84]) rfl (by decide)) (by rw [ha0]; simp) ?_ ?_
      · intro q hq
        simp only [List.mem_cons, List.not_mem_nil, or_false] at hq
        rcases hq with rfl | rfl | rfl | rfl | rfl | rfl | rfl | rfl | rfl | rfl
        · obtain ⟨o, h1, h2, _⟩ := E0.ex
          exact hPO 0 o _ h1 h2
        · obtain ⟨o, h1, h2, _⟩ := E1.ex
          exact hPO 1 o _ h1 h2
        · obtain ⟨o, h1, h2, _⟩ := E2.ex
          exact hPO 2 o _ h1 h2
        · obtain ⟨o, h1, h2, _⟩ := E3.ex
          exact hPO 3 o _ h1 h2
        · obtain ⟨o, h1, h2, _⟩ := E4.ex
          exact hPO 4 o _ h1 h2
        · obtain ⟨o, h1, h2, _⟩ := E5.ex
          exact hPO 5 o _ h1 h2
        · obtain ⟨o, h1, h2, _⟩ := E6.ex
          exact hPO 6 o _ h1 h2
        · obtain ⟨o, h1, h2, _⟩ := E7.ex
          exact hPO 7 o _ h1 h2
        · obtain ⟨o, h1, h2, _⟩ := E8.ex
          exact hPO 8 o _ h1 h2
        · obtain ⟨o, h1, h2, _⟩ := E9.ex
          exact hPO 9 o _ h1 h2
      · intro t ht
        exact hRE t (not_of (by rw [hds]; exact not_cont rfl ht))
    rw [e]
    exact hend (fun d => y.tmps.getD d undef) w hinv
/-- What is said of a slot. -/
def p_rk24 (_gc gx : Nat) (M T S : Int) (n : Nat) (lb mb : Bool) (c0 c1 c2 c3 c4 : Value) (_x0 _x1 _x2 _x3 _x4 x5 : Int) (i : Nat) (v : Value) (_w : World) : Prop :=
  match i with
  | 0 => v = .int .i64 M
  | 1 => v = .int .i64 (n : Int)
  | 2 => v = .int .i64 T
  | 3 => v = .bool ((n : Int) != T)
  | 4 => v = .bool ((n : Int) != T)
  | 5 => v = if (!((n : Int) != T)) = true then .bool lb else undef
  | 6 => v = if (!((n : Int) != T)) = true then .bool (!lb) else undef
  | 7 => v = .bool (((n : Int) != T) || (!lb))
  | 8 => v = .bool (((n : Int) != T) || (!lb))
  | 9 => v = if (!(((n : Int) != T) || (!lb))) = true then .bool mb else undef
  | 10 => v = if (!(((n : Int) != T) || (!lb))) = true then .bool (!mb) else undef
  | 11 => v = .bool ((((n : Int) != T) || (!lb)) || (!mb))
  | 12 => v = .bool ((((n : Int) != T) || (!lb)) || (!mb))
  | 13 => v = if (!((((n : Int) != T) || (!lb)) || (!mb))) = true then .agg #[c0, c1, c2, c3, c4] else undef
  | 14 => v = if (!((((n : Int) != T) || (!lb)) || (!mb))) = true then .int .i64 S else undef
  | 15 => v = if (!((((n : Int) != T) || (!lb)) || (!mb))) = true then .pointer (some ⟨gx, 5, none⟩) else undef
  | 16 => v = if (!((((n : Int) != T) || (!lb)) || (!mb))) = true then .int .i64 x5 else undef
  | 17 => v = if (!((((n : Int) != T) || (!lb)) || (!mb))) = true then .bool (decide (S ≤ x5)) else undef
  | 18 => v = if (!((((n : Int) != T) || (!lb)) || (!mb))) = true then .bool (decide (S ≤ x5)) else undef
  | 19 => v = if ((!((((n : Int) != T) || (!lb)) || (!mb))) && (decide (S ≤ x5))) = true then .pointer (some ⟨gx, 5, none⟩) else undef
  | 20 => v = if ((!((((n : Int) != T) || (!lb)) || (!mb))) && (decide (S ≤ x5))) = true then .int .i64 x5 else undef
  | 21 => v = if ((!((((n : Int) != T) || (!lb)) || (!mb))) && (decide (S ≤ x5))) = true then .bool (decide (x5 < 9007199254740991)) else undef
  | 22 => v = if (!((((n : Int) != T) || (!lb)) || (!mb))) = true then .bool ((decide (S ≤ x5)) && (decide (x5 < 9007199254740991))) else undef
  | 23 => v = .bool (((((n : Int) != T) || (!lb)) || (!mb)) || ((decide (S ≤ x5)) && (decide (x5 < 9007199254740991))))
  | _ => True
/-- Its operations. -/
structure O_rk24 (ops : Array Oper) : Prop where
  e0 : Is ops 0 (some 116) (Op.move (Operand.tmp 8)) none []
  e1 : Is ops 1 (some 117) (Op.call { callee := Callee.value (Operand.func 28), args := #[Operand.tmp 116], argTypes := #[3] }) none [0]
  e2 : Is ops 2 (some 118) (Op.move (Operand.tmp 11)) none []
  e3 : Is ops 3 (some 119) (Op.binOp BinOp.neq 3 (Operand.tmp 117) (Operand.tmp 118) 3) none [1, 2]
  e4 : Is ops 4 (some 120) (Op.move (Operand.tmp 119)) none [1, 3]
  e5 : Is ops 5 (some 121) (Op.move (Operand.tmp 12)) (some (4, false)) [4]
  e6 : Is ops 6 (some 122) (Op.unOp UnOp.not 4 (Operand.tmp 121)) (some (4, false)) [4, 5]
  e7 : Is ops 7 (some 123) (Op.pick (Operand.tmp 120) (Operand.const (Value.bool true)) (Operand.tmp 122)) none [4, 6]
  e8 : Is ops 8 (some 124) (Op.move (Operand.tmp 123)) none [4, 7]
  e9 : Is ops 9 (some 125) (Op.move (Operand.tmp 13)) (some (8, false)) [8]
  e10 : Is ops 10 (some 126) (Op.unOp UnOp.not 4 (Operand.tmp 125)) (some (8, false)) [8, 9]
  e11 : Is ops 11 (some 127) (Op.pick (Operand.tmp 124) (Operand.const (Value.bool true)) (Operand.tmp 126)) none [8, 10]
  e12 : Is ops 12 (some 128) (Op.move (Operand.tmp 127)) none [8, 11]
  e13 : Is ops 13 (some 129) (Op.load 26 (Operand.tmp 1)) (some (12, false)) [12]
  e14 : Is ops 14 (some 130) (Op.call { callee := Callee.value (Operand.func 23), args := #[Operand.tmp 129], argTypes := #[26] }) (some (12, false)) [12, 13]
  e15 : Is ops 15 (some 131) (Op.fieldAddr 28 (Operand.tmp 7) 4) (some (12, false)) [12]
  e16 : Is ops 16 (some 132) (Op.load 3 (Operand.tmp 131)) (some (12, false)) [12, 15]
  e17 : Is ops 17 (some 133) (Op.binOp BinOp.leq 3 (Operand.tmp 130) (Operand.tmp 132) 3) (some (12, false)) [12, 14, 16]
  e18 : Is ops 18 (some 134) (Op.move (Operand.tmp 133)) (some (12, false)) [12, 14, 17]
  e19 : Is ops 19 (some 135) (Op.fieldAddr 28 (Operand.tmp 7) 4) (some (18, true)) [18]
  e20 : Is ops 20 (some 136) (Op.load 3 (Operand.tmp 135)) (some (18, true)) [18, 19]
  e21 : Is ops 21 (some 137) (Op.binOp BinOp.lss 3 (Operand.tmp 136) (Operand.const (Value.int IntKind.i64 9007199254740991)) 3) (some (18, true)) [18, 20]
  e22 : Is ops 22 (some 138) (Op.pick (Operand.tmp 134) (Operand.tmp 137) (Operand.const (Value.bool false))) (some (12, false)) [12, 18, 21]
  e23 : Is ops 23 (some 139) (Op.pick (Operand.tmp 128) (Operand.const (Value.bool true)) (Operand.tmp 138)) none [12, 22]
set_option maxRecDepth 100000 in
set_option maxHeartbeats 4000000 in
theorem rk24 {ops : Array Oper} {id : Nat} {a0 : Act} {w0 : World} {Q : Exit → Act → World → Prop} (gc gx : Nat) (M T S : Int) (n : Nat) (lb mb : Bool) (c0 c1 c2 c3 c4 : Value) (x0 x1 x2 x3 x4 x5 : Int)
    (E : O_rk24 ops) (hN : ops.size = 24) (hlow : lowB ops = true) (hds : dsts ops = [some 116, some 117, some 118, some 119, some 120, some 121, some 122, some 123, some 124, some 125, some 126, some 127, some 128, some 129, some 130, some 131, some 132, some 133, some 134, some 135, some 136, some 137, some 138, some 139]) (hnd : injB ops = true) (ha0 : a0.tmps.size = 140)
    (b1 : a0.tmps.getD 1 undef = .pointer (some ⟨gc, 0, none⟩))
    (b7 : a0.tmps.getD 7 undef = .pointer (some ⟨gx, 0, none⟩))
    (b8 : a0.tmps.getD 8 undef = .int .i64 M)
    (b11 : a0.tmps.getD 11 undef = .int .i64 T)
    (b12 : a0.tmps.getD 12 undef = .bool lb)
    (b13 : a0.tmps.getD 13 undef = .bool mb)
    (k_gc_0 : w0.cell? ⟨gc, 0, none⟩ = some (c0))
    (k_gc_1 : w0.cell? ⟨gc, 1, none⟩ = some (c1))
    (k_gc_2 : w0.cell? ⟨gc, 2, none⟩ = some (c2))
    (k_gc_3 : w0.cell? ⟨gc, 3, none⟩ = some (c3))
    (k_gc_4 : w0.cell? ⟨gc, 4, none⟩ = some (c4))
    (_k_gx_0 : w0.cell? ⟨gx, 0, none⟩ = some (.int .i64 x0))
    (_k_gx_1 : w0.cell? ⟨gx, 1, none⟩ = some (.int .i64 x1))
    (_k_gx_2 : w0.cell? ⟨gx, 2, none⟩ = some (.int .i64 x2))
    (_k_gx_3 : w0.cell? ⟨gx, 3, none⟩ = some (.int .i64 x3))
    (_k_gx_4 : w0.cell? ⟨gx, 4, none⟩ = some (.int .i64 x4))
    (k_gx_5 : w0.cell? ⟨gx, 5, none⟩ = some (.int .i64 x5))
    (H1 : ∀ (W : World), Mod (fun _ => False) w0 W → Calls Try.prog 28 #[.int .i64 M] W fun e w' => e = .returned (.int .i64 (n : Int)) ∧ Mod (fun _ => False) W w')
    (H14 : ∀ (W : World), Mod (fun _ => False) w0 W → Calls Try.prog 23 #[.agg #[c0, c1, c2, c3, c4]] W fun e w' => e = .returned (.int .i64 S) ∧ Mod (fun _ => False) W w')
    (hend : ∀ (f : Nat → Value) (w : World), Mod (fun _ => False) w0 w → Q .normal (puts a0 [(116, .int .i64 M), (117, .int .i64 (n : Int)), (118, .int .i64 T), (119, .bool ((n : Int) != T)), (120, .bool ((n : Int) != T)), (121, f 121), (122, f 122), (123, .bool (((n : Int) != T) || (!lb))), (124, .bool (((n : Int) != T) || (!lb))), (125, f 125), (126, f 126), (127, .bool ((((n : Int) != T) || (!lb)) || (!mb))), (128, .bool ((((n : Int) != T) || (!lb)) || (!mb))), (129, f 129), (130, f 130), (131, f 131), (132, f 132), (133, f 133), (134, f 134), (135, f 135), (136, f 136), (137, f 137), (138, f 138), (139, .bool (((((n : Int) != T) || (!lb)) || (!mb)) || ((decide (S ≤ x5)) && (decide (x5 < 9007199254740991)))))]) w) :
    (Code.region id ops true).wp Try.prog Q a0 w0 := by
  obtain ⟨E0, E1, E2, E3, E4, E5, E6, E7, E8, E9, E10, E11, E12, E13, E14, E15, E16, E17, E18, E19, E20, E21, E22, E23⟩ := E
  have hstay : ∀ (i : Nat) (v : Value) (w w1 : World), Mod (fun _ => False) w w1 → (p_rk24 gc gx M T S n lb mb c0 c1 c2 c3 c4 x0 x1 x2 x3 x4 x5) i v w → (p_rk24 gc gx M T S n lb mb c0 c1 c2 c3 c4 x0 x1 x2 x3 x4 x5) i v w1 := fun _ _ _ _ _ h => h
  have s0 : ∀ o, ops[0]? = some o → StepI Try.prog ops (p_rk24 gc gx M T S n lb mb c0 c1 c2 c3 c4 x0 x1 x2 x3 x4 x5) (fun (_ : Array Bool) (_ : Act) (w : World) => Mod (fun _ => False) w0 w) a0 Q 0 o := by
    refine E0.stepI fun o hd ho hg hw => ?_
    intro y w listed hsz hls hun hwt hdown D' hRR hinv K hK
    have f8 : y.eval (Operand.tmp 8) = .int .i64 M   := (hRR 8 (not_of (by rw [hds]; decide))).trans b8
    exact .inl ⟨wanted_none hg, wp_value (ox_move ho f8) (hK _ _ (fun _ _ _ _ _ _ h => h) rfl hinv)⟩
  have s1 : ∀ o, ops[1]? = some o → StepI Try.prog ops (p_rk24 gc gx M T S n lb mb c0 c1 c2 c3 c4 x0 x1 x2 x3 x4 x5) (fun (_ : Array Bool) (_ : Act) (w : World) => Mod (fun _ => False) w0 w) a0 Q 1 o := by
    refine E1.stepI fun o hd ho hg hw => ?_
    intro y w listed hsz hls hun hwt hdown D' hRR hinv K hK
    have f116 : y.eval (Operand.tmp 116) = .int .i64 M := E0.postI (Post := (p_rk24 gc gx M T S n lb mb c0 c1 c2 c3 c4 x0 x1 x2 x3 x4 x5)) (a := y) (w := w) D' (hwt 0 (hw 0 (by simp)))
    refine .inl ⟨wanted_none hg, wp_enter (f := 28) (args := #[.int .i64 M]) ?_ (H1 w  hinv ) ?_⟩
    · have h := exec_call1 y.eval (fun args w => by simp [go_sem]) rfl ho (w := w)
      rw [f116] at h
      exact h
    · rintro e w' ⟨rfl, hm⟩
      exact ⟨_, rfl, hK _ _ (fun j oj d _ _ _ h => hstay _ _ _ _ hm h) rfl (hinv.and hm)⟩
  have s2 : ∀ o, ops[2]? = some o → StepI Try.prog ops (p_rk24 gc gx M T S n lb mb c0 c1 c2 c3 c4 x0 x1 x2 x3 x4 x5) (fun (_ : Array Bool) (_ : Act) (w : World) => Mod (fun _ => False) w0 w) a0 Q 2 o := by
    refine E2.stepI fun o hd ho hg hw => ?_
    intro y w listed hsz hls hun hwt hdown D' hRR hinv K hK
    have f11 : y.eval (Operand.tmp 11) = .int .i64 T   := (hRR 11 (not_of (by rw [hds]; decide))).trans b11
    exact .inl ⟨wanted_none hg, wp_value (ox_move ho f11) (hK _ _ (fun _ _ _ _ _ _ h => h) rfl hinv)⟩
  have s3 : ∀ o, ops[3]? = some o → StepI Try.prog ops (p_rk24 gc gx M T S n lb mb c0 c1 c2 c3 c4 x0 x1 x2 x3 x4 x5) (fun (_ : Array Bool) (_ : Act) (w : World) => Mod (fun _ => False) w0 w) a0 Q 3 o := by
    refine E3.stepI fun o hd ho hg hw => ?_
    intro y w listed hsz hls hun hwt hdown D' hRR hinv K hK
    have f117 : y.eval (Operand.tmp 117) = .int .i64 (n : Int) := E1.postI (Post := (p_rk24 gc gx M T S n lb mb c0 c1 c2 c3 c4 x0 x1 x2 x3 x4 x5)) (a := y) (w := w) D' (hwt 1 (hw 1 (by simp)))
    have f118 : y.eval (Operand.tmp 118) = .int .i64 T := E2.postI (Post := (p_rk24 gc gx M T S n lb mb c0 c1 c2 c3 c4 x0 x1 x2 x3 x4 x5)) (a := y) (w := w) D' (hwt 2 (hw 2 (by simp)))
    exact .inl ⟨wanted_none hg, wp_value (rx_neq ho f117 f118) (hK _ _ (fun _ _ _ _ _ _ h => h) rfl hinv)⟩
  have s4 : ∀ o, ops[4]? = some o → StepI Try.prog ops (p_rk24 gc gx M T S n lb mb c0 c1 c2 c3 c4 x0 x1 x2 x3 x4 x5) (fun (_ : Array Bool) (_ : Act) (w : World) => Mod (fun _ => False) w0 w) a0 Q 4 o := by
    refine E4.stepI fun o hd ho hg hw => ?_
    intro y w listed hsz hls hun hwt hdown D' hRR hinv K hK
    have f119 : y.eval (Operand.tmp 119) = .bool ((n : Int) != T) := E3.postI (Post := (p_rk24 gc gx M T S n lb mb c0 c1 c2 c3 c4 x0 x1 x2 x3 x4 x5)) (a := y) (w := w) D' (hwt 3 (hw 3 (by simp)))
    exact .inl ⟨wanted_none hg, wp_value (ox_move ho f119) (hK _ _ (fun _ _ _ _ _ _ h => h) rfl hinv)⟩
  have s5 : ∀ o, ops[5]? = some o → StepI Try.prog ops (p_rk24 gc gx M T S n lb mb c0 c1 c2 c3 c4 x0 x1 x2 x3 x4 x5) (fun (_ : Array Bool) (_ : Act) (w : World) => Mod (fun _ => False) w0 w) a0 Q 5 o := by
    refine E5.stepI fun o hd ho hg hw => ?_
    intro y w listed hsz hls hun hwt hdown D' hRR hinv K hK
    have gv : y.tmps.getD 120 undef = .bool ((n : Int) != T) := E4.postI (Post := (p_rk24 gc gx M T S n lb mb c0 c1 c2 c3 c4 x0 x1 x2 x3 x4 x5)) (a := y) (w := w) D' (hwt 4 (hw 4 (by simp)))
    have wt : Region.wanted o (yielded ops y.tmps) = (!((n : Int) != T)) := by
      rw [wanted_b E4 hg (by rw [hsz, ha0]; decide) gv]
      cases ((n : Int) != T) <;> rfl
    cases hc : (!((n : Int) != T))
    · exact .inr ⟨wt.trans hc, hK _ _ (fun _ _ _ _ _ _ h => h) (by show undef = if (!((n : Int) != T)) = true then .bool lb else undef; rw [hc]; rfl) hinv⟩
    · have f12 : y.eval (Operand.tmp 12) = .bool lb   := (hRR 12 (not_of (by rw [hds]; decide))).trans b12
      exact .inl ⟨wt.trans hc, wp_value (ox_move ho f12) (hK _ _ (fun _ _ _ _ _ _ h => h) (by show _ = if (!((n : Int) != T)) = true then .bool lb else undef; rw [hc]; rfl) hinv)⟩
  have s6 : ∀ o, ops[6]? = some o → StepI Try.prog ops (p_rk24 gc gx M T S n lb mb c0 c1 c2 c3 c4 x0 x1 x2 x3 x4 x5) (fun (_ : Array Bool) (_ : Act) (w : World) => Mod (fun _ => False) w0 w) a0 Q 6 o := by
    refine E6.stepI fun o hd ho hg hw => ?_
    intro y w listed hsz hls hun hwt hdown D' hRR hinv K hK
    have gv : y.tmps.getD 120 undef = .bool ((n : Int) != T) := E4.postI (Post := (p_rk24 gc gx M T S n lb mb c0 c1 c2 c3 c4 x0 x1 x2 x3 x4 x5)) (a := y) (w := w) D' (hwt 4 (hw 4 (by simp)))
    have wt : Region.wanted o (yielded ops y.tmps) = (!((n : Int) != T)) := by
      rw [wanted_b E4 hg (by rw [hsz, ha0]; decide) gv]
      cases ((n : Int) != T) <;> rfl
    cases hc : (!((n : Int) != T))
    · exact .inr ⟨wt.trans hc, hK _ _ (fun _ _ _ _ _ _ h => h) (by show undef = if (!((n : Int) != T)) = true then .bool (!lb) else undef; rw [hc]; rfl) hinv⟩
    · have f121 : y.eval (Operand.tmp 121) = .bool lb := (show y.eval (Operand.tmp 121) = (if (!((n : Int) != T)) = true then .bool lb else undef) from E5.postI (Post := (p_rk24 gc gx M T S n lb mb c0 c1 c2 c3 c4 x0 x1 x2 x3 x4 x5)) (a := y) (w := w) D' (hwt 5 (hw 5 (by simp)))).trans (if_pos hc)
      exact .inl ⟨wt.trans hc, wp_value (ox_not ho f121) (hK _ _ (fun _ _ _ _ _ _ h => h) (by show _ = if (!((n : Int) != T)) = true then .bool (!lb) else undef; rw [hc]; rfl) hinv)⟩
  have s7 : ∀ o, ops[7]? = some o → StepI Try.prog ops (p_rk24 gc gx M T S n lb mb c0 c1 c2 c3 c4 x0 x1 x2 x3 x4 x5) (fun (_ : Array Bool) (_ : Act) (w : World) => Mod (fun _ => False) w0 w) a0 Q 7 o := by
    refine E7.stepI fun o hd ho hg hw => ?_
    intro y w listed hsz hls hun hwt hdown D' hRR hinv K hK
    have f120 : y.eval (Operand.tmp 120) = .bool ((n : Int) != T) := E4.postI (Post := (p_rk24 gc gx M T S n lb mb c0 c1 c2 c3 c4 x0 x1 x2 x3 x4 x5)) (a := y) (w := w) D' (hwt 4 (hw 4 (by simp)))
    have f122 : y.eval (Operand.tmp 122) = if (!((n : Int) != T)) = true then .bool (!lb) else undef := E6.postI (Post := (p_rk24 gc gx M T S n lb mb c0 c1 c2 c3 c4 x0 x1 x2 x3 x4 x5)) (a := y) (w := w) D' (hwt 6 (hw 6 (by simp)))
    exact .inl ⟨wanted_none hg, wp_value (ox_pick (v := .bool (((n : Int) != T) || (!lb))) ho f120 (by rw [f122]; cases ((n : Int) != T) <;> rfl)) (hK _ _ (fun _ _ _ _ _ _ h => h) rfl hinv)⟩
  have s8 : ∀ o, ops[8]? = some o → StepI Try.prog ops (p_rk24 gc gx M T S n lb mb c0 c1 c2 c3 c4 x0 x1 x2 x3 x4 x5) (fun (_ : Array Bool) (_ : Act) (w : World) => Mod (fun _ => False) w0 w) a0 Q 8 o := by
    refine E8.stepI fun o hd ho hg hw => ?_
    intro y w listed hsz hls hun hwt hdown D' hRR hinv K hK
    have f123 : y.eval (Operand.tmp 123) = .bool (((n : Int) != T) || (!lb)) := E7.postI (Post := (p_rk24 gc gx M T S n lb mb c0 c1 c2 c3 c4 x0 x1 x2 x3 x4 x5)) (a := y) (w := w) D' (hwt 7 (hw 7 (by simp)))
    exact .inl ⟨wanted_none hg, wp_value (ox_move ho f123) (hK _ _ (fun _ _ _ _ _ _ h => h) rfl hinv)⟩
  have s9 : ∀ o, ops[9]? = some o → StepI Try.prog ops (p_rk24 gc gx M T S n lb mb c0 c1 c2 c3 c4 x0 x1 x2 x3 x4 x5) (fun (_ : Array Bool) (_ : Act) (w : World) => Mod (fun _ => False) w0 w) a0 Q 9 o := by
    refine E9.stepI fun o hd ho hg hw => ?_
    intro y w listed hsz hls hun hwt hdown D' hRR hinv K hK
    have gv : y.tmps.getD 124 undef = .bool (((n : Int) != T) || (!lb)) := E8.postI (Post := (p_rk24 gc gx M T S n lb mb c0 c1 c2 c3 c4 x0 x1 x2 x3 x4 x5)) (a := y) (w := w) D' (hwt 8 (hw 8 (by simp)))
    have wt : Region.wanted o (yielded ops y.tmps) = (!(((n : Int) != T) || (!lb))) := by
      rw [wanted_b E8 hg (by rw [hsz, ha0]; decide) gv]
      cases (((n : Int) != T) || (!lb)) <;> rfl
    cases hc : (!(((n : Int) != T) || (!lb)))
    · exact .inr ⟨wt.trans hc, hK _ _ (fun _ _ _ _ _ _ h => h) (by show undef = if (!(((n : Int) != T) || (!lb))) = true then .bool mb else undef; rw [hc]; rfl) hinv⟩
    · have f13 : y.eval (Operand.tmp 13) = .bool mb   := (hRR 13 (not_of (by rw [hds]; decide))).trans b13
      exact .inl ⟨wt.trans hc, wp_value (ox_move ho f13) (hK _ _ (fun _ _ _ _ _ _ h => h) (by show _ = if (!(((n : Int) != T) || (!lb))) = true then .bool mb else undef; rw [hc]; rfl) hinv)⟩
  have s10 : ∀ o, ops[10]? = some o → StepI Try.prog ops (p_rk24 gc gx M T S n lb mb c0 c1 c2 c3 c4 x0 x1 x2 x3 x4 x5) (fun (_ : Array Bool) (_ : Act) (w : World) => Mod (fun _ => False) w0 w) a0 Q 10 o := by
    refine E10.stepI fun o hd ho hg hw => ?_
    intro y w listed hsz hls hun hwt hdown D' hRR hinv K hK
    have gv : y.tmps.getD 124 undef = .bool (((n : Int) != T) || (!lb)) := E8.postI (Post := (p_rk24 gc gx M T S n lb mb c0 c1 c2 c3 c4 x0 x1 x2 x3 x4 x5)) (a := y) (w := w) D' (hwt 8 (hw 8 (by simp)))
    have wt : Region.wanted o (yielded ops y.tmps) = (!(((n : Int) != T) || (!lb))) := by
      rw [wanted_b E8 hg (by rw [hsz, ha0]; decide) gv]
      cases (((n : Int) != T) || (!lb)) <;> rfl
    cases hc : (!(((n : Int) != T) || (!lb)))
    · exact .inr ⟨wt.trans hc, hK _ _ (fun _ _ _ _ _ _ h => h) (by show undef = if (!(((n : Int) != T) || (!lb))) = true then .bool (!mb) else undef; rw [hc]; rfl) hinv⟩
    · have f125 : y.eval (Operand.tmp 125) = .bool mb := (show y.eval (Operand.tmp 125) = (if (!(((n : Int) != T) || (!lb))) = true then .bool mb else undef) from E9.postI (Post := (p_rk24 gc gx M T S n lb mb c0 c1 c2 c3 c4 x0 x1 x2 x3 x4 x5)) (a := y) (w := w) D' (hwt 9 (hw 9 (by simp)))).trans (if_pos hc)
      exact .inl ⟨wt.trans hc, wp_value (ox_not ho f125) (hK _ _ (fun _ _ _ _ _ _ h => h) (by show _ = if (!(((n : Int) != T) || (!lb))) = true then .bool (!mb) else undef; rw [hc]; rfl) hinv)⟩
  have s11 : ∀ o, ops[11]? = some o → StepI Try.prog ops (p_rk24 gc gx M T S n lb mb c0 c1 c2 c3 c4 x0 x1 x2 x3 x4 x5) (fun (_ : Array Bool) (_ : Act) (w : World) => Mod (fun _ => False) w0 w) a0 Q 11 o := by
    refine E11.stepI fun o hd ho hg hw => ?_
    intro y w listed hsz hls hun hwt hdown D' hRR hinv K hK
    have f124 : y.eval (Operand.tmp 124) = .bool (((n : Int) != T) || (!lb)) := E8.postI (Post := (p_rk24 gc gx M T S n lb mb c0 c1 c2 c3 c4 x0 x1 x2 x3 x4 x5)) (a := y) (w := w) D' (hwt 8 (hw 8 (by simp)))
    have f126 : y.eval (Operand.tmp 126) = if (!(((n : Int) != T) || (!lb))) = true then .bool (!mb) else undef := E10.postI (Post := (p_rk24 gc gx M T S n lb mb c0 c1 c2 c3 c4 x0 x1 x2 x3 x4 x5)) (a := y) (w := w) D' (hwt 10 (hw 10 (by simp)))
    exact .inl ⟨wanted_none hg, wp_value (ox_pick (v := .bool ((((n : Int) != T) || (!lb)) || (!mb))) ho f124 (by rw [f126]; cases (((n : Int) != T) || (!lb)) <;> rfl)) (hK _ _ (fun _ _ _ _ _ _ h => h) rfl hinv)⟩
  have s12 : ∀ o, ops[12]? = some o → StepI Try.prog ops (p_rk24 gc gx M T S n lb mb c0 c1 c2 c3 c4 x0 x1 x2 x3 x4 x5) (fun (_ : Array Bool) (_ : Act) (w : World) => Mod (fun _ => False) w0 w) a0 Q 12 o := by
    refine E12.stepI fun o hd ho hg hw => ?_
    intro y w listed hsz hls hun hwt hdown D' hRR hinv K hK
    have f127 : y.eval (Operand.tmp 127) = .bool ((((n : Int) != T) || (!lb)) || (!mb)) := E11.postI (Post := (p_rk24 gc gx M T S n lb mb c0 c1 c2 c3 c4 x0 x1 x2 x3 x4 x5)) (a := y) (w := w) D' (hwt 11 (hw 11 (by simp)))
    exact .inl ⟨wanted_none hg, wp_value (ox_move ho f127) (hK _ _ (fun _ _ _ _ _ _ h => h) rfl hinv)⟩
  have s13 : ∀ o, ops[13]? = some o → StepI Try.prog ops (p_rk24 gc gx M T S n lb mb c0 c1 c2 c3 c4 x0 x1 x2 x3 x4 x5) (fun (_ : Array Bool) (_ : Act) (w : World) => Mod (fun _ => False) w0 w) a0 Q 13 o := by
    refine E13.stepI fun o hd ho hg hw => ?_
    intro y w listed hsz hls hun hwt hdown D' hRR hinv K hK
    have gv : y.tmps.getD 128 undef = .bool ((((n : Int) != T) || (!lb)) || (!mb)) := E12.postI (Post := (p_rk24 gc gx M T S n lb mb c0 c1 c2 c3 c4 x0 x1 x2 x3 x4 x5)) (a := y) (w := w) D' (hwt 12 (hw 12 (by simp)))
    have wt : Region.wanted o (yielded ops y.tmps) = (!((((n : Int) != T) || (!lb)) || (!mb))) := by
      rw [wanted_b E12 hg (by rw [hsz, ha0]; decide) gv]
      cases ((((n : Int) != T) || (!lb)) || (!mb)) <;> rfl
    cases hc : (!((((n : Int) != T) || (!lb)) || (!mb)))
    · exact .inr ⟨wt.trans hc, hK _ _ (fun _ _ _ _ _ _ h => h) (by show undef = if (!((((n : Int) != T) || (!lb)) || (!mb))) = true then .agg #[c0, c1, c2, c3, c4] else undef; rw [hc]; rfl) hinv⟩
    · have f1 : y.eval (Operand.tmp 1) = .pointer (some ⟨gc, 0, none⟩)   := (hRR 1 (not_of (by rw [hds]; decide))).trans b1
      have h0 := hinv.cell k_gc_0 (fun h => h)
      have h1 := hinv.cell k_gc_1 (fun h => h)
      have h2 := hinv.cell k_gc_2 (fun h => h)
      have h3 := hinv.cell k_gc_3 (fun h => h)
      have h4 := hinv.cell k_gc_4 (fun h => h)
      exact .inl ⟨wt.trans hc, wp_value (ox_load (v := .agg #[c0, c1, c2, c3, c4]) ho f1 (by simp [go_sem, h0, h1, h2, h3, h4])) (hK _ _ (fun _ _ _ _ _ _ h => h) (by show _ = if (!((((n : Int) != T) || (!lb)) || (!mb))) = true then .agg #[c0, c1, c2, c3, c4] else undef; rw [hc]; rfl) hinv)⟩
  have s14 : ∀ o, ops[14]? = some o → StepI Try.prog ops (p_rk24 gc gx M T S n lb mb c0 c1 c2 c3 c4 x0 x1 x2 x3 x4 x5) (fun (_ : Array Bool) (_ : Act) (w : World) => Mod (fun _ => False) w0 w) a0 Q 14 o := by
    refine E14.stepI fun o hd ho hg hw => ?_
    intro y w listed hsz hls hun hwt hdown D' hRR hinv K hK
    have gv : y.tmps.getD 128 undef = .bool ((((n : Int) != T) || (!lb)) || (!mb)) := E12.postI (Post := (p_rk24 gc gx M T S n lb mb c0 c1 c2 c3 c4 x0 x1 x2 x3 x4 x5)) (a := y) (w := w) D' (hwt 12 (hw 12 (by simp)))
    have wt : Region.wanted o (yielded ops y.tmps) = (!((((n : Int) != T) || (!lb)) || (!mb))) := by
      rw [wanted_b E12 hg (by rw [hsz, ha0]; decide) gv]
      cases ((((n : Int) != T) || (!lb)) || (!mb)) <;> rfl
    cases hc : (!((((n : Int) != T) || (!lb)) || (!mb)))
    · exact .inr ⟨wt.trans hc, hK _ _ (fun _ _ _ _ _ _ h => h) (by show undef = if (!((((n : Int) != T) || (!lb)) || (!mb))) = true then .int .i64 S else undef; rw [hc]; rfl) hinv⟩
    · have f129 : y.eval (Operand.tmp 129) = .agg #[c0, c1, c2, c3, c4] := (show y.eval (Operand.tmp 129) = (if (!((((n : Int) != T) || (!lb)) || (!mb))) = true then .agg #[c0, c1, c2, c3, c4] else undef) from E13.postI (Post := (p_rk24 gc gx M T S n lb mb c0 c1 c2 c3 c4 x0 x1 x2 x3 x4 x5)) (a := y) (w := w) D' (hwt 13 (hw 13 (by simp)))).trans (if_pos hc)
      refine .inl ⟨wt.trans hc, wp_enter (f := 23) (args := #[.agg #[c0, c1, c2, c3, c4]]) ?_ (H14 w  hinv ) ?_⟩
      · have h := exec_call1 y.eval (fun args w => by simp [go_sem]) rfl ho (w := w)
        rw [f129] at h
        exact h
      · rintro e w' ⟨rfl, hm⟩
        exact ⟨_, rfl, hK _ _ (fun j oj d _ _ _ h => hstay _ _ _ _ hm h) (by show _ = if (!((((n : Int) != T) || (!lb)) || (!mb))) = true then .int .i64 S else undef; rw [hc]; rfl) (hinv.and hm)⟩
  have s15 : ∀ o, ops[15]? = some o → StepI Try.prog ops (p_rk24 gc gx M T S n lb mb c0 c1 c2 c3 c4 x0 x1 x2 x3 x4 x5) (fun (_ : Array Bool) (_ : Act) (w : World) => Mod (fun _ => False) w0 w) a0 Q 15 o := by
    refine E15.stepI fun o hd ho hg hw => ?_
    intro y w listed hsz hls hun hwt hdown D' hRR hinv K hK
    have gv : y.tmps.getD 128 undef = .bool ((((n : Int) != T) || (!lb)) || (!mb)) := E12.postI (Post := (p_rk24 gc gx M T S n lb mb c0 c1 c2 c3 c4 x0 x1 x2 x3 x4 x5)) (a := y) (w := w) D' (hwt 12 (hw 12 (by simp)))
    have wt : Region.wanted o (yielded ops y.tmps) = (!((((n : Int) != T) || (!lb)) || (!mb))) := by
      rw [wanted_b E12 hg (by rw [hsz, ha0]; decide) gv]
      cases ((((n : Int) != T) || (!lb)) || (!mb)) <;> rfl
    cases hc : (!((((n : Int) != T) || (!lb)) || (!mb)))
    · exact .inr ⟨wt.trans hc, hK _ _ (fun _ _ _ _ _ _ h => h) (by show undef = if (!((((n : Int) != T) || (!lb)) || (!mb))) = true then .pointer (some ⟨gx, 5, none⟩) else undef; rw [hc]; rfl) hinv⟩
    · have f7 : y.eval (Operand.tmp 7) = .pointer (some ⟨gx, 0, none⟩)   := (hRR 7 (not_of (by rw [hds]; decide))).trans b7
      exact .inl ⟨wt.trans hc, wp_value (ox_field (v := .pointer (some ⟨gx, 5, none⟩)) ho f7 (by simp [go_sem])) (hK _ _ (fun _ _ _ _ _ _ h => h) (by show _ = if (!((((n : Int) != T) || (!lb)) || (!mb))) = true then .pointer (some ⟨gx, 5, none⟩) else undef; rw [hc]; rfl) hinv)⟩
  have s16 : ∀ o, ops[16]? = some o → StepI Try.prog ops (p_rk24 gc gx M T S n lb mb c0 c1 c2 c3 c4 x0 x1 x2 x3 x4 x5) (fun (_ : Array Bool) (_ : Act) (w : World) => Mod (fun _ => False) w0 w) a0 Q 16 o := by
    refine E16.stepI fun o hd ho hg hw => ?_
    intro y w listed hsz hls hun hwt hdown D' hRR hinv K hK
    have gv : y.tmps.getD 128 undef = .bool ((((n : Int) != T) || (!lb)) || (!mb)) := E12.postI (Post := (p_rk24 gc gx M T S n lb mb c0 c1 c2 c3 c4 x0 x1 x2 x3 x4 x5)) (a := y) (w := w) D' (hwt 12 (hw 12 (by simp)))
    have wt : Region.wanted o (yielded ops y.tmps) = (!((((n : Int) != T) || (!lb)) || (!mb))) := by
      rw [wanted_b E12 hg (by rw [hsz, ha0]; decide) gv]
      cases ((((n : Int) != T) || (!lb)) || (!mb)) <;> rfl
    cases hc : (!((((n : Int) != T) || (!lb)) || (!mb)))
    · exact .inr ⟨wt.trans hc, hK _ _ (fun _ _ _ _ _ _ h => h) (by show undef = if (!((((n : Int) != T) || (!lb)) || (!mb))) = true then .int .i64 x5 else undef; rw [hc]; rfl) hinv⟩
    · have f131 : y.eval (Operand.tmp 131) = .pointer (some ⟨gx, 5, none⟩) := (show y.eval (Operand.tmp 131) = (if (!((((n : Int) != T) || (!lb)) || (!mb))) = true then .pointer (some ⟨gx, 5, none⟩) else undef) from E15.postI (Post := (p_rk24 gc gx M T S n lb mb c0 c1 c2 c3 c4 x0 x1 x2 x3 x4 x5)) (a := y) (w := w) D' (hwt 15 (hw 15 (by simp)))).trans (if_pos hc)
      have h0 := hinv.cell k_gx_5 (fun h => h)
      exact .inl ⟨wt.trans hc, wp_value (ox_load (v := .int .i64 x5) ho f131 (by simp [go_sem, h0])) (hK _ _ (fun _ _ _ _ _ _ h => h) (by show _ = if (!((((n : Int) != T) || (!lb)) || (!mb))) = true then .int .i64 x5 else undef; rw [hc]; rfl) hinv)⟩
  have s17 : ∀ o, ops[17]? = some o → StepI Try.prog ops (p_rk24 gc gx M T S n lb mb c0 c1 c2 c3 c4 x0 x1 x2 x3 x4 x5) (fun (_ : Array Bool) (_ : Act) (w : World) => Mod (fun _ => False) w0 w) a0 Q 17 o := by
    refine E17.stepI fun o hd ho hg hw => ?_
    intro y w listed hsz hls hun hwt hdown D' hRR hinv K hK
    have gv : y.tmps.getD 128 undef = .bool ((((n : Int) != T) || (!lb)) || (!mb)) := E12.postI (Post := (p_rk24 gc gx M T S n lb mb c0 c1 c2 c3 c4 x0 x1 x2 x3 x4 x5)) (a := y) (w := w) D' (hwt 12 (hw 12 (by simp)))
    have wt : Region.wanted o (yielded ops y.tmps) = (!((((n : Int) != T) || (!lb)) || (!mb))) := by
      rw [wanted_b E12 hg (by rw [hsz, ha0]; decide) gv]
      cases ((((n : Int) != T) || (!lb)) || (!mb)) <;> rfl
    cases hc : (!((((n : Int) != T) || (!lb)) || (!mb)))
    · exact .inr ⟨wt.trans hc, hK _ _ (fun _ _ _ _ _ _ h => h) (by show undef = if (!((((n : Int) != T) || (!lb)) || (!mb))) = true then .bool (decide (S ≤ x5)) else undef; rw [hc]; rfl) hinv⟩
    · have f130 : y.eval (Operand.tmp 130) = .int .i64 S := (show y.eval (Operand.tmp 130) = (if (!((((n : Int) != T) || (!lb)) || (!mb))) = true then .int .i64 S else undef) from E14.postI (Post := (p_rk24 gc gx M T S n lb mb c0 c1 c2 c3 c4 x0 x1 x2 x3 x4 x5)) (a := y) (w := w) D' (hwt 14 (hw 14 (by simp)))).trans (if_pos hc)
      have f132 : y.eval (Operand.tmp 132) = .int .i64 x5 := (show y.eval (Operand.tmp 132) = (if (!((((n : Int) != T) || (!lb)) || (!mb))) = true then .int .i64 x5 else undef) from E16.postI (Post := (p_rk24 gc gx M T S n lb mb c0 c1 c2 c3 c4 x0 x1 x2 x3 x4 x5)) (a := y) (w := w) D' (hwt 16 (hw 16 (by simp)))).trans (if_pos hc)
      exact .inl ⟨wt.trans hc, wp_value (rx_leq ho f130 f132) (hK _ _ (fun _ _ _ _ _ _ h => h) (by show _ = if (!((((n : Int) != T) || (!lb)) || (!mb))) = true then .bool (decide (S ≤ x5)) else undef; rw [hc]; rfl) hinv)⟩
  have s18 : ∀ o, ops[18]? = some o → StepI Try.prog ops (p_rk24 gc gx M T S n lb mb c0 c1 c2 c3 c4 x0 x1 x2 x3 x4 x5) (fun (_ : Array Bool) (_ : Act) (w : World) => Mod (fun _ => False) w0 w) a0 Q 18 o := by
    refine E18.stepI fun o hd ho hg hw => ?_
    intro y w listed hsz hls hun hwt hdown D' hRR hinv K hK
    have gv : y.tmps.getD 128 undef = .bool ((((n : Int) != T) || (!lb)) || (!mb)) := E12.postI (Post := (p_rk24 gc gx M T S n lb mb c0 c1 c2 c3 c4 x0 x1 x2 x3 x4 x5)) (a := y) (w := w) D' (hwt 12 (hw 12 (by simp)))
    have wt : Region.wanted o (yielded ops y.tmps) = (!((((n : Int) != T) || (!lb)) || (!mb))) := by
      rw [wanted_b E12 hg (by rw [hsz, ha0]; decide) gv]
      cases ((((n : Int) != T) || (!lb)) || (!mb)) <;> rfl
    cases hc : (!((((n : Int) != T) || (!lb)) || (!mb)))
    · exact .inr ⟨wt.trans hc, hK _ _ (fun _ _ _ _ _ _ h => h) (by show undef = if (!((((n : Int) != T) || (!lb)) || (!mb))) = true then .bool (decide (S ≤ x5)) else undef; rw [hc]; rfl) hinv⟩
    · have f133 : y.eval (Operand.tmp 133) = .bool (decide (S ≤ x5)) := (show y.eval (Operand.tmp 133) = (if (!((((n : Int) != T) || (!lb)) || (!mb))) = true then .bool (decide (S ≤ x5)) else undef) from E17.postI (Post := (p_rk24 gc gx M T S n lb mb c0 c1 c2 c3 c4 x0 x1 x2 x3 x4 x5)) (a := y) (w := w) D' (hwt 17 (hw 17 (by simp)))).trans (if_pos hc)
      exact .inl ⟨wt.trans hc, wp_value (ox_move ho f133) (hK _ _ (fun _ _ _ _ _ _ h => h) (by show _ = if (!((((n : Int) != T) || (!lb)) || (!mb))) = true then .bool (decide (S ≤ x5)) else undef; rw [hc]; rfl) hinv)⟩
  have s19 : ∀ o, ops[19]? = some o → StepI Try.prog ops (p_rk24 gc gx M T S n lb mb c0 c1 c2 c3 c4 x0 x1 x2 x3 x4 x5) (fun (_ : Array Bool) (_ : Act) (w : World) => Mod (fun _ => False) w0 w) a0 Q 19 o := by
    refine E19.stepI fun o hd ho hg hw => ?_
    intro y w listed hsz hls hun hwt hdown D' hRR hinv K hK
    have gv : y.tmps.getD 134 undef = if (!((((n : Int) != T) || (!lb)) || (!mb))) = true then .bool (decide (S ≤ x5)) else undef := E18.postI (Post := (p_rk24 gc gx M T S n lb mb c0 c1 c2 c3 c4 x0 x1 x2 x3 x4 x5)) (a := y) (w := w) D' (hwt 18 (hw 18 (by simp)))
    have wt : Region.wanted o (yielded ops y.tmps) = ((!((((n : Int) != T) || (!lb)) || (!mb))) && (decide (S ≤ x5))) := by
      rw [wanted_if E18 hg (by rw [hsz, ha0]; decide) gv]
      cases (decide (S ≤ x5)) <;> cases (!((((n : Int) != T) || (!lb)) || (!mb))) <;> rfl
    cases hc : ((!((((n : Int) != T) || (!lb)) || (!mb))) && (decide (S ≤ x5)))
    · exact .inr ⟨wt.trans hc, hK _ _ (fun _ _ _ _ _ _ h => h) (by show undef = if ((!((((n : Int) != T) || (!lb)) || (!mb))) && (decide (S ≤ x5))) = true then .pointer (some ⟨gx, 5, none⟩) else undef; rw [hc]; rfl) hinv⟩
    · have f7 : y.eval (Operand.tmp 7) = .pointer (some ⟨gx, 0, none⟩)   := (hRR 7 (not_of (by rw [hds]; decide))).trans b7
      exact .inl ⟨wt.trans hc, wp_value (ox_field (v := .pointer (some ⟨gx, 5, none⟩)) ho f7 (by simp [go_sem])) (hK _ _ (fun _ _ _ _ _ _ h => h) (by show _ = if ((!((((n : Int) != T) || (!lb)) || (!mb))) && (decide (S ≤ x5))) = true then .pointer (some ⟨gx, 5, none⟩) else undef; rw [hc]; rfl) hinv)⟩
  have s20 : ∀ o, ops[20]? = some o → StepI Try.prog ops (p_rk24 gc gx M T S n lb mb c0 c1 c2 c3 c4 x0 x1 x2 x3 x4 x5) (fun (_ : Array Bool) (_ : Act) (w : World) => Mod (fun _ => False) w0 w) a0 Q 20 o := by
    refine E20.stepI fun o hd ho hg hw => ?_
    intro y w listed hsz hls hun hwt hdown D' hRR hinv K hK
    have gv : y.tmps.getD 134 undef = if (!((((n : Int) != T) || (!lb)) || (!mb))) = true then .bool (decide (S ≤ x5)) else undef := E18.postI (Post := (p_rk24 gc gx M T S n lb mb c0 c1 c2 c3 c4 x0 x1 x2 x3 x4 x5)) (a := y) (w := w) D' (hwt 18 (hw 18 (by simp)))
    have wt : Region.wanted o (yielded ops y.tmps) = ((!((((n : Int) != T) || (!lb)) || (!mb))) && (decide (S ≤ x5))) := by
      rw [wanted_if E18 hg (by rw [hsz, ha0]; decide) gv]
      cases (decide (S ≤ x5)) <;> cases (!((((n : Int) != T) || (!lb)) || (!mb))) <;> rfl
    cases hc : ((!((((n : Int) != T) || (!lb)) || (!mb))) && (decide (S ≤ x5)))
    · exact .inr ⟨wt.trans hc, hK _ _ (fun _ _ _ _ _ _ h => h) (by show undef = if ((!((((n : Int) != T) || (!lb)) || (!mb))) && (decide (S ≤ x5))) = true then .int .i64 x5 else undef; rw [hc]; rfl) hinv⟩
    · have f135 : y.eval (Operand.tmp 135) = .pointer (some ⟨gx, 5, none⟩) := (show y.eval (Operand.tmp 135) = (if ((!((((n : Int) != T) || (!lb)) || (!mb))) && (decide (S ≤ x5))) = true then .pointer (some ⟨gx, 5, none⟩) else undef) from E19.postI (Post := (p_rk24 gc gx M T S n lb mb c0 c1 c2 c3 c4 x0 x1 x2 x3 x4 x5)) (a := y) (w := w) D' (hwt 19 (hw 19 (by simp)))).trans (if_pos hc)
      have h0 := hinv.cell k_gx_5 (fun h => h)
      exact .inl ⟨wt.trans hc, wp_value (ox_load (v := .int .i64 x5) ho f135 (by simp [go_sem, h0])) (hK _ _ (fun _ _ _ _ _ _ h => h) (by show _ = if ((!((((n : Int) != T) || (!lb)) || (!mb))) && (decide (S ≤ x5))) = true then .int .i64 x5 else undef; rw [hc]; rfl) hinv)⟩
  have s21 : ∀ o, ops[21]? = some o → StepI Try.prog ops (p_rk24 gc gx M T S n lb mb c0 c1 c2 c3 c4 x0 x1 x2 x3 x4 x5) (fun (_ : Array Bool) (_ : Act) (w : World) => Mod (fun _ => False) w0 w) a0 Q 21 o := by
    refine E21.stepI fun o hd ho hg hw => ?_
    intro y w listed hsz hls hun hwt hdown D' hRR hinv K hK
    have gv : y.tmps.getD 134 undef = if (!((((n : Int) != T) || (!lb)) || (!mb))) = true then .bool (decide (S ≤ x5)) else undef := E18.postI (Post := (p_rk24 gc gx M T S n lb mb c0 c1 c2 c3 c4 x0 x1 x2 x3 x4 x5)) (a := y) (w := w) D' (hwt 18 (hw 18 (by simp)))
    have wt : Region.wanted o (yielded ops y.tmps) = ((!((((n : Int) != T) || (!lb)) || (!mb))) && (decide (S ≤ x5))) := by
      rw [wanted_if E18 hg (by rw [hsz, ha0]; decide) gv]
      cases (decide (S ≤ x5)) <;> cases (!((((n : Int) != T) || (!lb)) || (!mb))) <;> rfl
    cases hc : ((!((((n : Int) != T) || (!lb)) || (!mb))) && (decide (S ≤ x5)))
    · exact .inr ⟨wt.trans hc, hK _ _ (fun _ _ _ _ _ _ h => h) (by show undef = if ((!((((n : Int) != T) || (!lb)) || (!mb))) && (decide (S ≤ x5))) = true then .bool (decide (x5 < 9007199254740991)) else undef; rw [hc]; rfl) hinv⟩
    · have f136 : y.eval (Operand.tmp 136) = .int .i64 x5 := (show y.eval (Operand.tmp 136) = (if ((!((((n : Int) != T) || (!lb)) || (!mb))) && (decide (S ≤ x5))) = true then .int .i64 x5 else undef) from E20.postI (Post := (p_rk24 gc gx M T S n lb mb c0 c1 c2 c3 c4 x0 x1 x2 x3 x4 x5)) (a := y) (w := w) D' (hwt 20 (hw 20 (by simp)))).trans (if_pos hc)
      exact .inl ⟨wt.trans hc, wp_value (rx_lss ho f136 rfl) (hK _ _ (fun _ _ _ _ _ _ h => h) (by show _ = if ((!((((n : Int) != T) || (!lb)) || (!mb))) && (decide (S ≤ x5))) = true then .bool (decide (x5 < 9007199254740991)) else undef; rw [hc]; rfl) hinv)⟩
  have s22 : ∀ o, ops[22]? = some o → StepI Try.prog ops (p_rk24 gc gx M T S n lb mb c0 c1 c2 c3 c4 x0 x1 x2 x3 x4 x5) (fun (_ : Array Bool) (_ : Act) (w : World) => Mod (fun _ => False) w0 w) a0 Q 22 o := by
    refine E22.stepI fun o hd ho hg hw => ?_
    intro y w listed hsz hls hun hwt hdown D' hRR hinv K hK
    have gv : y.tmps.getD 128 undef = .bool ((((n : Int) != T) || (!lb)) || (!mb)) := E12.postI (Post := (p_rk24 gc gx M T S n lb mb c0 c1 c2 c3 c4 x0 x1 x2 x3 x4 x5)) (a := y) (w := w) D' (hwt 12 (hw 12 (by simp)))
    have wt : Region.wanted o (yielded ops y.tmps) = (!((((n : Int) != T) || (!lb)) || (!mb))) := by
      rw [wanted_b E12 hg (by rw [hsz, ha0]; decide) gv]
      cases ((((n : Int) != T) || (!lb)) || (!mb)) <;> rfl
    cases hc : (!((((n : Int) != T) || (!lb)) || (!mb)))
    · exact .inr ⟨wt.trans hc, hK _ _ (fun _ _ _ _ _ _ h => h) (by show undef = if (!((((n : Int) != T) || (!lb)) || (!mb))) = true then .bool ((decide (S ≤ x5)) && (decide (x5 < 9007199254740991))) else undef; rw [hc]; rfl) hinv⟩
    · have f134 : y.eval (Operand.tmp 134) = .bool (decide (S ≤ x5)) := (show y.eval (Operand.tmp 134) = (if (!((((n : Int) != T) || (!lb)) || (!mb))) = true then .bool (decide (S ≤ x5)) else undef) from E18.postI (Post := (p_rk24 gc gx M T S n lb mb c0 c1 c2 c3 c4 x0 x1 x2 x3 x4 x5)) (a := y) (w := w) D' (hwt 18 (hw 18 (by simp)))).trans (if_pos hc)
      have f137 : y.eval (Operand.tmp 137) = if ((!((((n : Int) != T) || (!lb)) || (!mb))) && (decide (S ≤ x5))) = true then .bool (decide (x5 < 9007199254740991)) else undef := E21.postI (Post := (p_rk24 gc gx M T S n lb mb c0 c1 c2 c3 c4 x0 x1 x2 x3 x4 x5)) (a := y) (w := w) D' (hwt 21 (hw 21 (by simp)))
      exact .inl ⟨wt.trans hc, wp_value (ox_pick (v := .bool ((decide (S ≤ x5)) && (decide (x5 < 9007199254740991)))) ho f134 (by rw [f137]; cases (decide (S ≤ x5)) <;> (first | rfl | (simp [hc]; done) | (simp [hc]; rfl)))) (hK _ _ (fun _ _ _ _ _ _ h => h) (by show _ = if (!((((n : Int) != T) || (!lb)) || (!mb))) = true then .bool ((decide (S ≤ x5)) && (decide (x5 < 9007199254740991))) else undef; rw [hc]; rfl) hinv)⟩
  have s23 : ∀ o, ops[23]? = some o → StepI Try.prog ops (p_rk24 gc gx M T S n lb mb c0 c1 c2 c3 c4 x0 x1 x2 x3 x4 x5) (fun (_ : Array Bool) (_ : Act) (w : World) => Mod (fun _ => False) w0 w) a0 Q 23 o := by
    refine E23.stepI fun o hd ho hg hw => ?_
    intro y w listed hsz hls hun hwt hdown D' hRR hinv K hK
    have f128 : y.eval (Operand.tmp 128) = .bool ((((n : Int) != T) || (!lb)) || (!mb)) := E12.postI (Post := (p_rk24 gc gx M T S n lb mb c0 c1 c2 c3 c4 x0 x1 x2 x3 x4 x5)) (a := y) (w := w) D' (hwt 12 (hw 12 (by simp)))
    have f138 : y.eval (Operand.tmp 138) = if (!((((n : Int) != T) || (!lb)) || (!mb))) = true then .bool ((decide (S ≤ x5)) && (decide (x5 < 9007199254740991))) else undef := E22.postI (Post := (p_rk24 gc gx M T S n lb mb c0 c1 c2 c3 c4 x0 x1 x2 x3 x4 x5)) (a := y) (w := w) D' (hwt 22 (hw 22 (by simp)))
    exact .inl ⟨wanted_none hg, wp_value (ox_pick (v := .bool (((((n : Int) != T) || (!lb)) || (!mb)) || ((decide (S ≤ x5)) && (decide (x5 < 9007199254740991))))) ho f128 (by rw [f138]; cases ((((n : Int) != T) || (!lb)) || (!mb)) <;> rfl)) (hK _ _ (fun _ _ _ _ _ _ h => h) rfl hinv)⟩
  refine region_freeI (Post := (p_rk24 gc gx M T S n lb mb c0 c1 c2 c3 c4 x0 x1 x2 x3 x4 x5)) (Inv := (fun (_ : Array Bool) (_ : Act) (w : World) => Mod (fun _ => False) w0 w)) mixed (low_of hlow) (fun i o ho => by rw [ha0]; exact dst_of (by rw [hds]; decide) i o ho) (inj_of hnd) (Mod.refl _ _).drew ?_ ?_
  · intro i o ho
    have hi : i < 24 := by
      rw [← hN]
      rcases Nat.lt_or_ge i ops.size with h | h
      · exact h
      · rw [Array.getElem?_eq_none h] at ho; cases ho
    clear hend
    by_cases e0 : i = 0
    · subst e0; exact s0 o ho
    by_cases e1 : i = 1
    · subst e1; exact s1 o ho
    by_cases e2 : i = 2
    · subst e2; exact s2 o ho
    by_cases e3 : i = 3
    · subst e3; exact s3 o ho
    by_cases e4 : i = 4
    · subst e4; exact s4 o ho
    by_cases e5 : i = 5
    · subst e5; exact s5 o ho
    by_cases e6 : i = 6
    · subst e6; exact s6 o ho
    by_cases e7 : i = 7
    · subst e7; exact s7 o ho
    by_cases e8 : i = 8
    · subst e8; exact s8 o ho
    by_cases e9 : i = 9
    · subst e9; exact s9 o ho
    by_cases e10 : i = 10
    · subst e10; exact s10 o ho
    by_cases e11 : i = 11
    · subst e11; exact s11 o ho
    by_cases e12 : i = 12
    · subst e12; exact s12 o ho
    by_cases e13 : i = 13
    · subst e13; exact s13 o ho
    by_cases e14 : i = 14
    · subst e14; exact s14 o ho
    by_cases e15 : i = 15
    · subst e15; exact s15 o ho
    by_cases e16 : i = 16
    · subst e16; exact s16 o ho
    by_cases e17 : i = 17
    · subst e17; exact s17 o ho
    by_cases e18 : i = 18
    · subst e18; exact s18 o ho
    by_cases e19 : i = 19
    · subst e19; exact s19 o ho
    by_cases e20 : i = 20
    · subst e20; exact s20 o ho
    by_cases e21 : i = 21
    · subst e21; exact s21 o ho
    by_cases e22 : i = 22
    · subst e22; exact s22 o ho
    by_cases e23 : i = 23
    · subst e23; exact s23 o ho
    omega
  · intro y w listed hsz hdf hls hall hinv hPO hRE
    have e : y = puts a0 [(116, .int .i64 M), (117, .int .i64 (n : Int)), (118, .int .i64 T), (119, .bool ((n : Int) != T)), (120, .bool ((n : Int) != T)), (121, y.tmps.getD 121 undef), (122, y.tmps.getD 122 undef), (123, .bool (((n : Int) != T) || (!lb))), (124, .bool (((n : Int) != T) || (!lb))), (125, y.tmps.getD 125 undef), (126, y.tmps.getD 126 undef), (127, .bool ((((n : Int) != T) || (!lb)) || (!mb))), (128, .bool ((((n : Int) != T) || (!lb)) || (!mb))), (129, y.tmps.getD 129 undef), (130, y.tmps.getD 130 undef), (131, y.tmps.getD 131 undef), (132, y.tmps.getD 132 undef), (133, y.tmps.getD 133 undef), (134, y.tmps.getD 134 undef), (135, y.tmps.getD 135 undef), (136, y.tmps.getD 136 undef), (137, y.tmps.getD 137 undef), (138, y.tmps.getD 138 undef), (139, .bool (((((n : Int) != T) || (!lb)) || (!mb)) || ((decide (S ≤ x5)) && (decide (x5 < 9007199254740991)))))] := by
      refine eq_puts hsz hdf (nodup_of (D := [some 116, some 117, some 118, some 119, some 120, some 121, some 122, some 123, some 124, some 125, some 126, some 127, some 128, some 129, some 130, some 131, some 132, some 133, some 134, some 135, some 136, some 137, some 138, some 139]) rfl (by decide)) (by rw [ha0]; simp) ?_ ?_
      · intro q hq
        simp only [List.mem_cons, List.not_mem_nil, or_false] at hq
        rcases hq with rfl | rfl | rfl | rfl | rfl | rfl | rfl | rfl | rfl | rfl | rfl | rfl | rfl | rfl | rfl | rfl | rfl | rfl | rfl | rfl | rfl | rfl | rfl | rfl
        · obtain ⟨o, h1, h2, _⟩ := E0.ex
          exact hPO 0 o _ h1 h2
        · obtain ⟨o, h1, h2, _⟩ := E1.ex
          exact hPO 1 o _ h1 h2
        · obtain ⟨o, h1, h2, _⟩ := E2.ex
          exact hPO 2 o _ h1 h2
        · obtain ⟨o, h1, h2, _⟩ := E3.ex
          exact hPO 3 o _ h1 h2
        · obtain ⟨o, h1, h2, _⟩ := E4.ex
          exact hPO 4 o _ h1 h2
        · rfl
        · rfl
        · obtain ⟨o, h1, h2, _⟩ := E7.ex
          exact hPO 7 o _ h1 h2
        · obtain ⟨o, h1, h2, _⟩ := E8.ex
          exact hPO 8 o _ h1 h2
        · rfl
        · rfl
        · obtain ⟨o, h1, h2, _⟩ := E11.ex
          exact hPO 11 o _ h1 h2
        · obtain ⟨o, h1, h2, _⟩ := E12.ex
          exact hPO 12 o _ h1 h2
        · rfl
        · rfl
        · rfl
        · rfl
        · rfl
        · rfl
        · rfl
        · rfl
        · rfl
        · rfl
        · obtain ⟨o, h1, h2, _⟩ := E23.ex
          exact hPO 23 o _ h1 h2
      · intro t ht
        exact hRE t (not_of (by rw [hds]; exact not_cont rfl ht))
    rw [e]
    exact hend (fun d => y.tmps.getD d undef) w hinv
set_option maxRecDepth 100000 in
set_option maxHeartbeats 20000000 in
theorem kin_walk (v : Value) (c : Cm) (w : World) (h : Cv w v c) (hmm : I64 c.mem) : Calls Try.prog 6 #[v] w fun e w' => e = .returned (.bool true) ∧ Mod (fun _ => False) w w' := by
  obtain ⟨rs, rr, mm, hp, ce⟩ := c
  obtain ⟨cao, ccap, rfl, hs⟩ := h.form
  simp only at *
  have HC := fun W hs => cCheck rs rr mm hp cao ccap ce W hs hmm
  have HK := fun W q s h => Kin_any W (.agg #[.int .i64 rs, .int .i64 rr, .int .i64 mm, .int .i64 hp, .slice cao ce.length ccap]) ⟨rs, rr, mm, hp, ce⟩ q s h hmm
  have HS := fun W h => Stamp_any W (.agg #[.int .i64 rs, .int .i64 rr, .int .i64 mm, .int .i64 hp, .slice cao ce.length ccap]) ⟨rs, rr, mm, hp, ce⟩ h hmm
  have hck : ckC ⟨rs, rr, mm, hp, ce⟩ = if okC ⟨rs, rr, mm, hp, ce⟩ = true then 0 else 2 := rfl
  have hM := (Mod.refl (fun _ => False) w).alloc (.cells #[.int .i64 rs, .int .i64 rr, .int .i64 mm, .int .i64 hp, .slice cao ce.length ccap] 26)
  have hB := Bk.new w #[.int .i64 rs, .int .i64 rr, .int .i64 mm, .int .i64 hp, .slice cao ce.length ccap] 26
  replace h := h.keep hM
  replace hs := hs.keep hM
  rw [hck] at HC
  clear hck
  by_cases hok : okC ⟨rs, rr, mm, hp, ce⟩ = true
  · rw [if_pos hok] at HC
    have hw := okC_wl hok
    simp only at hw
    have HST : Hid (∀ x ∈ ce, (decide (stC ⟨rs, rr, mm, hp, ce⟩ ≤ x.ck) && decide (x.ck < 9007199254740991)) = false) := fun x hx => st_gt hok hx
    have HKN : Hid (∀ q s, kinC ⟨rs, rr, mm, hp, ce⟩ q s = kn q s ce 0 0 0) := fun q s => by simp only [kinC, if_pos hok]
    have hl8 := (okC_hop hok).2.2.2.2.2
    simp only at hl8
    generalize stC ⟨rs, rr, mm, hp, ce⟩ = ST at *
    clear hok
    go_enter Try.func6, Try.ntmps6
    go_wp2_with (fail)
    refine (awake_any _).mono ?_
    rintro e w1 ⟨rfl, hm1⟩
    replace hM := hM.and hm1
    replace hB := hB.mod hm1 (fun h => h)
    replace h := h.keep hm1
    replace hs := hs.keep hm1
    have a0 := hB.cellv (j := 0) rfl
    have a1 := hB.cellv (j := 1) rfl
    have a2 := hB.cellv (j := 2) rfl
    have a3 := hB.cellv (j := 3) rfl
    have a4 := hB.cellv (j := 4) rfl
    clear hm1
    go_wp2_with (fail)
    refine (HC _ hs).mono ?_
    rintro e w2 ⟨rfl, hm2⟩
    clear a0 a1 a2 a3 a4 HC
    have HH : Hid (Bk w2 w.heap.size 26 #[.int .i64 rs, .int .i64 rr, .int .i64 mm, .int .i64 hp, .slice cao ce.length ccap] ∧ Cv w2 (.agg #[.int .i64 rs, .int .i64 rr, .int .i64 mm, .int .i64 hp, .slice cao ce.length ccap]) ⟨rs, rr, mm, hp, ce⟩ ∧ SlE w2 (.slice cao ce.length ccap) ce ∧ Mod (fun _ => False) w w2 ∧ Wl ce) := ⟨hB.mod hm2 (fun h => h), h.keep hm2, hs.keep hm2, hM.and hm2, hw⟩
    clear hB h hs hM hm2 hw
    go_wp2
    go_loopw [6] (fun i wr => ∃ k : Nat, i = .int .i64 (k : Int) ∧ k ≤ ce.length ∧ Hid (Mod (fun _ => False) w2 wr)) (fun i _ => ce.length - (intOf i).toNat)
    case atStart => exact ⟨0, rfl, by omega, Mod.refl _ _⟩
    case round =>
      obtain ⟨k, rfl, hk, hMw⟩ := hrel
      obtain ⟨wd, ewd⟩ : ∃ W, W = wr := ⟨_, rfl⟩
      subst ewd
      have hBr := HH.out.1.mod hMw.out (fun h => h)
      have a0 := hBr.cellv (j := 0) rfl
      have a1 := hBr.cellv (j := 1) rfl
      have a2 := hBr.cellv (j := 2) rfl
      have a3 := hBr.cellv (j := 3) rfl
      have a4 := hBr.cellv (j := 4) rfl
      by_cases hlt : k < ce.length
      · obtain ⟨x, hx⟩ : ∃ e, ce[k]? = some e := ⟨_, List.getElem?_eq_getElem hlt⟩
        obtain ⟨eb, off, rfl, hc⟩ := HH.out.2.2.1.at hx
        obtain ⟨c0, c1, c2, c3, c4, c5⟩ := hc _ hMw.out
        have HX : Hid (x ∈ ce) := List.mem_of_getElem? hx
        have hkf := kf_of HH.out.2.2.2.2 HX.out
        have HSX := HST.out x HX.out
        have hKK := fun W h => HK W x.os x.od h
        rw [HKN.out] at hKK
        generalize kn x.os x.od ce 0 0 0 = KR at hkf hKK
        obtain ⟨M, Lo, Hi⟩ := KR
        simp only at hkf hKK
        obtain ⟨x0, x1, x2, x3, x4, x5⟩ := x
        simp only at *
        have hki : (k : Int) < ce.length := by omega
        have hmA := hMw.out.alloc (.cells #[.int .i64 x0, .int .i64 x1, .int .i64 x2, .int .i64 x3, .int .i64 x4, .int .i64 x5] 28)
        have hBx := Bk.new wd #[.int .i64 x0, .int .i64 x1, .int .i64 x2, .int .i64 x3, .int .i64 x4, .int .i64 x5] 28
        have hBc := HH.out.1.mod hmA (fun h => h)
        have g0 : ∀ o, (wd.alloc o).cell? ⟨w.heap.size, 0, none⟩ = some (.int .i64 rs) := fun o => (hBr.mod ((Mod.refl (fun _ => False) wd).alloc o) (fun h => h)).cellv (j := 0) rfl
        have g1 : ∀ o, (wd.alloc o).cell? ⟨w.heap.size, 1, none⟩ = some (.int .i64 rr) := fun o => (hBr.mod ((Mod.refl (fun _ => False) wd).alloc o) (fun h => h)).cellv (j := 1) rfl
        have g2 : ∀ o, (wd.alloc o).cell? ⟨w.heap.size, 2, none⟩ = some (.int .i64 mm) := fun o => (hBr.mod ((Mod.refl (fun _ => False) wd).alloc o) (fun h => h)).cellv (j := 2) rfl
        have g3 : ∀ o, (wd.alloc o).cell? ⟨w.heap.size, 3, none⟩ = some (.int .i64 hp) := fun o => (hBr.mod ((Mod.refl (fun _ => False) wd).alloc o) (fun h => h)).cellv (j := 3) rfl
        have g4 : ∀ o, (wd.alloc o).cell? ⟨w.heap.size, 4, none⟩ = some (.slice (some ⟨eb, off, none⟩) ce.length ccap) := fun o => (hBr.mod ((Mod.refl (fun _ => False) wd).alloc o) (fun h => h)).cellv (j := 4) rfl
        clear hx hc hBr
        go_wp2_with (fail)
        refine (hKK _ (HH.out.2.1.keep hmA)).mono ?_
        rintro e w3 ⟨rfl, hm3⟩
        have HI : Hid (Bk w3 w.heap.size 26 #[.int .i64 rs, .int .i64 rr, .int .i64 mm, .int .i64 hp, .slice (some ⟨eb, off, none⟩) ce.length ccap] ∧ Bk w3 wd.heap.size 28 #[.int .i64 x0, .int .i64 x1, .int .i64 x2, .int .i64 x3, .int .i64 x4, .int .i64 x5] ∧ Mod (fun _ => False) w2 w3) := ⟨hBc.mod hm3 (fun h => h), hBx.mod hm3 (fun h => h), hmA.and hm3⟩
        have HF : Hid (KF ce x1 x2 M Lo Hi) := hkf
        clear a0 a1 a2 a3 a4 c0 c1 c2 c3 c4 c5 g0 g1 g2 g3 g4 hkf hKK hmA hBx hBc hm3 hMw
        go_wp2
        go_loopw [11, 12, 13, 14] (fun t l m j w4 => ∃ (n T : Nat) (lb mb : Bool), j = .int .i64 (n : Int) ∧ t = .int .i64 (T : Int) ∧ l = .bool lb ∧ m = .bool mb ∧ n ≤ ce.length ∧ T ≤ n ∧ Hid (Mod (fun _ => False) w3 w4) ∧ Hid (T + (ce.drop n).countP (mt x1 x2) = Cr.cn M ∧ (lb || (ce.drop n).any (fun y => mt x1 x2 y && (y.aru == Lo))) = true ∧ (mb || (ce.drop n).any (fun y => mt x1 x2 y && (y.high == Hi))) = true)) (fun _ _ _ j _ => ce.length - (intOf j).toNat)
        case atStart => exact ⟨0, 0, false, false, rfl, rfl, rfl, rfl, by omega, by omega, Mod.refl _ _, by rw [HF.out.cnt, Nat.zero_add]; rfl, HF.out.lo, HF.out.hi⟩
        case round =>
          obtain ⟨n, T, lb, mb, rfl, rfl, rfl, rfl, hn, hT, hMw, HR⟩ := hrel
          have hBc := HI.out.1.mod hMw.out (fun h => h)
          have hBx := HI.out.2.1.mod hMw.out (fun h => h)
          have a0 := hBc.cellv (j := 0) rfl
          have a1 := hBc.cellv (j := 1) rfl
          have a2 := hBc.cellv (j := 2) rfl
          have a3 := hBc.cellv (j := 3) rfl
          have a4 := hBc.cellv (j := 4) rfl
          by_cases hlt2 : n < ce.length
          · obtain ⟨y, hy⟩ : ∃ e, ce[n]? = some e := ⟨_, List.getElem?_eq_getElem hlt2⟩
            obtain ⟨eb', off', e', hc⟩ := HH.out.2.2.1.at hy
            simp only [Option.some.injEq, Addr.mk.injEq, and_true] at e'
            obtain ⟨rfl, rfl⟩ := e'
            obtain ⟨c0, c1, c2, c3, c4, c5⟩ := hc _ (HI.out.2.2.and hMw.out)
            have hym := List.mem_of_getElem? hy
            have q1 := HF.out.has y hym
            have q2 := HF.out.all y hym
            have r1 := countP_drop hy (mt x1 x2)
            have r2 := any_drop hy (fun y => mt x1 x2 y && (y.aru == Lo))
            have r3 := any_drop hy (fun y => mt x1 x2 y && (y.high == Hi))
            obtain ⟨y0, y1, y2, y3, y4, y5⟩ := y
            simp only [mt] at c0 c1 c2 c3 c4 c5 q1 q2
            have hmt : mt x1 x2 ⟨y0, y1, y2, y3, y4, y5⟩ = (decide (y1 = x1) && decide (y2 = x2)) := rfl
            rw [hmt] at r1 r2 r3
            have HCB := fun W => Cr.Has (M : Int) y0 W
            rw [q1] at HCB
            have hni : (n : Int) < ce.length := by omega
            obtain ⟨h1, h2, h3⟩ := HR.out
            rw [r1] at h1
            rw [r2] at h2
            rw [r3] at h3
            have HR2 : Hid (T + ((if (decide (y1 = x1) && decide (y2 = x2)) = true then 1 else 0) + (ce.drop (n + 1)).countP (mt x1 x2)) = Cr.cn M ∧ (lb || ((decide (y1 = x1) && decide (y2 = x2)) && (y3 == Lo) || (ce.drop (n + 1)).any (fun y => mt x1 x2 y && (y.aru == Lo)))) = true ∧ (mb || ((decide (y1 = x1) && decide (y2 = x2)) && (y4 == Hi) || (ce.drop (n + 1)).any (fun y => mt x1 x2 y && (y.high == Hi)))) = true) := ⟨h1, h2, h3⟩
            have Q2 : Hid ((decide (y1 = x1) && decide (y2 = x2)) = true → Lo ≤ y3 ∧ y4 ≤ Hi) := q2
            have ER := eqRing y1 y2 x1 x2
            have hBx2 : ∀ o, Bk (wr.alloc o) wd.heap.size 28 #[.int .i64 x0, .int .i64 x1, .int .i64 x2, .int .i64 x3, .int .i64 x4, .int .i64 x5] := fun o => hBx.mod ((Mod.refl (fun _ => False) wr).alloc o) (fun h => h)
            have hBy := Bk.new wr #[.int .i64 y0, .int .i64 y1, .int .i64 y2, .int .i64 y3, .int .i64 y4, .int .i64 y5] 28
            have hmy := hMw.out.alloc (.cells #[.int .i64 y0, .int .i64 y1, .int .i64 y2, .int .i64 y3, .int .i64 y4, .int .i64 y5] 28)
            clear hy hc q1 q2 r1 r2 r3 hmt h1 h2 h3 HR hym hBx
            go_upto_region 16 with fail
            refine rk16 wd.heap.size wr.heap.size M x0 x1 x2 x3 x4 x5 y0 y1 y2 y3 y4 y5 (decide (y1 = x1) && decide (y2 = x2)) ⟨⟨⟨_, rfl, rfl, rfl, rfl, by decide +kernel⟩⟩, ⟨⟨_, rfl, rfl, rfl, rfl, by decide +kernel⟩⟩, ⟨⟨_, rfl, rfl, rfl, rfl, by decide +kernel⟩⟩, ⟨⟨_, rfl, rfl, rfl, rfl, by decide +kernel⟩⟩, ⟨⟨_, rfl, rfl, rfl, rfl, by decide +kernel⟩⟩, ⟨⟨_, rfl, rfl, rfl, rfl, by decide +kernel⟩⟩, ⟨⟨_, rfl, rfl, rfl, rfl, by decide +kernel⟩⟩, ⟨⟨_, rfl, rfl, rfl, rfl, by decide +kernel⟩⟩, ⟨⟨_, rfl, rfl, rfl, rfl, by decide +kernel⟩⟩, ⟨⟨_, rfl, rfl, rfl, rfl, by decide +kernel⟩⟩⟩ rfl (by decide +kernel) rfl (by decide +kernel) rfl rfl rfl rfl (hBy.cellv (j := 0) rfl) (hBy.cellv (j := 1) rfl) (hBy.cellv (j := 2) rfl) (hBy.cellv (j := 3) rfl) (hBy.cellv (j := 4) rfl) (hBy.cellv (j := 5) rfl) ((hBx2 _).cellv (j := 0) rfl) ((hBx2 _).cellv (j := 1) rfl) ((hBx2 _).cellv (j := 2) rfl) ((hBx2 _).cellv (j := 3) rfl) ((hBx2 _).cellv (j := 4) rfl) ((hBx2 _).cellv (j := 5) rfl) (fun W _ => (HCB W).mono fun _ _ h => ⟨h.1, h.2 ▸ Mod.refl _ _⟩) ?_
            intro f w5 hm5
            simp only [puts, Act.put, List.setIfInBounds_toArray, List.set_cons_succ, List.set_cons_zero, bne_self_eq_false]
            have hBy5 := hBy.mod hm5 (fun h => h)
            have hBx5 := (hBx2 (.cells #[.int .i64 y0, .int .i64 y1, .int .i64 y2, .int .i64 y3, .int .i64 y4, .int .i64 y5] 28)).mod hm5 (fun h => h)
            have hm6 := hmy.and hm5
            have s1 := hBy5.cellv (j := 1) rfl
            have s2 := hBy5.cellv (j := 2) rfl
            have s3 := hBy5.cellv (j := 3) rfl
            have s4 := hBy5.cellv (j := 4) rfl
            have t1 := hBx5.cellv (j := 1) rfl
            have t2 := hBx5.cellv (j := 2) rfl
            clear hBy hBx2 hmy hm5 hBy5 hBx5 HCB a0 a1 a2 a3 a4 c0 c1 c2 c3 c4 c5 hBc
            generalize (decide (y1 = x1) && decide (y2 = x2)) = bq at *
            cases bq
            · have HR3 : Hid (T + (ce.drop (n + 1)).countP (mt x1 x2) = Cr.cn M ∧ (lb || (ce.drop (n + 1)).any (fun y => mt x1 x2 y && (y.aru == Lo))) = true ∧ (mb || (ce.drop (n + 1)).any (fun y => mt x1 x2 y && (y.high == Hi))) = true) := by
                obtain ⟨h1, h2, h3⟩ := HR2.out
                refine ⟨by simpa using h1, ?_, ?_⟩
                · simpa only [Bool.false_and, Bool.false_or] using h2
                · simpa only [Bool.false_and, Bool.false_or] using h3
              clear HR2 Q2
              go_wp2
              go_roundw
              case rel => exact ⟨n + 1, T, lb, mb, by go_num, rfl, rfl, rfl, by omega, by omega, hm6, HR3⟩
              case measure => simp [intOf]; omega
            · have HR3 : Hid (T + 1 + (ce.drop (n + 1)).countP (mt x1 x2) = Cr.cn M ∧ ((lb || (y3 == Lo)) || (ce.drop (n + 1)).any (fun y => mt x1 x2 y && (y.aru == Lo))) = true ∧ ((mb || (y4 == Hi)) || (ce.drop (n + 1)).any (fun y => mt x1 x2 y && (y.high == Hi))) = true) := by
                obtain ⟨h1, h2, h3⟩ := HR2.out
                refine ⟨by simp only [if_true] at h1; omega, ?_, ?_⟩
                · simpa [Bool.or_assoc] using h2
                · simpa [Bool.or_assoc] using h3
              obtain ⟨q3, q4⟩ := Q2.out rfl
              have q3' : ¬ y3 < Lo := by omega
              have q4' : ¬ Hi < y4 := by omega
              clear HR2 Q2
              cases lb
              all_goals
                cases mb
                all_goals
                  go_wp2
                  go_roundw
                  case rel => exact ⟨n + 1, T + 1, _, _, by go_num, by go_num, rfl, rfl, by omega, by omega, hm6, HR3⟩
                  case measure => simp [intOf]; omega
          · obtain rfl : n = ce.length := by omega
            have HE : T = Cr.cn M ∧ lb = true ∧ mb = true := by have := HR.out; simpa using this
            obtain ⟨e1, rfl, rfl⟩ := HE
            have HCT := fun W => Cr.Count (M : Int) W
            rw [Cr.lo_nat HF.out.lt, ← e1] at HCT
            have hST := fun W h => HS W h
            clear HR e1
            go_upto_region 24 with fail
            refine rk24 w.heap.size wd.heap.size (M : Int) (T : Int) ST T true true (.int .i64 rs) (.int .i64 rr) (.int .i64 mm) (.int .i64 hp) (.slice (some ⟨eb, off, none⟩) ce.length ccap) x0 x1 x2 x3 x4 x5 ⟨⟨⟨_, rfl, rfl, rfl, rfl, by decide +kernel⟩⟩, ⟨⟨_, rfl, rfl, rfl, rfl, by decide +kernel⟩⟩, ⟨⟨_, rfl, rfl, rfl, rfl, by decide +kernel⟩⟩, ⟨⟨_, rfl, rfl, rfl, rfl, by decide +kernel⟩⟩, ⟨⟨_, rfl, rfl, rfl, rfl, by decide +kernel⟩⟩, ⟨⟨_, rfl, rfl, rfl, rfl, by decide +kernel⟩⟩, ⟨⟨_, rfl, rfl, rfl, rfl, by decide +kernel⟩⟩, ⟨⟨_, rfl, rfl, rfl, rfl, by decide +kernel⟩⟩, ⟨⟨_, rfl, rfl, rfl, rfl, by decide +kernel⟩⟩, ⟨⟨_, rfl, rfl, rfl, rfl, by decide +kernel⟩⟩, ⟨⟨_, rfl, rfl, rfl, rfl, by decide +kernel⟩⟩, ⟨⟨_, rfl, rfl, rfl, rfl, by decide +kernel⟩⟩, ⟨⟨_, rfl, rfl, rfl, rfl, by decide +kernel⟩⟩, ⟨⟨_, rfl, rfl, rfl, rfl, by decide +kernel⟩⟩, ⟨⟨_, rfl, rfl, rfl, rfl, by decide +kernel⟩⟩, ⟨⟨_, rfl, rfl, rfl, rfl, by decide +kernel⟩⟩, ⟨⟨_, rfl, rfl, rfl, rfl, by decide +kernel⟩⟩, ⟨⟨_, rfl, rfl, rfl, rfl, by decide +kernel⟩⟩, ⟨⟨_, rfl, rfl, rfl, rfl, by decide +kernel⟩⟩, ⟨⟨_, rfl, rfl, rfl, rfl, by decide +kernel⟩⟩, ⟨⟨_, rfl, rfl, rfl, rfl, by decide +kernel⟩⟩, ⟨⟨_, rfl, rfl, rfl, rfl, by decide +kernel⟩⟩, ⟨⟨_, rfl, rfl, rfl, rfl, by decide +kernel⟩⟩, ⟨⟨_, rfl, rfl, rfl, rfl, by decide +kernel⟩⟩⟩ rfl (by decide +kernel) rfl (by decide +kernel) rfl rfl rfl rfl rfl rfl rfl (hBc.cellv (j := 0) rfl) (hBc.cellv (j := 1) rfl) (hBc.cellv (j := 2) rfl) (hBc.cellv (j := 3) rfl) (hBc.cellv (j := 4) rfl) (hBx.cellv (j := 0) rfl) (hBx.cellv (j := 1) rfl) (hBx.cellv (j := 2) rfl) (hBx.cellv (j := 3) rfl) (hBx.cellv (j := 4) rfl) (hBx.cellv (j := 5) rfl) (fun W _ => (HCT W).mono fun _ _ h => ⟨h.1, h.2 ▸ Mod.refl _ _⟩) (fun W hW => hST W (HH.out.2.1.keep ((HI.out.2.2.and hMw.out).and hW))) ?_
            intro f w5 hm5
            simp only [puts, Act.put, List.setIfInBounds_toArray, List.set_cons_succ, List.set_cons_zero]
            have hfin : (((((T : Int) != (T : Int)) || !true) || !true) || (decide (ST ≤ x5) && decide (x5 < 9007199254740991))) = false := by rw [HSX]; simp
            rw [hfin]
            have hmE := (HI.out.2.2.and hMw.out).and hm5
            clear hBc hBx a0 a1 a2 a3 a4 hfin HCT hST hMw hm5
            go_wp2
            go_roundw
            case rel => exact ⟨k + 1, by go_num, by omega, hmE⟩
            case measure => simp [intOf]; omega
      · go_wp2
        go_ret
        exact ⟨rfl, HH.out.2.2.2.1.and hMw.out⟩
  · rw [if_neg hok] at HC
    have HST : stC ⟨rs, rr, mm, hp, ce⟩ = 0 := by simp only [stC, if_neg hok]
    have HKN : kinC ⟨rs, rr, mm, hp, ce⟩ 1 1 = (0, 0, 0) := by simp only [kinC, if_neg hok]
    have HK1 := fun W h => HK W 1 1 h
    rw [HKN] at HK1
    rw [HST] at HS
    clear HKN HST hok HK
    go_enter Try.func6, Try.ntmps6
    go_wp2_with (fail)
    refine (awake_any _).mono ?_
    rintro e w1 ⟨rfl, hm1⟩
    replace hM := hM.and hm1
    replace hB := hB.mod hm1 (fun h => h)
    replace h := h.keep hm1
    replace hs := hs.keep hm1
    have a0 := hB.cellv (j := 0) rfl
    have a1 := hB.cellv (j := 1) rfl
    have a2 := hB.cellv (j := 2) rfl
    have a3 := hB.cellv (j := 3) rfl
    have a4 := hB.cellv (j := 4) rfl
    clear hm1
    go_wp2_with (fail)
    refine (HC _ hs).mono ?_
    rintro e w2 ⟨rfl, hm2⟩
    clear a0 a1 a2 a3 a4 HC hs
    replace hM := hM.and hm2
    replace hB := hB.mod hm2 (fun h => h)
    replace h := h.keep hm2
    have a0 := hB.cellv (j := 0) rfl
    have a1 := hB.cellv (j := 1) rfl
    have a2 := hB.cellv (j := 2) rfl
    have a3 := hB.cellv (j := 3) rfl
    have a4 := hB.cellv (j := 4) rfl
    clear hm2
    go_wp2_with (fail)
    refine (HK1 _ h).mono ?_
    rintro e w3 ⟨rfl, hm3⟩
    clear a0 a1 a2 a3 a4 HK1
    replace hM := hM.and hm3
    replace hB := hB.mod hm3 (fun h => h)
    replace h := h.keep hm3
    have a0 := hB.cellv (j := 0) rfl
    have a1 := hB.cellv (j := 1) rfl
    have a2 := hB.cellv (j := 2) rfl
    have a3 := hB.cellv (j := 3) rfl
    have a4 := hB.cellv (j := 4) rfl
    clear hm3
    go_wp2_with (fail)
    refine (HS _ h).mono ?_
    rintro e w4 ⟨rfl, hm4⟩
    go_wp2
    go_ret
    exact ⟨rfl, hM.and hm4⟩
namespace commitKin
open Go.ChangeShapes Go.WideShapes Go.ChangeAt Go.RowKit
set_option maxRecDepth 100000 in
theorem lifted (os : Os) (started : os.Started) (H : Type) (enc : TypeId × Value → H) :
    ReturnsInHanded {} Try.checked os 6 .any (Rows.commitKinSpec.pre6 enc Try.prog Try.f6 Rows.commitKinRow.domain false) (Rows.commitKinSpec.post enc Try.prog Try.f6 false true false false) := by
  refine returnsInHanded_of_change_sized (C := Try.checked) own started (by kernel_rfl) Try.func6
    (ChangeSpec.witness6 (enc := enc) (C := Try.checked) false ⟨#[], #[.agg #[.int .i64 0, .int .i64 0, .int .i64 0, .int .i64 0, .slice none 0 0]], []⟩ 8 (by kernel_rfl) (by kernel_rfl) (by kernel_rfl) (by kernel_rfl)) ?_
  intro W base args ds gs before hval0 hW hcnd hsz0 _
  have hval : ∀ (j : Nat) t v, Try.f6.params[j]? = some t → args[j]? = some v → Value.okWide Try.prog W .any base t v := hval0
  have hsz : (DataW.weightsEach Try.prog (Try.f6.params.toList ++ Rows.commitKinSpec.plain.varTypes Try.prog) (ds ++ gs)).all (· ≤ reachBytes) = true := hsz0
  have hW' := hW
  obtain ⟨p, q, hA0, hV, rfl, hfz, hnd⟩ := hW
  have hA : DataW.TrodAll enc Try.prog W 0 (fun _ => true) true Try.f6.params.toList args.toList ds p := hA0
  rw [Try.params6] at hA hval hsz
  obtain ⟨v0, vs0, d0, ds0, p0, q0, hargs, rfl, rfl, h0, r0⟩ := trodAll_cons hA
  obtain ⟨rfl, rfl, rfl⟩ := trodAll_nil r0
  obtain rfl : args = #[v0] := by cases args; simp_all
  obtain ⟨rfl, rfl⟩ := trodVars_none hV
  have k0 := h0
  have lt0 : ∀ x ∈ p0, x.block < W.heap.size := by obtain ⟨m, hm⟩ := k0; exact DataW.trod_lt m _ _ _ hm
  obtain ⟨c0, hc0, ic0, ih0⟩ := open_commit (hval 0 26 v0 rfl rfl) h0
  clear hA0 hval0
  refine (kin_walk v0 c0 W hc0 ic0).mono fun e W' ⟨he, hm⟩ => ?_
  subst he
  have bel : Below W.heap.size W W' := hm.below _ (Nat.le_refl _) (fun _ h => h.elim)
  exact ⟨_, rfl, _, _, _, [], _, [], hW', trodAll_mk1 (shut_bool Try.underlying4 _), (trodAll_cons_mk (Below.trod laidOut (by kernel_rfl) (of_decide_eq_true (by kernel_rfl)) k0 bel lt0) trodAll_mk0), rfl, bel.frame _, fun h => by cases h⟩

theorem over : Rows.commitKinRow.holds Try.pinned (OpenSpec.ofChange Rows.commitKinSpec) :=
  OpenClaim.holds_of_wide 6 Try.f6 rfl rfl rfl rfl rfl rfl rfl ⟨rfl, rfl, rfl, rfl, rfl⟩ rfl rfl rfl rfl rfl (by kernel_rfl) Try.func6 (by kernel_rfl)
    (of_decide_eq_true (by kernel_rfl)) (by unfold Func.isWrapper; first | (rw [if_pos (by decide +kernel)]; kernel_rfl) | (rw [if_neg (by decide +kernel)]; exact ⟨rfl, rfl⟩))
    (fun os started H enc _ => lifted os started H enc)
end commitKin
theorem commitKin_holds : Rows.CommitKinSaid := commitKin.over
end Go.Proofs.Ytlekmgjjjniomaa
