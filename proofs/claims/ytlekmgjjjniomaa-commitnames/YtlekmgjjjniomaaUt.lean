/- The document's SameCommit of two commits that are the same; kept, Same and Check of a packet that is a commit. Conditions: sizes that a slice has. -/
import Derived.Test.YtlekmgjjjniomaaUs
import Derived.Test.YtlekmgjjjniomaaUq
import Derived.Test.YtlekmgjjjniomaaUf
import Derived.Deep.Cut
namespace Go.Proofs.Ytlekmgjjjniomaa
open Go.RowKit
/-- What is said of a slot. -/
def p_rs6 (g1 g2 e1 o1 n1 p1 e2 o2 n2 p2 k : Nat) (x0 x1 x2 x3 x4 x5 : Int) (i : Nat) (v : Value) (_w : World) : Prop :=
  match i with
  | 0 => v = .pointer (some ⟨g1, 4, none⟩)
  | 1 => v = .slice (some ⟨e1, o1, none⟩) n1 p1
  | 2 => v = .int .i64 (k : Int)
  | 3 => v = .pointer (some ⟨e1, o1 + k * 6, none⟩)
  | 4 => v = .agg #[.int .i64 x0, .int .i64 x1, .int .i64 x2, .int .i64 x3, .int .i64 x4, .int .i64 x5]
  | 5 => v = .pointer (some ⟨g2, 4, none⟩)
  | 6 => v = .slice (some ⟨e2, o2, none⟩) n2 p2
  | 7 => v = .int .i64 (k : Int)
  | 8 => v = .pointer (some ⟨e2, o2 + k * 6, none⟩)
  | 9 => v = .agg #[.int .i64 x0, .int .i64 x1, .int .i64 x2, .int .i64 x3, .int .i64 x4, .int .i64 x5]
  | 10 => v = .bool (!(eyb x0 x1 x2 x3 x4 x5 x0 x1 x2 x3 x4 x5))
  | _ => True
/-- Its operations. -/
structure O_rs6 (ops : Array Oper) : Prop where
  e0 : Is ops 0 (some 41) (Op.fieldAddr 26 (Operand.tmp 2) 3) none []
  e1 : Is ops 1 (some 42) (Op.load 24 (Operand.tmp 41)) none [0]
  e2 : Is ops 2 (some 43) (Op.move (Operand.tmp 5)) none []
  e3 : Is ops 3 (some 44) (Op.indexAddr 24 (Operand.tmp 42) (Operand.tmp 43)) none [1, 2]
  e4 : Is ops 4 (some 45) (Op.load 28 (Operand.tmp 44)) none [3]
  e5 : Is ops 5 (some 46) (Op.fieldAddr 26 (Operand.tmp 3) 3) none []
  e6 : Is ops 6 (some 47) (Op.load 24 (Operand.tmp 46)) none [5]
  e7 : Is ops 7 (some 48) (Op.move (Operand.tmp 5)) none []
  e8 : Is ops 8 (some 49) (Op.indexAddr 24 (Operand.tmp 47) (Operand.tmp 48)) none [6, 7]
  e9 : Is ops 9 (some 50) (Op.load 28 (Operand.tmp 49)) none [8]
  e10 : Is ops 10 (some 51) (Op.binOp BinOp.neq 28 (Operand.tmp 45) (Operand.tmp 50) 28) none [4, 9]
set_option maxRecDepth 100000 in
set_option maxHeartbeats 4000000 in
theorem rs6 {ops : Array Oper} {id : Nat} {aZ : Act} {w0 : World} {Q : Exit → Act → World → Prop} (g1 g2 e1 o1 n1 p1 e2 o2 n2 p2 k : Nat) (x0 x1 x2 x3 x4 x5 : Int)
    (E : O_rs6 ops) (hN : ops.size = 11) (hlow : lowB ops = true) (hds : dsts ops = [some 41, some 42, some 43, some 44, some 45, some 46, some 47, some 48, some 49, some 50, some 51]) (hnd : injB ops = true) (ha0 : aZ.tmps.size = 52)
    (bS2 : aZ.tmps.getD 2 undef = .pointer (some ⟨g1, 0, none⟩))
    (bS3 : aZ.tmps.getD 3 undef = .pointer (some ⟨g2, 0, none⟩))
    (bS5 : aZ.tmps.getD 5 undef = .int .i64 (k : Int))
    (k_g1_4 : w0.cell? ⟨g1, 4, none⟩ = some (.slice (some ⟨e1, o1, none⟩) n1 p1))
    (k_g2_4 : w0.cell? ⟨g2, 4, none⟩ = some (.slice (some ⟨e2, o2, none⟩) n2 p2))
    (k_e1_o1_k_6 : w0.cell? ⟨e1, o1 + k * 6, none⟩ = some (.int .i64 x0))
    (k_e1_o1_k_6_1 : w0.cell? ⟨e1, o1 + k * 6 + 1, none⟩ = some (.int .i64 x1))
    (k_e1_o1_k_6_2 : w0.cell? ⟨e1, o1 + k * 6 + 2, none⟩ = some (.int .i64 x2))
    (k_e1_o1_k_6_3 : w0.cell? ⟨e1, o1 + k * 6 + 3, none⟩ = some (.int .i64 x3))
    (k_e1_o1_k_6_4 : w0.cell? ⟨e1, o1 + k * 6 + 4, none⟩ = some (.int .i64 x4))
    (k_e1_o1_k_6_5 : w0.cell? ⟨e1, o1 + k * 6 + 5, none⟩ = some (.int .i64 x5))
    (k_e2_o2_k_6 : w0.cell? ⟨e2, o2 + k * 6, none⟩ = some (.int .i64 x0))
    (k_e2_o2_k_6_1 : w0.cell? ⟨e2, o2 + k * 6 + 1, none⟩ = some (.int .i64 x1))
    (k_e2_o2_k_6_2 : w0.cell? ⟨e2, o2 + k * 6 + 2, none⟩ = some (.int .i64 x2))
    (k_e2_o2_k_6_3 : w0.cell? ⟨e2, o2 + k * 6 + 3, none⟩ = some (.int .i64 x3))
    (k_e2_o2_k_6_4 : w0.cell? ⟨e2, o2 + k * 6 + 4, none⟩ = some (.int .i64 x4))
    (k_e2_o2_k_6_5 : w0.cell? ⟨e2, o2 + k * 6 + 5, none⟩ = some (.int .i64 x5))
    (hk1 : (k : Int) < (n1 : Int))
    (hk2 : (k : Int) < (n2 : Int))
    (hend : ∀ (_f : Nat → Value) (w : World), Mod (fun _ => False) w0 w → Q .normal (puts aZ [(41, .pointer (some ⟨g1, 4, none⟩)), (42, .slice (some ⟨e1, o1, none⟩) n1 p1), (43, .int .i64 (k : Int)), (44, .pointer (some ⟨e1, o1 + k * 6, none⟩)), (45, .agg #[.int .i64 x0, .int .i64 x1, .int .i64 x2, .int .i64 x3, .int .i64 x4, .int .i64 x5]), (46, .pointer (some ⟨g2, 4, none⟩)), (47, .slice (some ⟨e2, o2, none⟩) n2 p2), (48, .int .i64 (k : Int)), (49, .pointer (some ⟨e2, o2 + k * 6, none⟩)), (50, .agg #[.int .i64 x0, .int .i64 x1, .int .i64 x2, .int .i64 x3, .int .i64 x4, .int .i64 x5]), (51, .bool (!(eyb x0 x1 x2 x3 x4 x5 x0 x1 x2 x3 x4 x5)))]) w) :
    (Code.region id ops true).wp Try.prog Q aZ w0 := by
  obtain ⟨E0, E1, E2, E3, E4, E5, E6, E7, E8, E9, E10⟩ := E
  have hstay : ∀ (i : Nat) (v : Value) (w w1 : World), Mod (fun _ => False) w w1 → (p_rs6 g1 g2 e1 o1 n1 p1 e2 o2 n2 p2 k x0 x1 x2 x3 x4 x5) i v w → (p_rs6 g1 g2 e1 o1 n1 p1 e2 o2 n2 p2 k x0 x1 x2 x3 x4 x5) i v w1 := fun _ _ _ _ _ h => h
  have s0 : ∀ o, ops[0]? = some o → StepI Try.prog ops (p_rs6 g1 g2 e1 o1 n1 p1 e2 o2 n2 p2 k x0 x1 x2 x3 x4 x5) (fun (_ : Array Bool) (_ : Act) (w : World) => Mod (fun _ => False) w0 w) aZ Q 0 o := by
    refine E0.stepI fun o hd ho hg hw => ?_
    intro y w listed hsz hls hun hwt hdown D' hRR hinv K hK
    have f2 : y.eval (Operand.tmp 2) = .pointer (some ⟨g1, 0, none⟩)   := (hRR 2 (not_of (by rw [hds]; decide))).trans bS2
    exact .inl ⟨wanted_none hg, wp_value (ox_field (v := .pointer (some ⟨g1, 4, none⟩)) ho f2 (by simp [go_sem])) (hK _ _ (fun _ _ _ _ _ _ h => h) rfl hinv)⟩
  have s1 : ∀ o, ops[1]? = some o → StepI Try.prog ops (p_rs6 g1 g2 e1 o1 n1 p1 e2 o2 n2 p2 k x0 x1 x2 x3 x4 x5) (fun (_ : Array Bool) (_ : Act) (w : World) => Mod (fun _ => False) w0 w) aZ Q 1 o := by
    refine E1.stepI fun o hd ho hg hw => ?_
    intro y w listed hsz hls hun hwt hdown D' hRR hinv K hK
    have f41 : y.eval (Operand.tmp 41) = .pointer (some ⟨g1, 4, none⟩) := E0.postI (Post := (p_rs6 g1 g2 e1 o1 n1 p1 e2 o2 n2 p2 k x0 x1 x2 x3 x4 x5)) (a := y) (w := w) D' (hwt 0 (hw 0 (by simp)))
    have h0 := hinv.cell k_g1_4 (fun h => h)
    exact .inl ⟨wanted_none hg, wp_value (ox_load (v := .slice (some ⟨e1, o1, none⟩) n1 p1) ho f41 (by simp [go_sem, h0])) (hK _ _ (fun _ _ _ _ _ _ h => h) rfl hinv)⟩
  have s2 : ∀ o, ops[2]? = some o → StepI Try.prog ops (p_rs6 g1 g2 e1 o1 n1 p1 e2 o2 n2 p2 k x0 x1 x2 x3 x4 x5) (fun (_ : Array Bool) (_ : Act) (w : World) => Mod (fun _ => False) w0 w) aZ Q 2 o := by
    refine E2.stepI fun o hd ho hg hw => ?_
    intro y w listed hsz hls hun hwt hdown D' hRR hinv K hK
    have f5 : y.eval (Operand.tmp 5) = .int .i64 (k : Int)   := (hRR 5 (not_of (by rw [hds]; decide))).trans bS5
    exact .inl ⟨wanted_none hg, wp_value (ox_move ho f5) (hK _ _ (fun _ _ _ _ _ _ h => h) rfl hinv)⟩
  have s3 : ∀ o, ops[3]? = some o → StepI Try.prog ops (p_rs6 g1 g2 e1 o1 n1 p1 e2 o2 n2 p2 k x0 x1 x2 x3 x4 x5) (fun (_ : Array Bool) (_ : Act) (w : World) => Mod (fun _ => False) w0 w) aZ Q 3 o := by
    refine E3.stepI fun o hd ho hg hw => ?_
    intro y w listed hsz hls hun hwt hdown D' hRR hinv K hK
    have f42 : y.eval (Operand.tmp 42) = .slice (some ⟨e1, o1, none⟩) n1 p1 := E1.postI (Post := (p_rs6 g1 g2 e1 o1 n1 p1 e2 o2 n2 p2 k x0 x1 x2 x3 x4 x5)) (a := y) (w := w) D' (hwt 1 (hw 1 (by simp)))
    have f43 : y.eval (Operand.tmp 43) = .int .i64 (k : Int) := E2.postI (Post := (p_rs6 g1 g2 e1 o1 n1 p1 e2 o2 n2 p2 k x0 x1 x2 x3 x4 x5)) (a := y) (w := w) D' (hwt 2 (hw 2 (by simp)))
    exact .inl ⟨wanted_none hg, wp_value (ox_index (v := .pointer (some ⟨e1, o1 + k * 6, none⟩)) ho f42 f43 (by simp [go_sem, hk1])) (hK _ _ (fun _ _ _ _ _ _ h => h) rfl hinv)⟩
  have s4 : ∀ o, ops[4]? = some o → StepI Try.prog ops (p_rs6 g1 g2 e1 o1 n1 p1 e2 o2 n2 p2 k x0 x1 x2 x3 x4 x5) (fun (_ : Array Bool) (_ : Act) (w : World) => Mod (fun _ => False) w0 w) aZ Q 4 o := by
    refine E4.stepI fun o hd ho hg hw => ?_
    intro y w listed hsz hls hun hwt hdown D' hRR hinv K hK
    have f44 : y.eval (Operand.tmp 44) = .pointer (some ⟨e1, o1 + k * 6, none⟩) := E3.postI (Post := (p_rs6 g1 g2 e1 o1 n1 p1 e2 o2 n2 p2 k x0 x1 x2 x3 x4 x5)) (a := y) (w := w) D' (hwt 3 (hw 3 (by simp)))
    have h0 := hinv.cell k_e1_o1_k_6 (fun h => h)
    have h1 := hinv.cell k_e1_o1_k_6_1 (fun h => h)
    have h2 := hinv.cell k_e1_o1_k_6_2 (fun h => h)
    have h3 := hinv.cell k_e1_o1_k_6_3 (fun h => h)
    have h4 := hinv.cell k_e1_o1_k_6_4 (fun h => h)
    have h5 := hinv.cell k_e1_o1_k_6_5 (fun h => h)
    exact .inl ⟨wanted_none hg, wp_value (ox_load (v := .agg #[.int .i64 x0, .int .i64 x1, .int .i64 x2, .int .i64 x3, .int .i64 x4, .int .i64 x5]) ho f44 (by simp [go_sem, h0, h1, h2, h3, h4, h5])) (hK _ _ (fun _ _ _ _ _ _ h => h) rfl hinv)⟩
  have s5 : ∀ o, ops[5]? = some o → StepI Try.prog ops (p_rs6 g1 g2 e1 o1 n1 p1 e2 o2 n2 p2 k x0 x1 x2 x3 x4 x5) (fun (_ : Array Bool) (_ : Act) (w : World) => Mod (fun _ => False) w0 w) aZ Q 5 o := by
    refine E5.stepI fun o hd ho hg hw => ?_
    intro y w listed hsz hls hun hwt hdown D' hRR hinv K hK
    have f3 : y.eval (Operand.tmp 3) = .pointer (some ⟨g2, 0, none⟩)   := (hRR 3 (not_of (by rw [hds]; decide))).trans bS3
    exact .inl ⟨wanted_none hg, wp_value (ox_field (v := .pointer (some ⟨g2, 4, none⟩)) ho f3 (by simp [go_sem])) (hK _ _ (fun _ _ _ _ _ _ h => h) rfl hinv)⟩
  have s6 : ∀ o, ops[6]? = some o → StepI Try.prog ops (p_rs6 g1 g2 e1 o1 n1 p1 e2 o2 n2 p2 k x0 x1 x2 x3 x4 x5) (fun (_ : Array Bool) (_ : Act) (w : World) => Mod (fun _ => False) w0 w) aZ Q 6 o := by
    refine E6.stepI fun o hd ho hg hw => ?_
    intro y w listed hsz hls hun hwt hdown D' hRR hinv K hK
    have f46 : y.eval (Operand.tmp 46) = .pointer (some ⟨g2, 4, none⟩) := E5.postI (Post := (p_rs6 g1 g2 e1 o1 n1 p1 e2 o2 n2 p2 k x0 x1 x2 x3 x4 x5)) (a := y) (w := w) D' (hwt 5 (hw 5 (by simp)))
    have h0 := hinv.cell k_g2_4 (fun h => h)
    exact .inl ⟨wanted_none hg, wp_value (ox_load (v := .slice (some ⟨e2, o2, none⟩) n2 p2) ho f46 (by simp [go_sem, h0])) (hK _ _ (fun _ _ _ _ _ _ h => h) rfl hinv)⟩
  have s7 : ∀ o, ops[7]? = some o → StepI Try.prog ops (p_rs6 g1 g2 e1 o1 n1 p1 e2 o2 n2 p2 k x0 x1 x2 x3 x4 x5) (fun (_ : Array Bool) (_ : Act) (w : World) => Mod (fun _ => False) w0 w) aZ Q 7 o := by
    refine E7.stepI fun o hd ho hg hw => ?_
    intro y w listed hsz hls hun hwt hdown D' hRR hinv K hK
    have f5 : y.eval (Operand.tmp 5) = .int .i64 (k : Int)   := (hRR 5 (not_of (by rw [hds]; decide))).trans bS5
    exact .inl ⟨wanted_none hg, wp_value (ox_move ho f5) (hK _ _ (fun _ _ _ _ _ _ h => h) rfl hinv)⟩
  have s8 : ∀ o, ops[8]? = some o → StepI Try.prog ops (p_rs6 g1 g2 e1 o1 n1 p1 e2 o2 n2 p2 k x0 x1 x2 x3 x4 x5) (fun (_ : Array Bool) (_ : Act) (w : World) => Mod (fun _ => False) w0 w) aZ Q 8 o := by
    refine E8.stepI fun o hd ho hg hw => ?_
    intro y w listed hsz hls hun hwt hdown D' hRR hinv K hK
    have f47 : y.eval (Operand.tmp 47) = .slice (some ⟨e2, o2, none⟩) n2 p2 := E6.postI (Post := (p_rs6 g1 g2 e1 o1 n1 p1 e2 o2 n2 p2 k x0 x1 x2 x3 x4 x5)) (a := y) (w := w) D' (hwt 6 (hw 6 (by simp)))
    have f48 : y.eval (Operand.tmp 48) = .int .i64 (k : Int) := E7.postI (Post := (p_rs6 g1 g2 e1 o1 n1 p1 e2 o2 n2 p2 k x0 x1 x2 x3 x4 x5)) (a := y) (w := w) D' (hwt 7 (hw 7 (by simp)))
    exact .inl ⟨wanted_none hg, wp_value (ox_index (v := .pointer (some ⟨e2, o2 + k * 6, none⟩)) ho f47 f48 (by simp [go_sem, hk2])) (hK _ _ (fun _ _ _ _ _ _ h => h) rfl hinv)⟩
  have s9 : ∀ o, ops[9]? = some o → StepI Try.prog ops (p_rs6 g1 g2 e1 o1 n1 p1 e2 o2 n2 p2 k x0 x1 x2 x3 x4 x5) (fun (_ : Array Bool) (_ : Act) (w : World) => Mod (fun _ => False) w0 w) aZ Q 9 o := by
    refine E9.stepI fun o hd ho hg hw => ?_
    intro y w listed hsz hls hun hwt hdown D' hRR hinv K hK
    have f49 : y.eval (Operand.tmp 49) = .pointer (some ⟨e2, o2 + k * 6, none⟩) := E8.postI (Post := (p_rs6 g1 g2 e1 o1 n1 p1 e2 o2 n2 p2 k x0 x1 x2 x3 x4 x5)) (a := y) (w := w) D' (hwt 8 (hw 8 (by simp)))
    have h0 := hinv.cell k_e2_o2_k_6 (fun h => h)
    have h1 := hinv.cell k_e2_o2_k_6_1 (fun h => h)
    have h2 := hinv.cell k_e2_o2_k_6_2 (fun h => h)
    have h3 := hinv.cell k_e2_o2_k_6_3 (fun h => h)
    have h4 := hinv.cell k_e2_o2_k_6_4 (fun h => h)
    have h5 := hinv.cell k_e2_o2_k_6_5 (fun h => h)
    exact .inl ⟨wanted_none hg, wp_value (ox_load (v := .agg #[.int .i64 x0, .int .i64 x1, .int .i64 x2, .int .i64 x3, .int .i64 x4, .int .i64 x5]) ho f49 (by simp [go_sem, h0, h1, h2, h3, h4, h5])) (hK _ _ (fun _ _ _ _ _ _ h => h) rfl hinv)⟩
  have s10 : ∀ o, ops[10]? = some o → StepI Try.prog ops (p_rs6 g1 g2 e1 o1 n1 p1 e2 o2 n2 p2 k x0 x1 x2 x3 x4 x5) (fun (_ : Array Bool) (_ : Act) (w : World) => Mod (fun _ => False) w0 w) aZ Q 10 o := by
    refine E10.stepI fun o hd ho hg hw => ?_
    intro y w listed hsz hls hun hwt hdown D' hRR hinv K hK
    have f45 : y.eval (Operand.tmp 45) = .agg #[.int .i64 x0, .int .i64 x1, .int .i64 x2, .int .i64 x3, .int .i64 x4, .int .i64 x5] := E4.postI (Post := (p_rs6 g1 g2 e1 o1 n1 p1 e2 o2 n2 p2 k x0 x1 x2 x3 x4 x5)) (a := y) (w := w) D' (hwt 4 (hw 4 (by simp)))
    have f50 : y.eval (Operand.tmp 50) = .agg #[.int .i64 x0, .int .i64 x1, .int .i64 x2, .int .i64 x3, .int .i64 x4, .int .i64 x5] := E9.postI (Post := (p_rs6 g1 g2 e1 o1 n1 p1 e2 o2 n2 p2 k x0 x1 x2 x3 x4 x5)) (a := y) (w := w) D' (hwt 9 (hw 9 (by simp)))
    exact .inl ⟨wanted_none hg, wp_value (rx_neqE ho f45 f50) (hK _ _ (fun _ _ _ _ _ _ h => h) rfl hinv)⟩
  refine region_freeI (Post := (p_rs6 g1 g2 e1 o1 n1 p1 e2 o2 n2 p2 k x0 x1 x2 x3 x4 x5)) (Inv := (fun (_ : Array Bool) (_ : Act) (w : World) => Mod (fun _ => False) w0 w)) mixed (low_of hlow) (fun i o ho => by rw [ha0]; exact dst_of (by rw [hds]; decide) i o ho) (inj_of hnd) (Mod.refl _ _).drew ?_ ?_
  · intro i o ho
    have hi : i < 11 := by
      rw [← hN]
      rcases Nat.lt_or_ge i ops.size with h | h
      · exact h
      · rw [Array.getElem?_eq_none h] at ho; cases ho
    clear hend
    by_cases e0 : i = 0
    · subst e0; exact s0 o ho
    by_cases e1 : i = 1
    · subst e1; exact s1 o ho
    by_cases e2 : i = 2
    · subst e2; exact s2 o ho
    by_cases e3 : i = 3
    · subst e3; exact s3 o ho
    by_cases e4 : i = 4
    · subst e4; exact s4 o ho
    by_cases e5 : i = 5
    · subst e5; exact s5 o ho
    by_cases e6 : i = 6
    · subst e6; exact s6 o ho
    by_cases e7 : i = 7
    · subst e7; exact s7 o ho
    by_cases e8 : i = 8
    · subst e8; exact s8 o ho
    by_cases e9 : i = 9
    · subst e9; exact s9 o ho
    by_cases e10 : i = 10
    · subst e10; exact s10 o ho
    omega
  · intro y w listed hsz hdf hls hall hinv hPO hRE
    have e : y = puts aZ [(41, .pointer (some ⟨g1, 4, none⟩)), (42, .slice (some ⟨e1, o1, none⟩) n1 p1), (43, .int .i64 (k : Int)), (44, .pointer (some ⟨e1, o1 + k * 6, none⟩)), (45, .agg #[.int .i64 x0, .int .i64 x1, .int .i64 x2, .int .i64 x3, .int .i64 x4, .int .i64 x5]), (46, .pointer (some ⟨g2, 4, none⟩)), (47, .slice (some ⟨e2, o2, none⟩) n2 p2), (48, .int .i64 (k : Int)), (49, .pointer (some ⟨e2, o2 + k * 6, none⟩)), (50, .agg #[.int .i64 x0, .int .i64 x1, .int .i64 x2, .int .i64 x3, .int .i64 x4, .int .i64 x5]), (51, .bool (!(eyb x0 x1 x2 x3 x4 x5 x0 x1 x2 x3 x4 x5)))] := by
      refine eq_puts hsz hdf (nodup_of (D := [some 41, some 42, some 43, some 44, some 45, some 46, some 47, some 48, some 49, some 50, some 51]) rfl (by decide)) (by rw [ha0]; simp) ?_ ?_
      · intro q hq
        simp only [List.mem_cons, List.not_mem_nil, or_false] at hq
        rcases hq with rfl | rfl | rfl | rfl | rfl | rfl | rfl | rfl | rfl | rfl | rfl
        · obtain ⟨o, h1, h2, _⟩ := E0.ex
          exact hPO 0 o _ h1 h2
        · obtain ⟨o, h1, h2, _⟩ := E1.ex
          exact hPO 1 o _ h1 h2
        · obtain ⟨o, h1, h2, _⟩ := E2.ex
          exact hPO 2 o _ h1 h2
        · obtain ⟨o, h1, h2, _⟩ := E3.ex
          exact hPO 3 o _ h1 h2
        · obtain ⟨o, h1, h2, _⟩ := E4.ex
          exact hPO 4 o _ h1 h2
        · obtain ⟨o, h1, h2, _⟩ := E5.ex
          exact hPO 5 o _ h1 h2
        · obtain ⟨o, h1, h2, _⟩ := E6.ex
          exact hPO 6 o _ h1 h2
        · obtain ⟨o, h1, h2, _⟩ := E7.ex
          exact hPO 7 o _ h1 h2
        · obtain ⟨o, h1, h2, _⟩ := E8.ex
          exact hPO 8 o _ h1 h2
        · obtain ⟨o, h1, h2, _⟩ := E9.ex
          exact hPO 9 o _ h1 h2
        · obtain ⟨o, h1, h2, _⟩ := E10.ex
          exact hPO 10 o _ h1 h2
      · intro t ht
        exact hRE t (not_of (by rw [hds]; exact not_cont rfl ht))
    rw [e]
    exact hend (fun d => y.tmps.getD d undef) w hinv
theorem eyb_self (x0 x1 x2 x3 x4 x5 : Int) : eyb x0 x1 x2 x3 x4 x5 x0 x1 x2 x3 x4 x5 = true := by simp [eyb]
set_option maxRecDepth 100000 in
set_option maxHeartbeats 4000000 in
theorem sameC_eq (w : World) (v1 v2 : Value) (c : Cm) (h1 : Cv w v1 c) (h2 : Cv w v2 c) : Calls Try.prog 15 #[v1, v2] w fun e w' => e = .returned (.bool true) ∧ Mod (fun _ => False) w w' := by
  obtain ⟨rs, rr, mm, hp, ce⟩ := c
  obtain ⟨a1, k1, rfl, s1⟩ := h1.form
  obtain ⟨a2, k2, rfl, s2⟩ := h2.form
  simp only at *
  have hM := ((Mod.refl (fun _ => False) w).alloc (.cells #[.int .i64 rs, .int .i64 rr, .int .i64 mm, .int .i64 hp, .slice a1 ce.length k1] 26)).alloc (.cells #[.int .i64 rs, .int .i64 rr, .int .i64 mm, .int .i64 hp, .slice a2 ce.length k2] 26)
  have hB1 := (Bk.new w #[.int .i64 rs, .int .i64 rr, .int .i64 mm, .int .i64 hp, .slice a1 ce.length k1] 26).mod ((Mod.refl (fun _ => False) _).alloc (.cells #[.int .i64 rs, .int .i64 rr, .int .i64 mm, .int .i64 hp, .slice a2 ce.length k2] 26)) (fun h => h)
  have hB2 := Bk.new (w.alloc (.cells #[.int .i64 rs, .int .i64 rr, .int .i64 mm, .int .i64 hp, .slice a1 ce.length k1] 26)) #[.int .i64 rs, .int .i64 rr, .int .i64 mm, .int .i64 hp, .slice a2 ce.length k2] 26
  simp only [World.size_alloc] at hB2
  obtain ⟨w0, hw0⟩ : ∃ w0, w0 = (w.alloc (.cells #[.int .i64 rs, .int .i64 rr, .int .i64 mm, .int .i64 hp, .slice a1 ce.length k1] 26)).alloc (.cells #[.int .i64 rs, .int .i64 rr, .int .i64 mm, .int .i64 hp, .slice a2 ce.length k2] 26) := ⟨_, rfl⟩
  rw [← hw0] at hM hB1 hB2
  have HQ : Hid (Bk w0 w.heap.size _ _ ∧ Bk w0 (w.heap.size + 1) _ _ ∧ Mod (fun _ => False) w w0 ∧ SlE w0 (.slice a1 ce.length k1) ce ∧ SlE w0 (.slice a2 ce.length k2) ce) := ⟨hB1, hB2, hM, s1.keep hM, s2.keep hM⟩
  have HW0 : Hid (w0 = _) := hw0
  obtain ⟨_, _, _, hlen⟩ := s1.shape
  have ER := eqRing rs rr rs rr
  simp only [decide_true, Bool.and_self] at ER
  clear hB1 hB2 hM s1 s2 h1 h2 hw0
  go_enter Try.func15, Try.ntmps15
  go_wp2
  rw [← HW0.out]
  go_loopw [5] (fun i wr => ∃ k : Nat, i = .int .i64 (k : Int) ∧ k ≤ ce.length ∧ Hid (Mod (fun _ => False) w0 wr)) (fun i _ => ce.length - (intOf i).toNat)
  case atStart => exact ⟨0, rfl, by omega, Mod.refl _ _⟩
  case round =>
    obtain ⟨k, rfl, hk, HMw⟩ := hrel
    have hB1 := HQ.out.1.mod HMw.out (fun h => h)
    have hB2 := HQ.out.2.1.mod HMw.out (fun h => h)
    have b4 := hB1.cellv (j := 4) rfl
    have d4 := hB2.cellv (j := 4) rfl
    by_cases hlt : k < ce.length
    · obtain ⟨e, hee⟩ : ∃ e, ce[k]? = some e := ⟨_, List.getElem?_eq_getElem hlt⟩
      obtain ⟨b1, f1, rfl, hc1⟩ := HQ.out.2.2.2.1.at hee
      obtain ⟨b2, f2, rfl, hc2⟩ := HQ.out.2.2.2.2.at hee
      obtain ⟨s0, s1, s2, s3, s4, s5⟩ := hc1 _ HMw.out
      obtain ⟨t0, t1, t2, t3, t4, t5⟩ := hc2 _ HMw.out
      obtain ⟨x0, x1, x2, x3, x4, x5⟩ := e
      simp only at s0 s1 s2 s3 s4 s5 t0 t1 t2 t3 t4 t5
      have hki : (k : Int) < ce.length := by omega
      clear hee hc1 hc2 hB1 hB2
      go_upto_region 6 with fail
      refine rs6 w.heap.size (w.heap.size + 1) b1 f1 ce.length k1 b2 f2 ce.length k2 k x0 x1 x2 x3 x4 x5 ⟨⟨⟨_, rfl, rfl, rfl, rfl, by decide +kernel⟩⟩, ⟨⟨_, rfl, rfl, rfl, rfl, by decide +kernel⟩⟩, ⟨⟨_, rfl, rfl, rfl, rfl, by decide +kernel⟩⟩, ⟨⟨_, rfl, rfl, rfl, rfl, by decide +kernel⟩⟩, ⟨⟨_, rfl, rfl, rfl, rfl, by decide +kernel⟩⟩, ⟨⟨_, rfl, rfl, rfl, rfl, by decide +kernel⟩⟩, ⟨⟨_, rfl, rfl, rfl, rfl, by decide +kernel⟩⟩, ⟨⟨_, rfl, rfl, rfl, rfl, by decide +kernel⟩⟩, ⟨⟨_, rfl, rfl, rfl, rfl, by decide +kernel⟩⟩, ⟨⟨_, rfl, rfl, rfl, rfl, by decide +kernel⟩⟩, ⟨⟨_, rfl, rfl, rfl, rfl, by decide +kernel⟩⟩⟩ rfl (by decide +kernel) rfl (by decide +kernel) rfl rfl rfl rfl b4 d4 s0 s1 s2 s3 s4 s5 t0 t1 t2 t3 t4 t5 hki hki ?_
      intro f w5 hm5
      simp only [puts, Act.put, List.setIfInBounds_toArray, List.set_cons_succ, List.set_cons_zero, eyb_self]
      clear b4 d4 s0 s1 s2 s3 s4 s5 t0 t1 t2 t3 t4 t5
      go_wp2
      go_roundw
      case rel => exact ⟨k + 1, by go_num, by omega, HMw.out.and hm5⟩
      case measure => simp [intOf]; omega
    · clear hB1 hB2
      go_wp2
      go_ret
      exact ⟨rfl, HQ.out.2.2.1.and HMw.out⟩
end Go.Proofs.Ytlekmgjjjniomaa
