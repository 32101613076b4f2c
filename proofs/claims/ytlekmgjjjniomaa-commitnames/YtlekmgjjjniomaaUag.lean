/- CommitNames: the numbers and examples. No conditions. -/
import Derived.Test.YtlekmgjjjniomaaUaf
import Derived.Test.YtlekmgjjjniomaaUy
import Derived.Test.YtlekmgjjjniomaaUl
namespace Go.Proofs.Ytlekmgjjjniomaa
open Go.RowKit
def c4 : Cm := ⟨9, 1, 10, 4, [e1, e3]⟩
def e8 : Ey := ⟨8, 1, 8, 0, 0, 9007199254740991⟩
def c8 : Cm := ⟨9, 8, 256, 1, [e8]⟩
theorem pas_c4 : pasC c3 = (c4, 0) := by
  unfold pasC
  rw [if_pos ⟨by decide +kernel, by decide +kernel⟩]
  rfl
theorem new_c8 : newC 9 8 256 e8 = (c8, 0) := by
  unfold newC
  rw [if_pos (by decide +kernel)]
  rfl
theorem vis_c4 : vis c4 1 = 3 := by decide +kernel
theorem vis_c8 : vis c8 8 = 2 := by decide +kernel
theorem st_c8 : stC c8 = 9007199254740991 := by decide +kernel
/-- A commit among those of a row. -/
structure Lc (w : World) (b i : Nat) (c : Cm) (ao : Option Addr) (cap : Nat) : Prop where
  cell : ∀ j v, (#[.int .i64 c.rs, .int .i64 c.rr, .int .i64 c.mem, .int .i64 c.hop, .slice ao c.es.length cap] : Array Value)[j]? = some v → w.cell? ⟨b, i * 5 + j, none⟩ = some v
  cv : Cv w (.agg #[.int .i64 c.rs, .int .i64 c.rr, .int .i64 c.mem, .int .i64 c.hop, .slice ao c.es.length cap]) c
  mem : I64 c.mem
  hop : I64 c.hop
  len : c.es.length * 48 ≤ 140737488355328
theorem Lc.keep {w w' : World} {b i : Nat} {c : Cm} {ao : Option Addr} {cap : Nat} (h : Lc w b i c ao cap) (hm : Mod (fun _ => False) w w') : Lc w' b i c ao cap :=
  ⟨fun j v hj => hm.cell (h.cell j v hj) (fun h => h), h.cv.keep hm, h.mem, h.hop, h.len⟩
def bad1 : Ey := ⟨1, 2, 1, 5, 4, 5⟩
def ezs : List Ey := [e1, e3, bad1, ⟨0, 0, 0, 0, 0, 0⟩, ⟨8, 1, 8, 0, 0, 0⟩]
/-- What is past a block's making stays as it is. -/
theorem Cv.past {wa w w' : World} {v : Value} {c : Cm} {g : Nat} (h0 : Cv wa v c) (hg : wa.heap.size ≤ g) (hm1 : Mod (fun _ => False) wa w) (hm : Mod (fun i => i = g) w w') : Cv w' v c := by
  obtain ⟨ao, cap, e, h1⟩ := h0.form
  exact ⟨ao, cap, e, (h1.keep hm1).mod hm (fun hl b hb e => by have := h1.lt hl b hb; omega)⟩
theorem Cv.sl {w : World} {x y z u : Value} {ao : Option Addr} {n cap : Nat} {c : Cm} (h : Cv w (.agg #[x, y, z, u, .slice ao n cap]) c) : SlE w (.slice ao n cap) c.es := by
  obtain ⟨ao', cap', e, h1⟩ := h.form
  simp only [Value.agg.injEq, Array.mk.injEq, List.cons.injEq, Value.slice.injEq, and_true] at e
  obtain ⟨-, -, -, -, rfl, e2, rfl⟩ := e
  rw [e2]
  exact h1
theorem wpList_valu {ops : Array Oper} {rest : List Oper} {op : Oper} {a : Act} {w w' : World} {Q : Exit → Act → World → Prop} {v : Value} (hw : Region.wanted op (yielded ops a.tmps) = true) (hr : (execOp a.eval op).run Try.prog w = .ok (.value v) w')
    (h : wpList Try.prog ops Q rest (a.put op.dst v) w') : wpList Try.prog ops Q (op :: rest) a w := by
  refine wpList_step fun K hK => ?_
  rw [if_pos hw]
  exact wp_value hr (hK _ _ h)
theorem rn2_info : (Try.prog.info? 26).map (·.size) = some 5 := by kernel_rfl
theorem rn2_al {o : Oper} {ρ : Operand → Value} {w : World} (ho : o.op = .alloc 26) : (execOp ρ o).run Try.prog w = .ok (.value (.pointer (some ⟨w.heap.size, 0, none⟩))) (w.alloc (.cells #[.int .i64 0, .int .i64 0, .int .i64 0, .int .i64 0, .slice none 0 0] 26)) := by
  simp [execOp, ho, go_sem]
/-- What is said of a slot. -/
def p_rn2 (_b : Nat) (x0 x1 x2 x3 x4 : Value) (PR : World → Value → Prop) (H0 : Nat) (i : Nat) (v : Value) (_w : World) : Prop :=
  match i with
  | 0 => v = .agg #[x0, x1, x2, x3, x4]
  | 1 => v = .agg #[.int .i64 3, .int .i64 2, .int .i64 1, .int .i64 2, .int .i64 6, .int .i64 8]
  | 2 => ∃ v', v = .tuple #[v', .int .i64 0] ∧ PR _w v'
  | 3 => ∃ v', v = .tuple #[v', .int .i64 0] ∧ PR _w v'
  | 4 => PR _w v
  | 5 => v = .int .i64 0
  | 6 => ∃ (z : Nat) (xs : Array Value), v = .pointer (some ⟨z, 0, none⟩) ∧ H0 ≤ z ∧ Bk _w z 26 xs ∧ xs.size = 5
  | 8 => v = .int .i64 0
  | _ => True
theorem p_rn2_stab (b : Nat) (x0 x1 x2 x3 x4 : Value) (PR : World → Value → Prop) (H0 : Nat) (hPRm : ∀ (w w' : World) (v : Value), Mod (fun _ => False) w w' → PR w v → PR w' v) : ∀ i v w w', Mod (fun _ => False) w w' → (p_rn2 b x0 x1 x2 x3 x4 PR H0) i v w → (p_rn2 b x0 x1 x2 x3 x4 PR H0) i v w' := by
  intro i v w w' hm h
  unfold p_rn2 at h ⊢
  split at h
  case h_3 => obtain ⟨v', h1, h2⟩ := h; exact ⟨v', h1, hPRm _ _ _ hm h2⟩
  case h_4 => obtain ⟨v', h1, h2⟩ := h; exact ⟨v', h1, hPRm _ _ _ hm h2⟩
  case h_5 => exact hPRm _ _ _ hm h
  case h_7 => obtain ⟨z, xs, h1, h2, h3, h4⟩ := h; exact ⟨z, xs, h1, h2, h3.mod hm (fun h => h), h4⟩
  all_goals exact h
theorem p_rn2_store (b : Nat) (x0 x1 x2 x3 x4 : Value) (PR : World → Value → Prop) (H0 : Nat) (hPRs : ∀ (w : World) (z : Nat) (xs cs : Array Value) (v : Value), PR w v → Bk w z 26 xs → PR (w.setCells z 0 cs.toList) v) : ∀ i v w z xs (cs : Array Value), Bk w z 26 xs → xs.size = cs.size → cs.size = 5 → (p_rn2 b x0 x1 x2 x3 x4 PR H0) i v w → (p_rn2 b x0 x1 x2 x3 x4 PR H0) i v (w.setCells z 0 cs.toList) := by
  intro i v w z xs cs hb hsz hn h
  unfold p_rn2 at h ⊢
  split at h
  case h_3 => obtain ⟨v', h1, h2⟩ := h; exact ⟨v', h1, hPRs _ _ _ _ _ h2 hb⟩
  case h_4 => obtain ⟨v', h1, h2⟩ := h; exact ⟨v', h1, hPRs _ _ _ _ _ h2 hb⟩
  case h_5 => exact hPRs _ _ _ _ _ h hb
  case h_7 =>
    obtain ⟨y, ys, h1, h2, h3, h4⟩ := h
    by_cases e : y = z
    · subst e; exact ⟨y, _, h1, h2, hb.whole cs hsz, hn⟩
    · exact ⟨y, ys, h1, h2, h3.mod (setCells_mod z cs.toList 0 w) e, h4⟩
  all_goals exact h
/-- Its operations. -/
structure O_rn2 (ops : Array Oper) : Prop where
  e0 : Is ops 0 (some 23) (Op.load 26 (Operand.tmp 1)) none []
  e1 : Is ops 1 (some 24) (Op.call { callee := Callee.value (Operand.func 30), args := #[], argTypes := #[] }) none []
  e2 : Is ops 2 (some 25) (Op.call { callee := Callee.value (Operand.func 11), args := #[Operand.tmp 23, Operand.tmp 24], argTypes := #[26, 28] }) none [0, 1]
  e3 : Is ops 3 (some 22) (Op.move (Operand.tmp 25)) none [2]
  e4 : Is ops 4 (some 26) (Op.extract (Operand.tmp 22) 0) none [3]
  e5 : Is ops 5 (some 27) (Op.extract (Operand.tmp 22) 1) none [3]
  e6 : Is ops 6 (some 3) (Op.alloc 26) none []
  e7 : Is ops 7 none (Op.store 26 (Operand.tmp 3) (Operand.tmp 26)) none [0, 1, 2, 3, 4, 6]
  e8 : Is ops 8 (some 4) (Op.assign (Operand.tmp 27)) none [0, 1, 2, 3, 4, 5, 6, 7]
set_option maxRecDepth 100000 in
set_option maxHeartbeats 4000000 in
theorem rn2 {ops : Array Oper} {id : Nat} {aZ : Act} {w0 : World} {Q : Exit → Act → World → Prop} (b : Nat) (x0 x1 x2 x3 x4 : Value) (PR : World → Value → Prop)
    (E : O_rn2 ops) (hN : ops.size = 9) (hlow : lowB ops = true) (hds : dsts ops = [some 23, some 24, some 25, some 22, some 26, some 27, some 3, none, some 4]) (hnd : injB ops = true) (ha0 : aZ.tmps.size = 154)
    (bS1 : aZ.tmps.getD 1 undef = .pointer (some ⟨b, 0, none⟩))
    (k_b_0 : w0.cell? ⟨b, 0, none⟩ = some (x0))
    (k_b_1 : w0.cell? ⟨b, 1, none⟩ = some (x1))
    (k_b_2 : w0.cell? ⟨b, 2, none⟩ = some (x2))
    (k_b_3 : w0.cell? ⟨b, 3, none⟩ = some (x3))
    (k_b_4 : w0.cell? ⟨b, 4, none⟩ = some (x4))
    (hPRm : ∀ (w w' : World) (v : Value), Mod (fun _ => False) w w' → PR w v → PR w' v)
    (hPRs : ∀ (w : World) (z : Nat) (xs cs : Array Value) (v : Value), PR w v → Bk w z 26 xs → PR (w.setCells z 0 cs.toList) v)
    (hPRf : ∀ (w : World) (v : Value), PR w v → ∃ cs : Array Value, v = .agg cs ∧ cs.size = 5 ∧ cs.toList.all (·.oneCell') = true)
    (H1 : ∀ (W : World), Mod (fun _ => False) w0 W → Calls Try.prog 30 #[] W fun e w' => e = .returned (.agg #[.int .i64 3, .int .i64 2, .int .i64 1, .int .i64 2, .int .i64 6, .int .i64 8]) ∧ Mod (fun _ => False) W w')
    (H2 : ∀ (W : World), Mod (fun _ => False) w0 W → Calls Try.prog 11 #[.agg #[x0, x1, x2, x3, x4], .agg #[.int .i64 3, .int .i64 2, .int .i64 1, .int .i64 2, .int .i64 6, .int .i64 8]] W fun e w' => ∃ v', e = .returned (.tuple #[v', .int .i64 0]) ∧ PR w' v' ∧ Mod (fun _ => False) W w')
    (hend : ∀ (f : Nat → Value) (w : World) (z : Nat) (cells : Array Value), Mod (fun _ => False) w0 w → w0.heap.size ≤ z → Bk w z 26 cells → PR w (.agg cells) → Q .normal (puts aZ [(23, .agg #[x0, x1, x2, x3, x4]), (24, .agg #[.int .i64 3, .int .i64 2, .int .i64 1, .int .i64 2, .int .i64 6, .int .i64 8]), (25, f 25), (22, f 22), (26, f 26), (27, .int .i64 0), (3, .pointer (some ⟨z, 0, none⟩)), (4, .int .i64 0)]) w) :
    (Code.region id ops true).wp Try.prog Q aZ w0 := by
  obtain ⟨E0, E1, E2, E3, E4, E5, E6, E7, E8⟩ := E
  have hstay : ∀ (i : Nat) (v : Value) (w w1 : World), Mod (fun _ => False) w w1 → (p_rn2 b x0 x1 x2 x3 x4 PR w0.heap.size) i v w → (p_rn2 b x0 x1 x2 x3 x4 PR w0.heap.size) i v w1 := fun i v w w' hm h => p_rn2_stab _ _ _ _ _ _ _ _ hPRm i v w w' hm h
  have s0 : ∀ o, ops[0]? = some o → StepI Try.prog ops (p_rn2 b x0 x1 x2 x3 x4 PR w0.heap.size) (IS (fun _ => False) 7 3 26 PR w0) aZ Q 0 o := by
    refine E0.stepI fun o hd ho hg hw => ?_
    intro y w listed hsz hls hun hwt hdown D' hRR hinv K hK
    have hiL : 0 < listed.size := by rw [hls, hN]; decide
    have nS : listed.getD 7 false = false := E7.down hdown (j := 0) (by simp) hun
    have f1 : y.eval (Operand.tmp 1) = .pointer (some ⟨b, 0, none⟩)   := (hRR 1 (not_of (by rw [hds]; decide))).trans bS1
    have h0 := (hinv.pre nS).cell k_b_0 (fun h => h)
    have h1 := (hinv.pre nS).cell k_b_1 (fun h => h)
    have h2 := (hinv.pre nS).cell k_b_2 (fun h => h)
    have h3 := (hinv.pre nS).cell k_b_3 (fun h => h)
    have h4 := (hinv.pre nS).cell k_b_4 (fun h => h)
    exact .inl ⟨wanted_none hg, wp_value (ox_load (v := .agg #[x0, x1, x2, x3, x4]) ho f1 (by simp [go_sem, h0, h1, h2, h3, h4])) (hK _ _ (fun _ _ _ _ _ _ h => h) rfl (by rw [hd]; exact hinv.keep hiL (by decide) (by decide) _))⟩
  have s1 : ∀ o, ops[1]? = some o → StepI Try.prog ops (p_rn2 b x0 x1 x2 x3 x4 PR w0.heap.size) (IS (fun _ => False) 7 3 26 PR w0) aZ Q 1 o := by
    refine E1.stepI fun o hd ho hg hw => ?_
    intro y w listed hsz hls hun hwt hdown D' hRR hinv K hK
    have hiL : 1 < listed.size := by rw [hls, hN]; decide
    have nS : listed.getD 7 false = false := E7.down hdown (j := 1) (by simp) hun
    refine .inl ⟨wanted_none hg, wp_enter (f := 30) (args := #[]) ?_ (H1 w  (hinv.pre nS) ) ?_⟩
    · have h := exec_call0 y.eval (fun args w => by simp [go_sem]) rfl ho (w := w)
      exact h
    · rintro e w' ⟨rfl, hm⟩
      exact ⟨_, rfl, hK _ _ (fun j oj d _ _ _ h => hstay _ _ _ _ hm h) rfl (hinv.call hiL (by decide) nS hm)⟩
  have s2 : ∀ o, ops[2]? = some o → StepI Try.prog ops (p_rn2 b x0 x1 x2 x3 x4 PR w0.heap.size) (IS (fun _ => False) 7 3 26 PR w0) aZ Q 2 o := by
    refine E2.stepI fun o hd ho hg hw => ?_
    intro y w listed hsz hls hun hwt hdown D' hRR hinv K hK
    have hiL : 2 < listed.size := by rw [hls, hN]; decide
    have nS : listed.getD 7 false = false := E7.down hdown (j := 2) (by simp) hun
    have f23 : y.eval (Operand.tmp 23) = .agg #[x0, x1, x2, x3, x4] := E0.postI (Post := (p_rn2 b x0 x1 x2 x3 x4 PR w0.heap.size)) (a := y) (w := w) D' (hwt 0 (hw 0 (by simp)))
    have f24 : y.eval (Operand.tmp 24) = .agg #[.int .i64 3, .int .i64 2, .int .i64 1, .int .i64 2, .int .i64 6, .int .i64 8] := E1.postI (Post := (p_rn2 b x0 x1 x2 x3 x4 PR w0.heap.size)) (a := y) (w := w) D' (hwt 1 (hw 1 (by simp)))
    refine .inl ⟨wanted_none hg, wp_enter (f := 11) (args := #[.agg #[x0, x1, x2, x3, x4], .agg #[.int .i64 3, .int .i64 2, .int .i64 1, .int .i64 2, .int .i64 6, .int .i64 8]]) ?_ (H2 w  (hinv.pre nS) ) ?_⟩
    · have h := exec_call2 y.eval (fun args w => by simp [go_sem]) rfl ho (w := w)
      rw [f23, f24] at h
      exact h
    · rintro e w' ⟨v', rfl, hpp, hm⟩
      exact ⟨_, rfl, hK _ _ (fun j oj d _ _ _ h => hstay _ _ _ _ hm h) ⟨v', rfl, hpp⟩ (hinv.call hiL (by decide) nS hm)⟩
  have s3 : ∀ o, ops[3]? = some o → StepI Try.prog ops (p_rn2 b x0 x1 x2 x3 x4 PR w0.heap.size) (IS (fun _ => False) 7 3 26 PR w0) aZ Q 3 o := by
    refine E3.stepI fun o hd ho hg hw => ?_
    intro y w listed hsz hls hun hwt hdown D' hRR hinv K hK
    have hiL : 3 < listed.size := by rw [hls, hN]; decide
    have nS : listed.getD 7 false = false := E7.down hdown (j := 3) (by simp) hun
    obtain ⟨v', f25, q25⟩ : ∃ v', y.eval (Operand.tmp 25) = .tuple #[v', .int .i64 0] ∧ PR w v' := E2.postI (Post := (p_rn2 b x0 x1 x2 x3 x4 PR w0.heap.size)) (a := y) (w := w) D' (hwt 2 (hw 2 (by simp)))
    exact .inl ⟨wanted_none hg, wp_value (ox_move ho f25) (hK _ _ (fun _ _ _ _ _ _ h => h) ⟨v', rfl, q25⟩ (by rw [hd]; exact hinv.keep hiL (by decide) (by decide) _))⟩
  have s4 : ∀ o, ops[4]? = some o → StepI Try.prog ops (p_rn2 b x0 x1 x2 x3 x4 PR w0.heap.size) (IS (fun _ => False) 7 3 26 PR w0) aZ Q 4 o := by
    refine E4.stepI fun o hd ho hg hw => ?_
    intro y w listed hsz hls hun hwt hdown D' hRR hinv K hK
    have hiL : 4 < listed.size := by rw [hls, hN]; decide
    have nS : listed.getD 7 false = false := E7.down hdown (j := 4) (by simp) hun
    obtain ⟨v', f22, q22⟩ : ∃ v', y.eval (Operand.tmp 22) = .tuple #[v', .int .i64 0] ∧ PR w v' := E3.postI (Post := (p_rn2 b x0 x1 x2 x3 x4 PR w0.heap.size)) (a := y) (w := w) D' (hwt 3 (hw 3 (by simp)))
    exact .inl ⟨wanted_none hg, wp_value (rx_extract ho f22 rfl) (hK _ _ (fun _ _ _ _ _ _ h => h) q22 (by rw [hd]; exact hinv.keep hiL (by decide) (by decide) _))⟩
  have s5 : ∀ o, ops[5]? = some o → StepI Try.prog ops (p_rn2 b x0 x1 x2 x3 x4 PR w0.heap.size) (IS (fun _ => False) 7 3 26 PR w0) aZ Q 5 o := by
    refine E5.stepI fun o hd ho hg hw => ?_
    intro y w listed hsz hls hun hwt hdown D' hRR hinv K hK
    have hiL : 5 < listed.size := by rw [hls, hN]; decide
    obtain ⟨v', f22, q22⟩ : ∃ v', y.eval (Operand.tmp 22) = .tuple #[v', .int .i64 0] ∧ PR w v' := E3.postI (Post := (p_rn2 b x0 x1 x2 x3 x4 PR w0.heap.size)) (a := y) (w := w) D' (hwt 3 (hw 3 (by simp)))
    exact .inl ⟨wanted_none hg, wp_value (rx_extract ho f22 rfl) (hK _ _ (fun _ _ _ _ _ _ h => h) rfl (by rw [hd]; exact hinv.keep hiL (by decide) (by decide) _))⟩
  have s6 : ∀ o, ops[6]? = some o → StepI Try.prog ops (p_rn2 b x0 x1 x2 x3 x4 PR w0.heap.size) (IS (fun _ => False) 7 3 26 PR w0) aZ Q 6 o := by
    refine E6.stepI fun o hd ho hg hw => ?_
    intro y w listed hsz hls hun hwt hdown D' hRR hinv K hK
    have hiL : 6 < listed.size := by rw [hls, hN]; decide
    have nS : listed.getD 7 false = false := E7.down hdown (j := 6) (by simp) hun
    have hA := (Mod.refl (fun _ => False) w).alloc (.cells #[.int .i64 0, .int .i64 0, .int .i64 0, .int .i64 0, .slice none 0 0] 26)
    exact .inl ⟨wanted_none hg, wp_value (rn2_al ho) (hK _ _ (fun j oj d _ _ _ h => hstay _ _ _ _ hA h) ⟨w.heap.size, _, rfl, hinv.mod.size, Bk.new w _ _, rfl⟩ (hinv.call hiL (by decide) nS hA))⟩
  have s7 : ∀ o, ops[7]? = some o → StepI Try.prog ops (p_rn2 b x0 x1 x2 x3 x4 PR w0.heap.size) (IS (fun _ => False) 7 3 26 PR w0) aZ Q 7 o := by
    refine E7.stepI fun o hd ho hg hw => ?_
    intro y w listed hsz hls hun hwt hdown D' hRR hinv K hK
    have hiL : 7 < listed.size := by rw [hls, hN]; decide
    obtain ⟨z, xs, f3, hz, hB, hx⟩ : ∃ (z : Nat) (xs : Array Value), y.eval (Operand.tmp 3) = .pointer (some ⟨z, 0, none⟩) ∧ w0.heap.size ≤ z ∧ Bk w z 26 xs ∧ xs.size = 5 := E6.postI (Post := (p_rn2 b x0 x1 x2 x3 x4 PR w0.heap.size)) (a := y) (w := w) D' (hwt 6 (hw 6 (by simp)))
    have q26 : PR w (y.eval (Operand.tmp 26)) := E4.postI (Post := (p_rn2 b x0 x1 x2 x3 x4 PR w0.heap.size)) (a := y) (w := w) D' (hwt 4 (hw 4 (by simp)))
    obtain ⟨cs, fv, hn, h1⟩ := hPRf _ _ q26
    refine .inl ⟨wanted_none hg, wp_store_mid (P := Try.prog) 26 _ _ ho z 0 cs f3 fv (hB.there (by rw [hx, hn]; decide)) (by rw [rn2_info, hn]) (by rw [← Array.all_toList]; exact h1) (hK _ _ ?_ trivial ?_)⟩
    · exact fun j oj d _ _ _ h => p_rn2_store _ _ _ _ _ _ _ _ hPRs j _ w z xs cs hB (by rw [hx, hn]) hn h
    · rw [hd, put_none]
      refine ⟨(hinv.pre hun).trans (setCells_mod z cs.toList 0 w) (V := fun _ => False) (fun _ _ h => h) (fun k hk e => by omega), fun h => (by rw [getD_set hiL, if_pos rfl] at h; cases h), fun _ => ⟨z, cs, f3, hB.whole cs (by rw [hx, hn]), ?_⟩⟩
      rw [fv] at q26
      exact hPRs _ _ _ _ _ q26 hB
  have s8 : ∀ o, ops[8]? = some o → StepI Try.prog ops (p_rn2 b x0 x1 x2 x3 x4 PR w0.heap.size) (IS (fun _ => False) 7 3 26 PR w0) aZ Q 8 o := by
    refine E8.stepI fun o hd ho hg hw => ?_
    intro y w listed hsz hls hun hwt hdown D' hRR hinv K hK
    have hiL : 8 < listed.size := by rw [hls, hN]; decide
    have f27 : y.eval (Operand.tmp 27) = .int .i64 0 := E5.postI (Post := (p_rn2 b x0 x1 x2 x3 x4 PR w0.heap.size)) (a := y) (w := w) D' (hwt 5 (hw 5 (by simp)))
    exact .inl ⟨wanted_none hg, wp_value (rx_assign ho f27) (hK _ _ (fun _ _ _ _ _ _ h => h) rfl (by rw [hd]; exact hinv.keep hiL (by decide) (by decide) _))⟩
  refine region_freeI (Post := (p_rn2 b x0 x1 x2 x3 x4 PR w0.heap.size)) (Inv := (IS (fun _ => False) 7 3 26 PR w0)) mixed (low_of hlow) (fun i o ho => by rw [ha0]; exact dst_of (by rw [hds]; decide) i o ho) (inj_of hnd) ⟨(Mod.refl _ _).drew, fun _ => (Mod.refl _ _).drew, fun h => (by rw [hN] at h; cases h)⟩ ?_ ?_
  · intro i o ho
    have hi : i < 9 := by
      rw [← hN]
      rcases Nat.lt_or_ge i ops.size with h | h
      · exact h
      · rw [Array.getElem?_eq_none h] at ho; cases ho
    clear hend
    by_cases e0 : i = 0
    · subst e0; exact s0 o ho
    by_cases e1 : i = 1
    · subst e1; exact s1 o ho
    by_cases e2 : i = 2
    · subst e2; exact s2 o ho
    by_cases e3 : i = 3
    · subst e3; exact s3 o ho
    by_cases e4 : i = 4
    · subst e4; exact s4 o ho
    by_cases e5 : i = 5
    · subst e5; exact s5 o ho
    by_cases e6 : i = 6
    · subst e6; exact s6 o ho
    by_cases e7 : i = 7
    · subst e7; exact s7 o ho
    by_cases e8 : i = 8
    · subst e8; exact s8 o ho
    omega
  · intro y w listed hsz hdf hls hall hinv hPO hRE
    obtain ⟨z, cells, gz, hBz, hPz⟩ := hinv.post (hall 7 (by rw [hN]; decide))
    have hzH : w0.heap.size ≤ z := by
      obtain ⟨o, h1, h2, _⟩ := E6.ex
      obtain ⟨z', xs, g1, g2, _⟩ := hPO 6 o _ h1 h2
      rw [gz] at g1
      simp only [Value.pointer.injEq, Option.some.injEq, Addr.mk.injEq, and_true] at g1
      omega
    have e : y = puts aZ [(23, .agg #[x0, x1, x2, x3, x4]), (24, .agg #[.int .i64 3, .int .i64 2, .int .i64 1, .int .i64 2, .int .i64 6, .int .i64 8]), (25, y.tmps.getD 25 undef), (22, y.tmps.getD 22 undef), (26, y.tmps.getD 26 undef), (27, .int .i64 0), (3, .pointer (some ⟨z, 0, none⟩)), (4, .int .i64 0)] := by
      refine eq_puts hsz hdf (nodup_of (D := [some 23, some 24, some 25, some 22, some 26, some 27, some 3, some 4]) rfl (by decide)) (by rw [ha0]; simp) ?_ ?_
      · intro q hq
        simp only [List.mem_cons, List.not_mem_nil, or_false] at hq
        rcases hq with rfl | rfl | rfl | rfl | rfl | rfl | rfl | rfl
        · obtain ⟨o, h1, h2, _⟩ := E0.ex
          exact hPO 0 o _ h1 h2
        · obtain ⟨o, h1, h2, _⟩ := E1.ex
          exact hPO 1 o _ h1 h2
        · rfl
        · rfl
        · rfl
        · obtain ⟨o, h1, h2, _⟩ := E5.ex
          exact hPO 5 o _ h1 h2
        · exact gz
        · obtain ⟨o, h1, h2, _⟩ := E8.ex
          exact hPO 8 o _ h1 h2
      · intro t ht
        exact hRE t (not_of (by rw [hds]; exact not_cont rfl ht))
    rw [e]
    exact hend (fun d => y.tmps.getD d undef) w z cells hinv.mod hzH hBz hPz
/-- What is said of a slot. -/
def p_rn18 (lb lo ll lc eb eo el ec ii kk : Nat) (rs rr mm hp : Int) (cao : Option Addr) (n ccap : Nat) (a0 a1 a2 a3 a4 a5 : Int) (i : Nat) (v : Value) (_w : World) : Prop :=
  match i with
  | 0 => v = .slice (some ⟨lb, lo, none⟩) ll lc
  | 1 => v = .int .i64 (ii : Int)
  | 2 => v = .pointer (some ⟨lb, lo + ii * 5, none⟩)
  | 3 => v = .agg #[.int .i64 rs, .int .i64 rr, .int .i64 mm, .int .i64 hp, .slice cao n ccap]
  | 4 => v = .slice (some ⟨eb, eo, none⟩) el ec
  | 5 => v = .int .i64 (kk : Int)
  | 6 => v = .pointer (some ⟨eb, eo + kk * 6, none⟩)
  | 7 => v = .agg #[.int .i64 a0, .int .i64 a1, .int .i64 a2, .int .i64 a3, .int .i64 a4, .int .i64 a5]
  | 8 => v = .int .i64 (kk : Int)
  | 9 => v = .bool true
  | 10 => v = .bool (!true)
  | 11 => v = .bool (!true)
  | 12 => v = if (!(!true)) = true then .slice (some ⟨lb, lo, none⟩) ll lc else undef
  | 13 => v = if (!(!true)) = true then .int .i64 (ii : Int) else undef
  | 14 => v = if (!(!true)) = true then .pointer (some ⟨lb, lo + ii * 5, none⟩) else undef
  | 15 => v = if (!(!true)) = true then .agg #[.int .i64 rs, .int .i64 rr, .int .i64 mm, .int .i64 hp, .slice cao n ccap] else undef
  | 16 => v = if (!(!true)) = true then .slice (some ⟨eb, eo, none⟩) el ec else undef
  | 17 => v = if (!(!true)) = true then .int .i64 (kk : Int) else undef
  | 18 => v = if (!(!true)) = true then .pointer (some ⟨eb, eo + kk * 6, none⟩) else undef
  | 19 => v = if (!(!true)) = true then .agg #[.int .i64 a0, .int .i64 a1, .int .i64 a2, .int .i64 a3, .int .i64 a4, .int .i64 a5] else undef
  | 20 => v = if (!(!true)) = true then .bool true else undef
  | 21 => v = if (!(!true)) = true then .bool (!true) else undef
  | 22 => v = .bool ((!true) || (!true))
  | 23 => v = .bool ((!true) || (!true))
  | 24 => v = if (!((!true) || (!true))) = true then .slice (some ⟨lb, lo, none⟩) ll lc else undef
  | 25 => v = if (!((!true) || (!true))) = true then .int .i64 (ii : Int) else undef
  | 26 => v = if (!((!true) || (!true))) = true then .pointer (some ⟨lb, lo + ii * 5, none⟩) else undef
  | 27 => v = if (!((!true) || (!true))) = true then .agg #[.int .i64 rs, .int .i64 rr, .int .i64 mm, .int .i64 hp, .slice cao n ccap] else undef
  | 28 => v = if (!((!true) || (!true))) = true then .slice (some ⟨eb, eo, none⟩) el ec else undef
  | 29 => v = if (!((!true) || (!true))) = true then .int .i64 (kk : Int) else undef
  | 30 => v = if (!((!true) || (!true))) = true then .pointer (some ⟨eb, eo + kk * 6, none⟩) else undef
  | 31 => v = if (!((!true) || (!true))) = true then .pointer (some ⟨eb, eo + kk * 6 + 1, none⟩) else undef
  | 32 => v = if (!((!true) || (!true))) = true then .agg #[.int .i64 a1, .int .i64 a2] else undef
  | 33 => v = if (!((!true) || (!true))) = true then .bool true else undef
  | 34 => v = if (!((!true) || (!true))) = true then .bool (!true) else undef
  | 35 => v = .bool (((!true) || (!true)) || (!true))
  | _ => True
/-- Its operations. -/
structure O_rn18 (ops : Array Oper) : Prop where
  e0 : Is ops 0 (some 109) (Op.move (Operand.tmp 12)) none []
  e1 : Is ops 1 (some 110) (Op.move (Operand.tmp 14)) none []
  e2 : Is ops 2 (some 111) (Op.indexAddr 52 (Operand.tmp 109) (Operand.tmp 110)) none [0, 1]
  e3 : Is ops 3 (some 112) (Op.load 26 (Operand.tmp 111)) none [2]
  e4 : Is ops 4 (some 113) (Op.move (Operand.tmp 13)) none []
  e5 : Is ops 5 (some 114) (Op.move (Operand.tmp 15)) none []
  e6 : Is ops 6 (some 115) (Op.indexAddr 24 (Operand.tmp 113) (Operand.tmp 114)) none [4, 5]
  e7 : Is ops 7 (some 116) (Op.load 28 (Operand.tmp 115)) none [6]
  e8 : Is ops 8 (some 117) (Op.move (Operand.tmp 15)) none []
  e9 : Is ops 9 (some 118) (Op.call { callee := Callee.value (Operand.func 3), args := #[Operand.tmp 112, Operand.tmp 116, Operand.tmp 117], argTypes := #[26, 28, 3] }) none [3, 7, 8]
  e10 : Is ops 10 (some 119) (Op.unOp UnOp.not 4 (Operand.tmp 118)) none [9]
  e11 : Is ops 11 (some 120) (Op.move (Operand.tmp 119)) none [9, 10]
  e12 : Is ops 12 (some 121) (Op.move (Operand.tmp 12)) (some (11, false)) [11]
  e13 : Is ops 13 (some 122) (Op.move (Operand.tmp 14)) (some (11, false)) [11]
  e14 : Is ops 14 (some 123) (Op.indexAddr 52 (Operand.tmp 121) (Operand.tmp 122)) (some (11, false)) [11, 12, 13]
  e15 : Is ops 15 (some 124) (Op.load 26 (Operand.tmp 123)) (some (11, false)) [11, 14]
  e16 : Is ops 16 (some 125) (Op.move (Operand.tmp 13)) (some (11, false)) [11]
  e17 : Is ops 17 (some 126) (Op.move (Operand.tmp 15)) (some (11, false)) [11]
  e18 : Is ops 18 (some 127) (Op.indexAddr 24 (Operand.tmp 125) (Operand.tmp 126)) (some (11, false)) [11, 16, 17]
  e19 : Is ops 19 (some 128) (Op.load 28 (Operand.tmp 127)) (some (11, false)) [11, 18]
  e20 : Is ops 20 (some 129) (Op.call { callee := Callee.value (Operand.func 3), args := #[Operand.tmp 124, Operand.tmp 128, Operand.const (Value.int IntKind.i64 8)], argTypes := #[26, 28, 3] }) (some (11, false)) [11, 15, 19]
  e21 : Is ops 21 (some 130) (Op.unOp UnOp.not 4 (Operand.tmp 129)) (some (11, false)) [11, 20]
  e22 : Is ops 22 (some 131) (Op.pick (Operand.tmp 120) (Operand.const (Value.bool true)) (Operand.tmp 130)) none [11, 21]
  e23 : Is ops 23 (some 132) (Op.move (Operand.tmp 131)) none [20, 22]
  e24 : Is ops 24 (some 133) (Op.move (Operand.tmp 12)) (some (23, false)) [23]
  e25 : Is ops 25 (some 134) (Op.move (Operand.tmp 14)) (some (23, false)) [23]
  e26 : Is ops 26 (some 135) (Op.indexAddr 52 (Operand.tmp 133) (Operand.tmp 134)) (some (23, false)) [23, 24, 25]
  e27 : Is ops 27 (some 136) (Op.load 26 (Operand.tmp 135)) (some (23, false)) [23, 26]
  e28 : Is ops 28 (some 137) (Op.move (Operand.tmp 13)) (some (23, false)) [23]
  e29 : Is ops 29 (some 138) (Op.move (Operand.tmp 15)) (some (23, false)) [23]
  e30 : Is ops 30 (some 139) (Op.indexAddr 24 (Operand.tmp 137) (Operand.tmp 138)) (some (23, false)) [23, 28, 29]
  e31 : Is ops 31 (some 140) (Op.fieldAddr 28 (Operand.tmp 139) 1) (some (23, false)) [23, 30]
  e32 : Is ops 32 (some 141) (Op.load 23 (Operand.tmp 140)) (some (23, false)) [23, 31]
  e33 : Is ops 33 (some 142) (Op.call { callee := Callee.value (Operand.func 4), args := #[Operand.tmp 136, Operand.tmp 141], argTypes := #[26, 23] }) (some (23, false)) [23, 27, 32]
  e34 : Is ops 34 (some 143) (Op.unOp UnOp.not 4 (Operand.tmp 142)) (some (23, false)) [23, 33]
  e35 : Is ops 35 (some 144) (Op.pick (Operand.tmp 132) (Operand.const (Value.bool true)) (Operand.tmp 143)) none [23, 34]
set_option maxRecDepth 100000 in
set_option maxHeartbeats 4000000 in
theorem rn18 {ops : Array Oper} {id : Nat} {aZ : Act} {w0 : World} {Q : Exit → Act → World → Prop} (lb lo ll lc eb eo el ec ii kk : Nat) (rs rr mm hp : Int) (cao : Option Addr) (n ccap : Nat) (a0 a1 a2 a3 a4 a5 : Int)
    (E : O_rn18 ops) (hN : ops.size = 36) (hlow : lowB ops = true) (hds : dsts ops = [some 109, some 110, some 111, some 112, some 113, some 114, some 115, some 116, some 117, some 118, some 119, some 120, some 121, some 122, some 123, some 124, some 125, some 126, some 127, some 128, some 129, some 130, some 131, some 132, some 133, some 134, some 135, some 136, some 137, some 138, some 139, some 140, some 141, some 142, some 143, some 144]) (hnd : injB ops = true) (ha0 : aZ.tmps.size = 154)
    (bS12 : aZ.tmps.getD 12 undef = .slice (some ⟨lb, lo, none⟩) ll lc)
    (bS13 : aZ.tmps.getD 13 undef = .slice (some ⟨eb, eo, none⟩) el ec)
    (bS14 : aZ.tmps.getD 14 undef = .int .i64 (ii : Int))
    (bS15 : aZ.tmps.getD 15 undef = .int .i64 (kk : Int))
    (k_lb_lo_ii_5 : w0.cell? ⟨lb, lo + ii * 5, none⟩ = some (.int .i64 rs))
    (k_lb_lo_ii_5_1 : w0.cell? ⟨lb, lo + ii * 5 + 1, none⟩ = some (.int .i64 rr))
    (k_lb_lo_ii_5_2 : w0.cell? ⟨lb, lo + ii * 5 + 2, none⟩ = some (.int .i64 mm))
    (k_lb_lo_ii_5_3 : w0.cell? ⟨lb, lo + ii * 5 + 3, none⟩ = some (.int .i64 hp))
    (k_lb_lo_ii_5_4 : w0.cell? ⟨lb, lo + ii * 5 + 4, none⟩ = some (.slice cao n ccap))
    (k_eb_eo_kk_6 : w0.cell? ⟨eb, eo + kk * 6, none⟩ = some (.int .i64 a0))
    (k_eb_eo_kk_6_1 : w0.cell? ⟨eb, eo + kk * 6 + 1, none⟩ = some (.int .i64 a1))
    (k_eb_eo_kk_6_2 : w0.cell? ⟨eb, eo + kk * 6 + 2, none⟩ = some (.int .i64 a2))
    (k_eb_eo_kk_6_3 : w0.cell? ⟨eb, eo + kk * 6 + 3, none⟩ = some (.int .i64 a3))
    (k_eb_eo_kk_6_4 : w0.cell? ⟨eb, eo + kk * 6 + 4, none⟩ = some (.int .i64 a4))
    (k_eb_eo_kk_6_5 : w0.cell? ⟨eb, eo + kk * 6 + 5, none⟩ = some (.int .i64 a5))
    (hi : (ii : Int) < (ll : Int))
    (hk : (kk : Int) < (el : Int))
    (H9 : ∀ (W : World), Mod (fun _ => False) w0 W → Calls Try.prog 3 #[.agg #[.int .i64 rs, .int .i64 rr, .int .i64 mm, .int .i64 hp, .slice cao n ccap], .agg #[.int .i64 a0, .int .i64 a1, .int .i64 a2, .int .i64 a3, .int .i64 a4, .int .i64 a5], .int .i64 (kk : Int)] W fun e w' => e = .returned (.bool true) ∧ Mod (fun _ => False) W w')
    (H20 : ∀ (W : World), Mod (fun _ => False) w0 W → Calls Try.prog 3 #[.agg #[.int .i64 rs, .int .i64 rr, .int .i64 mm, .int .i64 hp, .slice cao n ccap], .agg #[.int .i64 a0, .int .i64 a1, .int .i64 a2, .int .i64 a3, .int .i64 a4, .int .i64 a5], .int .i64 8] W fun e w' => e = .returned (.bool true) ∧ Mod (fun _ => False) W w')
    (H33 : ∀ (W : World), Mod (fun _ => False) w0 W → Calls Try.prog 4 #[.agg #[.int .i64 rs, .int .i64 rr, .int .i64 mm, .int .i64 hp, .slice cao n ccap], .agg #[.int .i64 a1, .int .i64 a2]] W fun e w' => e = .returned (.bool true) ∧ Mod (fun _ => False) W w')
    (hend : ∀ (f : Nat → Value) (w : World), Mod (fun _ => False) w0 w → Q .normal (puts aZ [(109, .slice (some ⟨lb, lo, none⟩) ll lc), (110, .int .i64 (ii : Int)), (111, .pointer (some ⟨lb, lo + ii * 5, none⟩)), (112, .agg #[.int .i64 rs, .int .i64 rr, .int .i64 mm, .int .i64 hp, .slice cao n ccap]), (113, .slice (some ⟨eb, eo, none⟩) el ec), (114, .int .i64 (kk : Int)), (115, .pointer (some ⟨eb, eo + kk * 6, none⟩)), (116, .agg #[.int .i64 a0, .int .i64 a1, .int .i64 a2, .int .i64 a3, .int .i64 a4, .int .i64 a5]), (117, .int .i64 (kk : Int)), (118, .bool true), (119, .bool (!true)), (120, .bool (!true)), (121, f 121), (122, f 122), (123, f 123), (124, f 124), (125, f 125), (126, f 126), (127, f 127), (128, f 128), (129, f 129), (130, f 130), (131, .bool ((!true) || (!true))), (132, .bool ((!true) || (!true))), (133, f 133), (134, f 134), (135, f 135), (136, f 136), (137, f 137), (138, f 138), (139, f 139), (140, f 140), (141, f 141), (142, f 142), (143, f 143), (144, .bool (((!true) || (!true)) || (!true)))]) w) :
    (Code.region id ops true).wp Try.prog Q aZ w0 := by
  obtain ⟨E0, E1, E2, E3, E4, E5, E6, E7, E8, E9, E10, E11, E12, E13, E14, E15, E16, E17, E18, E19, E20, E21, E22, E23, E24, E25, E26, E27, E28, E29, E30, E31, E32, E33, E34, E35⟩ := E
  have hstay : ∀ (i : Nat) (v : Value) (w w1 : World), Mod (fun _ => False) w w1 → (p_rn18 lb lo ll lc eb eo el ec ii kk rs rr mm hp cao n ccap a0 a1 a2 a3 a4 a5) i v w → (p_rn18 lb lo ll lc eb eo el ec ii kk rs rr mm hp cao n ccap a0 a1 a2 a3 a4 a5) i v w1 := fun _ _ _ _ _ h => h
  have s0 : ∀ o, ops[0]? = some o → StepI Try.prog ops (p_rn18 lb lo ll lc eb eo el ec ii kk rs rr mm hp cao n ccap a0 a1 a2 a3 a4 a5) (fun (_ : Array Bool) (_ : Act) (w : World) => Mod (fun _ => False) w0 w) aZ Q 0 o := by
    refine E0.stepI fun o hd ho hg hw => ?_
    intro y w listed hsz hls hun hwt hdown D' hRR hinv K hK
    have f12 : y.eval (Operand.tmp 12) = .slice (some ⟨lb, lo, none⟩) ll lc   := (hRR 12 (not_of (by rw [hds]; decide))).trans bS12
    exact .inl ⟨wanted_none hg, wp_value (ox_move ho f12) (hK _ _ (fun _ _ _ _ _ _ h => h) rfl hinv)⟩
  have s1 : ∀ o, ops[1]? = some o → StepI Try.prog ops (p_rn18 lb lo ll lc eb eo el ec ii kk rs rr mm hp cao n ccap a0 a1 a2 a3 a4 a5) (fun (_ : Array Bool) (_ : Act) (w : World) => Mod (fun _ => False) w0 w) aZ Q 1 o := by
    refine E1.stepI fun o hd ho hg hw => ?_
    intro y w listed hsz hls hun hwt hdown D' hRR hinv K hK
    have f14 : y.eval (Operand.tmp 14) = .int .i64 (ii : Int)   := (hRR 14 (not_of (by rw [hds]; decide))).trans bS14
    exact .inl ⟨wanted_none hg, wp_value (ox_move ho f14) (hK _ _ (fun _ _ _ _ _ _ h => h) rfl hinv)⟩
  have s2 : ∀ o, ops[2]? = some o → StepI Try.prog ops (p_rn18 lb lo ll lc eb eo el ec ii kk rs rr mm hp cao n ccap a0 a1 a2 a3 a4 a5) (fun (_ : Array Bool) (_ : Act) (w : World) => Mod (fun _ => False) w0 w) aZ Q 2 o := by
    refine E2.stepI fun o hd ho hg hw => ?_
    intro y w listed hsz hls hun hwt hdown D' hRR hinv K hK
    have f109 : y.eval (Operand.tmp 109) = .slice (some ⟨lb, lo, none⟩) ll lc := E0.postI (Post := (p_rn18 lb lo ll lc eb eo el ec ii kk rs rr mm hp cao n ccap a0 a1 a2 a3 a4 a5)) (a := y) (w := w) D' (hwt 0 (hw 0 (by simp)))
    have f110 : y.eval (Operand.tmp 110) = .int .i64 (ii : Int) := E1.postI (Post := (p_rn18 lb lo ll lc eb eo el ec ii kk rs rr mm hp cao n ccap a0 a1 a2 a3 a4 a5)) (a := y) (w := w) D' (hwt 1 (hw 1 (by simp)))
    exact .inl ⟨wanted_none hg, wp_value (ox_index (v := .pointer (some ⟨lb, lo + ii * 5, none⟩)) ho f109 f110 (by simp [go_sem, hi])) (hK _ _ (fun _ _ _ _ _ _ h => h) rfl hinv)⟩
  have s3 : ∀ o, ops[3]? = some o → StepI Try.prog ops (p_rn18 lb lo ll lc eb eo el ec ii kk rs rr mm hp cao n ccap a0 a1 a2 a3 a4 a5) (fun (_ : Array Bool) (_ : Act) (w : World) => Mod (fun _ => False) w0 w) aZ Q 3 o := by
    refine E3.stepI fun o hd ho hg hw => ?_
    intro y w listed hsz hls hun hwt hdown D' hRR hinv K hK
    have f111 : y.eval (Operand.tmp 111) = .pointer (some ⟨lb, lo + ii * 5, none⟩) := E2.postI (Post := (p_rn18 lb lo ll lc eb eo el ec ii kk rs rr mm hp cao n ccap a0 a1 a2 a3 a4 a5)) (a := y) (w := w) D' (hwt 2 (hw 2 (by simp)))
    have h0 := hinv.cell k_lb_lo_ii_5 (fun h => h)
    have h1 := hinv.cell k_lb_lo_ii_5_1 (fun h => h)
    have h2 := hinv.cell k_lb_lo_ii_5_2 (fun h => h)
    have h3 := hinv.cell k_lb_lo_ii_5_3 (fun h => h)
    have h4 := hinv.cell k_lb_lo_ii_5_4 (fun h => h)
    exact .inl ⟨wanted_none hg, wp_value (ox_load (v := .agg #[.int .i64 rs, .int .i64 rr, .int .i64 mm, .int .i64 hp, .slice cao n ccap]) ho f111 (by simp [go_sem, h0, h1, h2, h3, h4])) (hK _ _ (fun _ _ _ _ _ _ h => h) rfl hinv)⟩
  have s4 : ∀ o, ops[4]? = some o → StepI Try.prog ops (p_rn18 lb lo ll lc eb eo el ec ii kk rs rr mm hp cao n ccap a0 a1 a2 a3 a4 a5) (fun (_ : Array Bool) (_ : Act) (w : World) => Mod (fun _ => False) w0 w) aZ Q 4 o := by
    refine E4.stepI fun o hd ho hg hw => ?_
    intro y w listed hsz hls hun hwt hdown D' hRR hinv K hK
    have f13 : y.eval (Operand.tmp 13) = .slice (some ⟨eb, eo, none⟩) el ec   := (hRR 13 (not_of (by rw [hds]; decide))).trans bS13
    exact .inl ⟨wanted_none hg, wp_value (ox_move ho f13) (hK _ _ (fun _ _ _ _ _ _ h => h) rfl hinv)⟩
  have s5 : ∀ o, ops[5]? = some o → StepI Try.prog ops (p_rn18 lb lo ll lc eb eo el ec ii kk rs rr mm hp cao n ccap a0 a1 a2 a3 a4 a5) (fun (_ : Array Bool) (_ : Act) (w : World) => Mod (fun _ => False) w0 w) aZ Q 5 o := by
    refine E5.stepI fun o hd ho hg hw => ?_
    intro y w listed hsz hls hun hwt hdown D' hRR hinv K hK
    have f15 : y.eval (Operand.tmp 15) = .int .i64 (kk : Int)   := (hRR 15 (not_of (by rw [hds]; decide))).trans bS15
    exact .inl ⟨wanted_none hg, wp_value (ox_move ho f15) (hK _ _ (fun _ _ _ _ _ _ h => h) rfl hinv)⟩
  have s6 : ∀ o, ops[6]? = some o → StepI Try.prog ops (p_rn18 lb lo ll lc eb eo el ec ii kk rs rr mm hp cao n ccap a0 a1 a2 a3 a4 a5) (fun (_ : Array Bool) (_ : Act) (w : World) => Mod (fun _ => False) w0 w) aZ Q 6 o := by
    refine E6.stepI fun o hd ho hg hw => ?_
    intro y w listed hsz hls hun hwt hdown D' hRR hinv K hK
    have f113 : y.eval (Operand.tmp 113) = .slice (some ⟨eb, eo, none⟩) el ec := E4.postI (Post := (p_rn18 lb lo ll lc eb eo el ec ii kk rs rr mm hp cao n ccap a0 a1 a2 a3 a4 a5)) (a := y) (w := w) D' (hwt 4 (hw 4 (by simp)))
    have f114 : y.eval (Operand.tmp 114) = .int .i64 (kk : Int) := E5.postI (Post := (p_rn18 lb lo ll lc eb eo el ec ii kk rs rr mm hp cao n ccap a0 a1 a2 a3 a4 a5)) (a := y) (w := w) D' (hwt 5 (hw 5 (by simp)))
    exact .inl ⟨wanted_none hg, wp_value (ox_index (v := .pointer (some ⟨eb, eo + kk * 6, none⟩)) ho f113 f114 (by simp [go_sem, hk])) (hK _ _ (fun _ _ _ _ _ _ h => h) rfl hinv)⟩
  have s7 : ∀ o, ops[7]? = some o → StepI Try.prog ops (p_rn18 lb lo ll lc eb eo el ec ii kk rs rr mm hp cao n ccap a0 a1 a2 a3 a4 a5) (fun (_ : Array Bool) (_ : Act) (w : World) => Mod (fun _ => False) w0 w) aZ Q 7 o := by
    refine E7.stepI fun o hd ho hg hw => ?_
    intro y w listed hsz hls hun hwt hdown D' hRR hinv K hK
    have f115 : y.eval (Operand.tmp 115) = .pointer (some ⟨eb, eo + kk * 6, none⟩) := E6.postI (Post := (p_rn18 lb lo ll lc eb eo el ec ii kk rs rr mm hp cao n ccap a0 a1 a2 a3 a4 a5)) (a := y) (w := w) D' (hwt 6 (hw 6 (by simp)))
    have h0 := hinv.cell k_eb_eo_kk_6 (fun h => h)
    have h1 := hinv.cell k_eb_eo_kk_6_1 (fun h => h)
    have h2 := hinv.cell k_eb_eo_kk_6_2 (fun h => h)
    have h3 := hinv.cell k_eb_eo_kk_6_3 (fun h => h)
    have h4 := hinv.cell k_eb_eo_kk_6_4 (fun h => h)
    have h5 := hinv.cell k_eb_eo_kk_6_5 (fun h => h)
    exact .inl ⟨wanted_none hg, wp_value (ox_load (v := .agg #[.int .i64 a0, .int .i64 a1, .int .i64 a2, .int .i64 a3, .int .i64 a4, .int .i64 a5]) ho f115 (by simp [go_sem, h0, h1, h2, h3, h4, h5])) (hK _ _ (fun _ _ _ _ _ _ h => h) rfl hinv)⟩
  have s8 : ∀ o, ops[8]? = some o → StepI Try.prog ops (p_rn18 lb lo ll lc eb eo el ec ii kk rs rr mm hp cao n ccap a0 a1 a2 a3 a4 a5) (fun (_ : Array Bool) (_ : Act) (w : World) => Mod (fun _ => False) w0 w) aZ Q 8 o := by
    refine E8.stepI fun o hd ho hg hw => ?_
    intro y w listed hsz hls hun hwt hdown D' hRR hinv K hK
    have f15 : y.eval (Operand.tmp 15) = .int .i64 (kk : Int)   := (hRR 15 (not_of (by rw [hds]; decide))).trans bS15
    exact .inl ⟨wanted_none hg, wp_value (ox_move ho f15) (hK _ _ (fun _ _ _ _ _ _ h => h) rfl hinv)⟩
  have s9 : ∀ o, ops[9]? = some o → StepI Try.prog ops (p_rn18 lb lo ll lc eb eo el ec ii kk rs rr mm hp cao n ccap a0 a1 a2 a3 a4 a5) (fun (_ : Array Bool) (_ : Act) (w : World) => Mod (fun _ => False) w0 w) aZ Q 9 o := by
    refine E9.stepI fun o hd ho hg hw => ?_
    intro y w listed hsz hls hun hwt hdown D' hRR hinv K hK
    have f112 : y.eval (Operand.tmp 112) = .agg #[.int .i64 rs, .int .i64 rr, .int .i64 mm, .int .i64 hp, .slice cao n ccap] := E3.postI (Post := (p_rn18 lb lo ll lc eb eo el ec ii kk rs rr mm hp cao n ccap a0 a1 a2 a3 a4 a5)) (a := y) (w := w) D' (hwt 3 (hw 3 (by simp)))
    have f116 : y.eval (Operand.tmp 116) = .agg #[.int .i64 a0, .int .i64 a1, .int .i64 a2, .int .i64 a3, .int .i64 a4, .int .i64 a5] := E7.postI (Post := (p_rn18 lb lo ll lc eb eo el ec ii kk rs rr mm hp cao n ccap a0 a1 a2 a3 a4 a5)) (a := y) (w := w) D' (hwt 7 (hw 7 (by simp)))
    have f117 : y.eval (Operand.tmp 117) = .int .i64 (kk : Int) := E8.postI (Post := (p_rn18 lb lo ll lc eb eo el ec ii kk rs rr mm hp cao n ccap a0 a1 a2 a3 a4 a5)) (a := y) (w := w) D' (hwt 8 (hw 8 (by simp)))
    refine .inl ⟨wanted_none hg, wp_enter (f := 3) (args := #[.agg #[.int .i64 rs, .int .i64 rr, .int .i64 mm, .int .i64 hp, .slice cao n ccap], .agg #[.int .i64 a0, .int .i64 a1, .int .i64 a2, .int .i64 a3, .int .i64 a4, .int .i64 a5], .int .i64 (kk : Int)]) ?_ (H9 w  hinv ) ?_⟩
    · have h := rx_call3 (ρ := y.eval) (fun args w => by simp [go_sem]) rfl ho (w := w)
      rw [f112, f116, f117] at h
      exact h
    · rintro e w' ⟨rfl, hm⟩
      exact ⟨_, rfl, hK _ _ (fun j oj d _ _ _ h => hstay _ _ _ _ hm h) rfl (hinv.and hm)⟩
  have s10 : ∀ o, ops[10]? = some o → StepI Try.prog ops (p_rn18 lb lo ll lc eb eo el ec ii kk rs rr mm hp cao n ccap a0 a1 a2 a3 a4 a5) (fun (_ : Array Bool) (_ : Act) (w : World) => Mod (fun _ => False) w0 w) aZ Q 10 o := by
    refine E10.stepI fun o hd ho hg hw => ?_
    intro y w listed hsz hls hun hwt hdown D' hRR hinv K hK
    have f118 : y.eval (Operand.tmp 118) = .bool true := E9.postI (Post := (p_rn18 lb lo ll lc eb eo el ec ii kk rs rr mm hp cao n ccap a0 a1 a2 a3 a4 a5)) (a := y) (w := w) D' (hwt 9 (hw 9 (by simp)))
    exact .inl ⟨wanted_none hg, wp_value (ox_not ho f118) (hK _ _ (fun _ _ _ _ _ _ h => h) rfl hinv)⟩
  have s11 : ∀ o, ops[11]? = some o → StepI Try.prog ops (p_rn18 lb lo ll lc eb eo el ec ii kk rs rr mm hp cao n ccap a0 a1 a2 a3 a4 a5) (fun (_ : Array Bool) (_ : Act) (w : World) => Mod (fun _ => False) w0 w) aZ Q 11 o := by
    refine E11.stepI fun o hd ho hg hw => ?_
    intro y w listed hsz hls hun hwt hdown D' hRR hinv K hK
    have f119 : y.eval (Operand.tmp 119) = .bool (!true) := E10.postI (Post := (p_rn18 lb lo ll lc eb eo el ec ii kk rs rr mm hp cao n ccap a0 a1 a2 a3 a4 a5)) (a := y) (w := w) D' (hwt 10 (hw 10 (by simp)))
    exact .inl ⟨wanted_none hg, wp_value (ox_move ho f119) (hK _ _ (fun _ _ _ _ _ _ h => h) rfl hinv)⟩
  have s12 : ∀ o, ops[12]? = some o → StepI Try.prog ops (p_rn18 lb lo ll lc eb eo el ec ii kk rs rr mm hp cao n ccap a0 a1 a2 a3 a4 a5) (fun (_ : Array Bool) (_ : Act) (w : World) => Mod (fun _ => False) w0 w) aZ Q 12 o := by
    refine E12.stepI fun o hd ho hg hw => ?_
    intro y w listed hsz hls hun hwt hdown D' hRR hinv K hK
    have gv : y.tmps.getD 120 undef = .bool (!true) := E11.postI (Post := (p_rn18 lb lo ll lc eb eo el ec ii kk rs rr mm hp cao n ccap a0 a1 a2 a3 a4 a5)) (a := y) (w := w) D' (hwt 11 (hw 11 (by simp)))
    have wt : Region.wanted o (yielded ops y.tmps) = (!(!true)) := by
      rw [wanted_b E11 hg (by rw [hsz, ha0]; decide) gv]
      cases (!true) <;> rfl
    cases hc : (!(!true))
    · exact .inr ⟨wt.trans hc, hK _ _ (fun _ _ _ _ _ _ h => h) (by show undef = if (!(!true)) = true then .slice (some ⟨lb, lo, none⟩) ll lc else undef; rw [hc]; rfl) hinv⟩
    · have f12 : y.eval (Operand.tmp 12) = .slice (some ⟨lb, lo, none⟩) ll lc   := (hRR 12 (not_of (by rw [hds]; decide))).trans bS12
      exact .inl ⟨wt.trans hc, wp_value (ox_move ho f12) (hK _ _ (fun _ _ _ _ _ _ h => h) (by show _ = if (!(!true)) = true then .slice (some ⟨lb, lo, none⟩) ll lc else undef; rw [hc]; rfl) hinv)⟩
  have s13 : ∀ o, ops[13]? = some o → StepI Try.prog ops (p_rn18 lb lo ll lc eb eo el ec ii kk rs rr mm hp cao n ccap a0 a1 a2 a3 a4 a5) (fun (_ : Array Bool) (_ : Act) (w : World) => Mod (fun _ => False) w0 w) aZ Q 13 o := by
    refine E13.stepI fun o hd ho hg hw => ?_
    intro y w listed hsz hls hun hwt hdown D' hRR hinv K hK
    have gv : y.tmps.getD 120 undef = .bool (!true) := E11.postI (Post := (p_rn18 lb lo ll lc eb eo el ec ii kk rs rr mm hp cao n ccap a0 a1 a2 a3 a4 a5)) (a := y) (w := w) D' (hwt 11 (hw 11 (by simp)))
    have wt : Region.wanted o (yielded ops y.tmps) = (!(!true)) := by
      rw [wanted_b E11 hg (by rw [hsz, ha0]; decide) gv]
      cases (!true) <;> rfl
    cases hc : (!(!true))
    · exact .inr ⟨wt.trans hc, hK _ _ (fun _ _ _ _ _ _ h => h) (by show undef = if (!(!true)) = true then .int .i64 (ii : Int) else undef; rw [hc]; rfl) hinv⟩
    · have f14 : y.eval (Operand.tmp 14) = .int .i64 (ii : Int)   := (hRR 14 (not_of (by rw [hds]; decide))).trans bS14
      exact .inl ⟨wt.trans hc, wp_value (ox_move ho f14) (hK _ _ (fun _ _ _ _ _ _ h => h) (by show _ = if (!(!true)) = true then .int .i64 (ii : Int) else undef; rw [hc]; rfl) hinv)⟩
  have s14 : ∀ o, ops[14]? = some o → StepI Try.prog ops (p_rn18 lb lo ll lc eb eo el ec ii kk rs rr mm hp cao n ccap a0 a1 a2 a3 a4 a5) (fun (_ : Array Bool) (_ : Act) (w : World) => Mod (fun _ => False) w0 w) aZ Q 14 o := by
    refine E14.stepI fun o hd ho hg hw => ?_
    intro y w listed hsz hls hun hwt hdown D' hRR hinv K hK
    have gv : y.tmps.getD 120 undef = .bool (!true) := E11.postI (Post := (p_rn18 lb lo ll lc eb eo el ec ii kk rs rr mm hp cao n ccap a0 a1 a2 a3 a4 a5)) (a := y) (w := w) D' (hwt 11 (hw 11 (by simp)))
    have wt : Region.wanted o (yielded ops y.tmps) = (!(!true)) := by
      rw [wanted_b E11 hg (by rw [hsz, ha0]; decide) gv]
      cases (!true) <;> rfl
    cases hc : (!(!true))
    · exact .inr ⟨wt.trans hc, hK _ _ (fun _ _ _ _ _ _ h => h) (by show undef = if (!(!true)) = true then .pointer (some ⟨lb, lo + ii * 5, none⟩) else undef; rw [hc]; rfl) hinv⟩
    · have f121 : y.eval (Operand.tmp 121) = .slice (some ⟨lb, lo, none⟩) ll lc := (show y.eval (Operand.tmp 121) = (if (!(!true)) = true then .slice (some ⟨lb, lo, none⟩) ll lc else undef) from E12.postI (Post := (p_rn18 lb lo ll lc eb eo el ec ii kk rs rr mm hp cao n ccap a0 a1 a2 a3 a4 a5)) (a := y) (w := w) D' (hwt 12 (hw 12 (by simp)))).trans (if_pos hc)
      have f122 : y.eval (Operand.tmp 122) = .int .i64 (ii : Int) := (show y.eval (Operand.tmp 122) = (if (!(!true)) = true then .int .i64 (ii : Int) else undef) from E13.postI (Post := (p_rn18 lb lo ll lc eb eo el ec ii kk rs rr mm hp cao n ccap a0 a1 a2 a3 a4 a5)) (a := y) (w := w) D' (hwt 13 (hw 13 (by simp)))).trans (if_pos hc)
      exact .inl ⟨wt.trans hc, wp_value (ox_index (v := .pointer (some ⟨lb, lo + ii * 5, none⟩)) ho f121 f122 (by simp [go_sem, hi])) (hK _ _ (fun _ _ _ _ _ _ h => h) (by show _ = if (!(!true)) = true then .pointer (some ⟨lb, lo + ii * 5, none⟩) else undef; rw [hc]; rfl) hinv)⟩
  have s15 : ∀ o, ops[15]? = some o → StepI Try.prog ops (p_rn18 lb lo ll lc eb eo el ec ii kk rs rr mm hp cao n ccap a0 a1 a2 a3 a4 a5) (fun (_ : Array Bool) (_ : Act) (w : World) => Mod (fun _ => False) w0 w) aZ Q 15 o := by
    refine E15.stepI fun o hd ho hg hw => ?_
    intro y w listed hsz hls hun hwt hdown D' hRR hinv K hK
    have gv : y.tmps.getD 120 undef = .bool (!true) := E11.postI (Post := (p_rn18 lb lo ll lc eb eo el ec ii kk rs rr mm hp cao n ccap a0 a1 a2 a3 a4 a5)) (a := y) (w := w) D' (hwt 11 (hw 11 (by simp)))
    have wt : Region.wanted o (yielded ops y.tmps) = (!(!true)) := by
      rw [wanted_b E11 hg (by rw [hsz, ha0]; decide) gv]
      cases (!true) <;> rfl
    cases hc : (!(!true))
    · exact .inr ⟨wt.trans hc, hK _ _ (fun _ _ _ _ _ _ h => h) (by show undef = if (!(!true)) = true then .agg #[.int .i64 rs, .int .i64 rr, .int .i64 mm, .int .i64 hp, .slice cao n ccap] else undef; rw [hc]; rfl) hinv⟩
    · have f123 : y.eval (Operand.tmp 123) = .pointer (some ⟨lb, lo + ii * 5, none⟩) := (show y.eval (Operand.tmp 123) = (if (!(!true)) = true then .pointer (some ⟨lb, lo + ii * 5, none⟩) else undef) from E14.postI (Post := (p_rn18 lb lo ll lc eb eo el ec ii kk rs rr mm hp cao n ccap a0 a1 a2 a3 a4 a5)) (a := y) (w := w) D' (hwt 14 (hw 14 (by simp)))).trans (if_pos hc)
      have h0 := hinv.cell k_lb_lo_ii_5 (fun h => h)
      have h1 := hinv.cell k_lb_lo_ii_5_1 (fun h => h)
      have h2 := hinv.cell k_lb_lo_ii_5_2 (fun h => h)
      have h3 := hinv.cell k_lb_lo_ii_5_3 (fun h => h)
      have h4 := hinv.cell k_lb_lo_ii_5_4 (fun h => h)
      exact .inl ⟨wt.trans hc, wp_value (ox_load (v := .agg #[.int .i64 rs, .int .i64 rr, .int .i64 mm, .int .i64 hp, .slice cao n ccap]) ho f123 (by simp [go_sem, h0, h1, h2, h3, h4])) (hK _ _ (fun _ _ _ _ _ _ h => h) (by show _ = if (!(!true)) = true then .agg #[.int .i64 rs, .int .i64 rr, .int .i64 mm, .int .i64 hp, .slice cao n ccap] else undef; rw [hc]; rfl) hinv)⟩
  have s16 : ∀ o, ops[16]? = some o → StepI Try.prog ops (p_rn18 lb lo ll lc eb eo el ec ii kk rs rr mm hp cao n ccap a0 a1 a2 a3 a4 a5) (fun (_ : Array Bool) (_ : Act) (w : World) => Mod (fun _ => False) w0 w) aZ Q 16 o := by
    refine E16.stepI fun o hd ho hg hw => ?_
    intro y w listed hsz hls hun hwt hdown D' hRR hinv K hK
    have gv : y.tmps.getD 120 undef = .bool (!true) := E11.postI (Post := (p_rn18 lb lo ll lc eb eo el ec ii kk rs rr mm hp cao n ccap a0 a1 a2 a3 a4 a5)) (a := y) (w := w) D' (hwt 11 (hw 11 (by simp)))
    have wt : Region.wanted o (yielded ops y.tmps) = (!(!true)) := by
      rw [wanted_b E11 hg (by rw [hsz, ha0]; decide) gv]
      cases (!true) <;> rfl
    cases hc : (!(!true))
    · exact .inr ⟨wt.trans hc, hK _ _ (fun _ _ _ _ _ _ h => h) (by show undef = if (!(!true)) = true then .slice (some ⟨eb, eo, none⟩) el ec else undef; rw [hc]; rfl) hinv⟩
    · have f13 : y.eval (Operand.tmp 13) = .slice (some ⟨eb, eo, none⟩) el ec   := (hRR 13 (not_of (by rw [hds]; decide))).trans bS13
      exact .inl ⟨wt.trans hc, wp_value (ox_move ho f13) (hK _ _ (fun _ _ _ _ _ _ h => h) (by show _ = if (!(!true)) = true then .slice (some ⟨eb, eo, none⟩) el ec else undef; rw [hc]; rfl) hinv)⟩
  have s17 : ∀ o, ops[17]? = some o → StepI Try.prog ops (p_rn18 lb lo ll lc eb eo el ec ii kk rs rr mm hp cao n ccap a0 a1 a2 a3 a4 a5) (fun (_ : Array Bool) (_ : Act) (w : World) => Mod (fun _ => False) w0 w) aZ Q 17 o := by
    refine E17.stepI fun o hd ho hg hw => ?_
    intro y w listed hsz hls hun hwt hdown D' hRR hinv K hK
    have gv : y.tmps.getD 120 undef = .bool (!true) := E11.postI (Post := (p_rn18 lb lo ll lc eb eo el ec ii kk rs rr mm hp cao n ccap a0 a1 a2 a3 a4 a5)) (a := y) (w := w) D' (hwt 11 (hw 11 (by simp)))
    have wt : Region.wanted o (yielded ops y.tmps) = (!(!true)) := by
      rw [wanted_b E11 hg (by rw [hsz, ha0]; decide) gv]
      cases (!true) <;> rfl
    cases hc : (!(!true))
    · exact .inr ⟨wt.trans hc, hK _ _ (fun _ _ _ _ _ _ h => h) (by show undef = if (!(!true)) = true then .int .i64 (kk : Int) else undef; rw [hc]; rfl) hinv⟩
    · have f15 : y.eval (Operand.tmp 15) = .int .i64 (kk : Int)   := (hRR 15 (not_of (by rw [hds]; decide))).trans bS15
      exact .inl ⟨wt.trans hc, wp_value (ox_move ho f15) (hK _ _ (fun _ _ _ _ _ _ h => h) (by show _ = if (!(!true)) = true then .int .i64 (kk : Int) else undef; rw [hc]; rfl) hinv)⟩
  have s18 : ∀ o, ops[18]? = some o → StepI Try.prog ops (p_rn18 lb lo ll lc eb eo el ec ii kk rs rr mm hp cao n ccap a0 a1 a2 a3 a4 a5) (fun (_ : Array Bool) (_ : Act) (w : World) => Mod (fun _ => False) w0 w) aZ Q 18 o := by
    refine E18.stepI fun o hd ho hg hw => ?_
    intro y w listed hsz hls hun hwt hdown D' hRR hinv K hK
    have gv : y.tmps.getD 120 undef = .bool (!true) := E11.postI (Post := (p_rn18 lb lo ll lc eb eo el ec ii kk rs rr mm hp cao n ccap a0 a1 a2 a3 a4 a5)) (a := y) (w := w) D' (hwt 11 (hw 11 (by simp)))
    have wt : Region.wanted o (yielded ops y.tmps) = (!(!true)) := by
      rw [wanted_b E11 hg (by rw [hsz, ha0]; decide) gv]
      cases (!true) <;> rfl
    cases hc : (!(!true))
    · exact .inr ⟨wt.trans hc, hK _ _ (fun _ _ _ _ _ _ h => h) (by show undef = if (!(!true)) = true then .pointer (some ⟨eb, eo + kk * 6, none⟩) else undef; rw [hc]; rfl) hinv⟩
    · have f125 : y.eval (Operand.tmp 125) = .slice (some ⟨eb, eo, none⟩) el ec := (show y.eval (Operand.tmp 125) = (if (!(!true)) = true then .slice (some ⟨eb, eo, none⟩) el ec else undef) from E16.postI (Post := (p_rn18 lb lo ll lc eb eo el ec ii kk rs rr mm hp cao n ccap a0 a1 a2 a3 a4 a5)) (a := y) (w := w) D' (hwt 16 (hw 16 (by simp)))).trans (if_pos hc)
      have f126 : y.eval (Operand.tmp 126) = .int .i64 (kk : Int) := (show y.eval (Operand.tmp 126) = (if (!(!true)) = true then .int .i64 (kk : Int) else undef) from E17.postI (Post := (p_rn18 lb lo ll lc eb eo el ec ii kk rs rr mm hp cao n ccap a0 a1 a2 a3 a4 a5)) (a := y) (w := w) D' (hwt 17 (hw 17 (by simp)))).trans (if_pos hc)
      exact .inl ⟨wt.trans hc, wp_value (ox_index (v := .pointer (some ⟨eb, eo + kk * 6, none⟩)) ho f125 f126 (by simp [go_sem, hk])) (hK _ _ (fun _ _ _ _ _ _ h => h) (by show _ = if (!(!true)) = true then .pointer (some ⟨eb, eo + kk * 6, none⟩) else undef; rw [hc]; rfl) hinv)⟩
  have s19 : ∀ o, ops[19]? = some o → StepI Try.prog ops (p_rn18 lb lo ll lc eb eo el ec ii kk rs rr mm hp cao n ccap a0 a1 a2 a3 a4 a5) (fun (_ : Array Bool) (_ : Act) (w : World) => Mod (fun _ => False) w0 w) aZ Q 19 o := by
    refine E19.stepI fun o hd ho hg hw => ?_
    intro y w listed hsz hls hun hwt hdown D' hRR hinv K hK
    have gv : y.tmps.getD 120 undef = .bool (!true) := E11.postI (Post := (p_rn18 lb lo ll lc eb eo el ec ii kk rs rr mm hp cao n ccap a0 a1 a2 a3 a4 a5)) (a := y) (w := w) D' (hwt 11 (hw 11 (by simp)))
    have wt : Region.wanted o (yielded ops y.tmps) = (!(!true)) := by
      rw [wanted_b E11 hg (by rw [hsz, ha0]; decide) gv]
      cases (!true) <;> rfl
    cases hc : (!(!true))
    · exact .inr ⟨wt.trans hc, hK _ _ (fun _ _ _ _ _ _ h => h) (by show undef = if (!(!true)) = true then .agg #[.int .i64 a0, .int .i64 a1, .int .i64 a2, .int .i64 a3, .int .i64 a4, .int .i64 a5] else undef; rw [hc]; rfl) hinv⟩
    · have f127 : y.eval (Operand.tmp 127) = .pointer (some ⟨eb, eo + kk * 6, none⟩) := (show y.eval (Operand.tmp 127) = (if (!(!true)) = true then .pointer (some ⟨eb, eo + kk * 6, none⟩) else undef) from E18.postI (Post := (p_rn18 lb lo ll lc eb eo el ec ii kk rs rr mm hp cao n ccap a0 a1 a2 a3 a4 a5)) (a := y) (w := w) D' (hwt 18 (hw 18 (by simp)))).trans (if_pos hc)
      have h0 := hinv.cell k_eb_eo_kk_6 (fun h => h)
      have h1 := hinv.cell k_eb_eo_kk_6_1 (fun h => h)
      have h2 := hinv.cell k_eb_eo_kk_6_2 (fun h => h)
      have h3 := hinv.cell k_eb_eo_kk_6_3 (fun h => h)
      have h4 := hinv.cell k_eb_eo_kk_6_4 (fun h => h)
      have h5 := hinv.cell k_eb_eo_kk_6_5 (fun h => h)
      exact .inl ⟨wt.trans hc, wp_value (ox_load (v := .agg #[.int .i64 a0, .int .i64 a1, .int .i64 a2, .int .i64 a3, .int .i64 a4, .int .i64 a5]) ho f127 (by simp [go_sem, h0, h1, h2, h3, h4, h5])) (hK _ _ (fun _ _ _ _ _ _ h => h) (by show _ = if (!(!true)) = true then .agg #[.int .i64 a0, .int .i64 a1, .int .i64 a2, .int .i64 a3, .int .i64 a4, .int .i64 a5] else undef; rw [hc]; rfl) hinv)⟩
  have s20 : ∀ o, ops[20]? = some o → StepI Try.prog ops (p_rn18 lb lo ll lc eb eo el ec ii kk rs rr mm hp cao n ccap a0 a1 a2 a3 a4 a5) (fun (_ : Array Bool) (_ : Act) (w : World) => Mod (fun _ => False) w0 w) aZ Q 20 o := by
    refine E20.stepI fun o hd ho hg hw => ?_
    intro y w listed hsz hls hun hwt hdown D' hRR hinv K hK
    have gv : y.tmps.getD 120 undef = .bool (!true) := E11.postI (Post := (p_rn18 lb lo ll lc eb eo el ec ii kk rs rr mm hp cao n ccap a0 a1 a2 a3 a4 a5)) (a := y) (w := w) D' (hwt 11 (hw 11 (by simp)))
    have wt : Region.wanted o (yielded ops y.tmps) = (!(!true)) := by
      rw [wanted_b E11 hg (by rw [hsz, ha0]; decide) gv]
      cases (!true) <;> rfl
    cases hc : (!(!true))
    · exact .inr ⟨wt.trans hc, hK _ _ (fun _ _ _ _ _ _ h => h) (by show undef = if (!(!true)) = true then .bool true else undef; rw [hc]; rfl) hinv⟩
    · have f124 : y.eval (Operand.tmp 124) = .agg #[.int .i64 rs, .int .i64 rr, .int .i64 mm, .int .i64 hp, .slice cao n ccap] := (show y.eval (Operand.tmp 124) = (if (!(!true)) = true then .agg #[.int .i64 rs, .int .i64 rr, .int .i64 mm, .int .i64 hp, .slice cao n ccap] else undef) from E15.postI (Post := (p_rn18 lb lo ll lc eb eo el ec ii kk rs rr mm hp cao n ccap a0 a1 a2 a3 a4 a5)) (a := y) (w := w) D' (hwt 15 (hw 15 (by simp)))).trans (if_pos hc)
      have f128 : y.eval (Operand.tmp 128) = .agg #[.int .i64 a0, .int .i64 a1, .int .i64 a2, .int .i64 a3, .int .i64 a4, .int .i64 a5] := (show y.eval (Operand.tmp 128) = (if (!(!true)) = true then .agg #[.int .i64 a0, .int .i64 a1, .int .i64 a2, .int .i64 a3, .int .i64 a4, .int .i64 a5] else undef) from E19.postI (Post := (p_rn18 lb lo ll lc eb eo el ec ii kk rs rr mm hp cao n ccap a0 a1 a2 a3 a4 a5)) (a := y) (w := w) D' (hwt 19 (hw 19 (by simp)))).trans (if_pos hc)
      refine .inl ⟨wt.trans hc, wp_enter (f := 3) (args := #[.agg #[.int .i64 rs, .int .i64 rr, .int .i64 mm, .int .i64 hp, .slice cao n ccap], .agg #[.int .i64 a0, .int .i64 a1, .int .i64 a2, .int .i64 a3, .int .i64 a4, .int .i64 a5], .int .i64 8]) ?_ (H20 w  hinv ) ?_⟩
      · have h := rx_call3 (ρ := y.eval) (fun args w => by simp [go_sem]) rfl ho (w := w)
        rw [f124, f128] at h
        exact h
      · rintro e w' ⟨rfl, hm⟩
        exact ⟨_, rfl, hK _ _ (fun j oj d _ _ _ h => hstay _ _ _ _ hm h) (by show _ = if (!(!true)) = true then .bool true else undef; rw [hc]; rfl) (hinv.and hm)⟩
  have s21 : ∀ o, ops[21]? = some o → StepI Try.prog ops (p_rn18 lb lo ll lc eb eo el ec ii kk rs rr mm hp cao n ccap a0 a1 a2 a3 a4 a5) (fun (_ : Array Bool) (_ : Act) (w : World) => Mod (fun _ => False) w0 w) aZ Q 21 o := by
    refine E21.stepI fun o hd ho hg hw => ?_
    intro y w listed hsz hls hun hwt hdown D' hRR hinv K hK
    have gv : y.tmps.getD 120 undef = .bool (!true) := E11.postI (Post := (p_rn18 lb lo ll lc eb eo el ec ii kk rs rr mm hp cao n ccap a0 a1 a2 a3 a4 a5)) (a := y) (w := w) D' (hwt 11 (hw 11 (by simp)))
    have wt : Region.wanted o (yielded ops y.tmps) = (!(!true)) := by
      rw [wanted_b E11 hg (by rw [hsz, ha0]; decide) gv]
      cases (!true) <;> rfl
    cases hc : (!(!true))
    · exact .inr ⟨wt.trans hc, hK _ _ (fun _ _ _ _ _ _ h => h) (by show undef = if (!(!true)) = true then .bool (!true) else undef; rw [hc]; rfl) hinv⟩
    · have f129 : y.eval (Operand.tmp 129) = .bool true := (show y.eval (Operand.tmp 129) = (if (!(!true)) = true then .bool true else undef) from E20.postI (Post := (p_rn18 lb lo ll lc eb eo el ec ii kk rs rr mm hp cao n ccap a0 a1 a2 a3 a4 a5)) (a := y) (w := w) D' (hwt 20 (hw 20 (by simp)))).trans (if_pos hc)
      exact .inl ⟨wt.trans hc, wp_value (ox_not ho f129) (hK _ _ (fun _ _ _ _ _ _ h => h) (by show _ = if (!(!true)) = true then .bool (!true) else undef; rw [hc]; rfl) hinv)⟩
  have s22 : ∀ o, ops[22]? = some o → StepI Try.prog ops (p_rn18 lb lo ll lc eb eo el ec ii kk rs rr mm hp cao n ccap a0 a1 a2 a3 a4 a5) (fun (_ : Array Bool) (_ : Act) (w : World) => Mod (fun _ => False) w0 w) aZ Q 22 o := by
    refine E22.stepI fun o hd ho hg hw => ?_
    intro y w listed hsz hls hun hwt hdown D' hRR hinv K hK
    have f120 : y.eval (Operand.tmp 120) = .bool (!true) := E11.postI (Post := (p_rn18 lb lo ll lc eb eo el ec ii kk rs rr mm hp cao n ccap a0 a1 a2 a3 a4 a5)) (a := y) (w := w) D' (hwt 11 (hw 11 (by simp)))
    have f130 : y.eval (Operand.tmp 130) = if (!(!true)) = true then .bool (!true) else undef := E21.postI (Post := (p_rn18 lb lo ll lc eb eo el ec ii kk rs rr mm hp cao n ccap a0 a1 a2 a3 a4 a5)) (a := y) (w := w) D' (hwt 21 (hw 21 (by simp)))
    exact .inl ⟨wanted_none hg, wp_value (ox_pick (v := .bool ((!true) || (!true))) ho f120 (by rw [f130]; cases (!true) <;> rfl)) (hK _ _ (fun _ _ _ _ _ _ h => h) rfl hinv)⟩
  have s23 : ∀ o, ops[23]? = some o → StepI Try.prog ops (p_rn18 lb lo ll lc eb eo el ec ii kk rs rr mm hp cao n ccap a0 a1 a2 a3 a4 a5) (fun (_ : Array Bool) (_ : Act) (w : World) => Mod (fun _ => False) w0 w) aZ Q 23 o := by
    refine E23.stepI fun o hd ho hg hw => ?_
    intro y w listed hsz hls hun hwt hdown D' hRR hinv K hK
    have f131 : y.eval (Operand.tmp 131) = .bool ((!true) || (!true)) := E22.postI (Post := (p_rn18 lb lo ll lc eb eo el ec ii kk rs rr mm hp cao n ccap a0 a1 a2 a3 a4 a5)) (a := y) (w := w) D' (hwt 22 (hw 22 (by simp)))
    exact .inl ⟨wanted_none hg, wp_value (ox_move ho f131) (hK _ _ (fun _ _ _ _ _ _ h => h) rfl hinv)⟩
  have s24 : ∀ o, ops[24]? = some o → StepI Try.prog ops (p_rn18 lb lo ll lc eb eo el ec ii kk rs rr mm hp cao n ccap a0 a1 a2 a3 a4 a5) (fun (_ : Array Bool) (_ : Act) (w : World) => Mod (fun _ => False) w0 w) aZ Q 24 o := by
    refine E24.stepI fun o hd ho hg hw => ?_
    intro y w listed hsz hls hun hwt hdown D' hRR hinv K hK
    have gv : y.tmps.getD 132 undef = .bool ((!true) || (!true)) := E23.postI (Post := (p_rn18 lb lo ll lc eb eo el ec ii kk rs rr mm hp cao n ccap a0 a1 a2 a3 a4 a5)) (a := y) (w := w) D' (hwt 23 (hw 23 (by simp)))
    have wt : Region.wanted o (yielded ops y.tmps) = (!((!true) || (!true))) := by
      rw [wanted_b E23 hg (by rw [hsz, ha0]; decide) gv]
      cases ((!true) || (!true)) <;> rfl
    cases hc : (!((!true) || (!true)))
    · exact .inr ⟨wt.trans hc, hK _ _ (fun _ _ _ _ _ _ h => h) (by show undef = if (!((!true) || (!true))) = true then .slice (some ⟨lb, lo, none⟩) ll lc else undef; rw [hc]; rfl) hinv⟩
    · have f12 : y.eval (Operand.tmp 12) = .slice (some ⟨lb, lo, none⟩) ll lc   := (hRR 12 (not_of (by rw [hds]; decide))).trans bS12
      exact .inl ⟨wt.trans hc, wp_value (ox_move ho f12) (hK _ _ (fun _ _ _ _ _ _ h => h) (by show _ = if (!((!true) || (!true))) = true then .slice (some ⟨lb, lo, none⟩) ll lc else undef; rw [hc]; rfl) hinv)⟩
  have s25 : ∀ o, ops[25]? = some o → StepI Try.prog ops (p_rn18 lb lo ll lc eb eo el ec ii kk rs rr mm hp cao n ccap a0 a1 a2 a3 a4 a5) (fun (_ : Array Bool) (_ : Act) (w : World) => Mod (fun _ => False) w0 w) aZ Q 25 o := by
    refine E25.stepI fun o hd ho hg hw => ?_
    intro y w listed hsz hls hun hwt hdown D' hRR hinv K hK
    have gv : y.tmps.getD 132 undef = .bool ((!true) || (!true)) := E23.postI (Post := (p_rn18 lb lo ll lc eb eo el ec ii kk rs rr mm hp cao n ccap a0 a1 a2 a3 a4 a5)) (a := y) (w := w) D' (hwt 23 (hw 23 (by simp)))
    have wt : Region.wanted o (yielded ops y.tmps) = (!((!true) || (!true))) := by
      rw [wanted_b E23 hg (by rw [hsz, ha0]; decide) gv]
      cases ((!true) || (!true)) <;> rfl
    cases hc : (!((!true) || (!true)))
    · exact .inr ⟨wt.trans hc, hK _ _ (fun _ _ _ _ _ _ h => h) (by show undef = if (!((!true) || (!true))) = true then .int .i64 (ii : Int) else undef; rw [hc]; rfl) hinv⟩
    · have f14 : y.eval (Operand.tmp 14) = .int .i64 (ii : Int)   := (hRR 14 (not_of (by rw [hds]; decide))).trans bS14
      exact .inl ⟨wt.trans hc, wp_value (ox_move ho f14) (hK _ _ (fun _ _ _ _ _ _ h => h) (by show _ = if (!((!true) || (!true))) = true then .int .i64 (ii : Int) else undef; rw [hc]; rfl) hinv)⟩
  have s26 : ∀ o, ops[26]? = some o → StepI Try.prog ops (p_rn18 lb lo ll lc eb eo el ec ii kk rs rr mm hp cao n ccap a0 a1 a2 a3 a4 a5) (fun (_ : Array Bool) (_ : Act) (w : World) => Mod (fun _ => False) w0 w) aZ Q 26 o := by
    refine E26.stepI fun o hd ho hg hw => ?_
    intro y w listed hsz hls hun hwt hdown D' hRR hinv K hK
    have gv : y.tmps.getD 132 undef = .bool ((!true) || (!true)) := E23.postI (Post := (p_rn18 lb lo ll lc eb eo el ec ii kk rs rr mm hp cao n ccap a0 a1 a2 a3 a4 a5)) (a := y) (w := w) D' (hwt 23 (hw 23 (by simp)))
    have wt : Region.wanted o (yielded ops y.tmps) = (!((!true) || (!true))) := by
      rw [wanted_b E23 hg (by rw [hsz, ha0]; decide) gv]
      cases ((!true) || (!true)) <;> rfl
    cases hc : (!((!true) || (!true)))
    · exact .inr ⟨wt.trans hc, hK _ _ (fun _ _ _ _ _ _ h => h) (by show undef = if (!((!true) || (!true))) = true then .pointer (some ⟨lb, lo + ii * 5, none⟩) else undef; rw [hc]; rfl) hinv⟩
    · have f133 : y.eval (Operand.tmp 133) = .slice (some ⟨lb, lo, none⟩) ll lc := (show y.eval (Operand.tmp 133) = (if (!((!true) || (!true))) = true then .slice (some ⟨lb, lo, none⟩) ll lc else undef) from E24.postI (Post := (p_rn18 lb lo ll lc eb eo el ec ii kk rs rr mm hp cao n ccap a0 a1 a2 a3 a4 a5)) (a := y) (w := w) D' (hwt 24 (hw 24 (by simp)))).trans (if_pos hc)
      have f134 : y.eval (Operand.tmp 134) = .int .i64 (ii : Int) := (show y.eval (Operand.tmp 134) = (if (!((!true) || (!true))) = true then .int .i64 (ii : Int) else undef) from E25.postI (Post := (p_rn18 lb lo ll lc eb eo el ec ii kk rs rr mm hp cao n ccap a0 a1 a2 a3 a4 a5)) (a := y) (w := w) D' (hwt 25 (hw 25 (by simp)))).trans (if_pos hc)
      exact .inl ⟨wt.trans hc, wp_value (ox_index (v := .pointer (some ⟨lb, lo + ii * 5, none⟩)) ho f133 f134 (by simp [go_sem, hi])) (hK _ _ (fun _ _ _ _ _ _ h => h) (by show _ = if (!((!true) || (!true))) = true then .pointer (some ⟨lb, lo + ii * 5, none⟩) else undef; rw [hc]; rfl) hinv)⟩
  have s27 : ∀ o, ops[27]? = some o → StepI Try.prog ops (p_rn18 lb lo ll lc eb eo el ec ii kk rs rr mm hp cao n ccap a0 a1 a2 a3 a4 a5) (fun (_ : Array Bool) (_ : Act) (w : World) => Mod (fun _ => False) w0 w) aZ Q 27 o := by
    refine E27.stepI fun o hd ho hg hw => ?_
    intro y w listed hsz hls hun hwt hdown D' hRR hinv K hK
    have gv : y.tmps.getD 132 undef = .bool ((!true) || (!true)) := E23.postI (Post := (p_rn18 lb lo ll lc eb eo el ec ii kk rs rr mm hp cao n ccap a0 a1 a2 a3 a4 a5)) (a := y) (w := w) D' (hwt 23 (hw 23 (by simp)))
    have wt : Region.wanted o (yielded ops y.tmps) = (!((!true) || (!true))) := by
      rw [wanted_b E23 hg (by rw [hsz, ha0]; decide) gv]
      cases ((!true) || (!true)) <;> rfl
    cases hc : (!((!true) || (!true)))
    · exact .inr ⟨wt.trans hc, hK _ _ (fun _ _ _ _ _ _ h => h) (by show undef = if (!((!true) || (!true))) = true then .agg #[.int .i64 rs, .int .i64 rr, .int .i64 mm, .int .i64 hp, .slice cao n ccap] else undef; rw [hc]; rfl) hinv⟩
    · have f135 : y.eval (Operand.tmp 135) = .pointer (some ⟨lb, lo + ii * 5, none⟩) := (show y.eval (Operand.tmp 135) = (if (!((!true) || (!true))) = true then .pointer (some ⟨lb, lo + ii * 5, none⟩) else undef) from E26.postI (Post := (p_rn18 lb lo ll lc eb eo el ec ii kk rs rr mm hp cao n ccap a0 a1 a2 a3 a4 a5)) (a := y) (w := w) D' (hwt 26 (hw 26 (by simp)))).trans (if_pos hc)
      have h0 := hinv.cell k_lb_lo_ii_5 (fun h => h)
      have h1 := hinv.cell k_lb_lo_ii_5_1 (fun h => h)
      have h2 := hinv.cell k_lb_lo_ii_5_2 (fun h => h)
      have h3 := hinv.cell k_lb_lo_ii_5_3 (fun h => h)
      have h4 := hinv.cell k_lb_lo_ii_5_4 (fun h => h)
      exact .inl ⟨wt.trans hc, wp_value (ox_load (v := .agg #[.int .i64 rs, .int .i64 rr, .int .i64 mm, .int .i64 hp, .slice cao n ccap]) ho f135 (by simp [go_sem, h0, h1, h2, h3, h4])) (hK _ _ (fun _ _ _ _ _ _ h => h) (by show _ = if (!((!true) || (!true))) = true then .agg #[.int .i64 rs, .int .i64 rr, .int .i64 mm, .int .i64 hp, .slice cao n ccap] else undef; rw [hc]; rfl) hinv)⟩
  have s28 : ∀ o, ops[28]? = some o → StepI Try.prog ops (p_rn18 lb lo ll lc eb eo el ec ii kk rs rr mm hp cao n ccap a0 a1 a2 a3 a4 a5) (fun (_ : Array Bool) (_ : Act) (w : World) => Mod (fun _ => False) w0 w) aZ Q 28 o := by
    refine E28.stepI fun o hd ho hg hw => ?_
    intro y w listed hsz hls hun hwt hdown D' hRR hinv K hK
    have gv : y.tmps.getD 132 undef = .bool ((!true) || (!true)) := E23.postI (Post := (p_rn18 lb lo ll lc eb eo el ec ii kk rs rr mm hp cao n ccap a0 a1 a2 a3 a4 a5)) (a := y) (w := w) D' (hwt 23 (hw 23 (by simp)))
    have wt : Region.wanted o (yielded ops y.tmps) = (!((!true) || (!true))) := by
      rw [wanted_b E23 hg (by rw [hsz, ha0]; decide) gv]
      cases ((!true) || (!true)) <;> rfl
    cases hc : (!((!true) || (!true)))
    · exact .inr ⟨wt.trans hc, hK _ _ (fun _ _ _ _ _ _ h => h) (by show undef = if (!((!true) || (!true))) = true then .slice (some ⟨eb, eo, none⟩) el ec else undef; rw [hc]; rfl) hinv⟩
    · have f13 : y.eval (Operand.tmp 13) = .slice (some ⟨eb, eo, none⟩) el ec   := (hRR 13 (not_of (by rw [hds]; decide))).trans bS13
      exact .inl ⟨wt.trans hc, wp_value (ox_move ho f13) (hK _ _ (fun _ _ _ _ _ _ h => h) (by show _ = if (!((!true) || (!true))) = true then .slice (some ⟨eb, eo, none⟩) el ec else undef; rw [hc]; rfl) hinv)⟩
  have s29 : ∀ o, ops[29]? = some o → StepI Try.prog ops (p_rn18 lb lo ll lc eb eo el ec ii kk rs rr mm hp cao n ccap a0 a1 a2 a3 a4 a5) (fun (_ : Array Bool) (_ : Act) (w : World) => Mod (fun _ => False) w0 w) aZ Q 29 o := by
    refine E29.stepI fun o hd ho hg hw => ?_
    intro y w listed hsz hls hun hwt hdown D' hRR hinv K hK
    have gv : y.tmps.getD 132 undef = .bool ((!true) || (!true)) := E23.postI (Post := (p_rn18 lb lo ll lc eb eo el ec ii kk rs rr mm hp cao n ccap a0 a1 a2 a3 a4 a5)) (a := y) (w := w) D' (hwt 23 (hw 23 (by simp)))
    have wt : Region.wanted o (yielded ops y.tmps) = (!((!true) || (!true))) := by
      rw [wanted_b E23 hg (by rw [hsz, ha0]; decide) gv]
      cases ((!true) || (!true)) <;> rfl
    cases hc : (!((!true) || (!true)))
    · exact .inr ⟨wt.trans hc, hK _ _ (fun _ _ _ _ _ _ h => h) (by show undef = if (!((!true) || (!true))) = true then .int .i64 (kk : Int) else undef; rw [hc]; rfl) hinv⟩
    · have f15 : y.eval (Operand.tmp 15) = .int .i64 (kk : Int)   := (hRR 15 (not_of (by rw [hds]; decide))).trans bS15
      exact .inl ⟨wt.trans hc, wp_value (ox_move ho f15) (hK _ _ (fun _ _ _ _ _ _ h => h) (by show _ = if (!((!true) || (!true))) = true then .int .i64 (kk : Int) else undef; rw [hc]; rfl) hinv)⟩
  have s30 : ∀ o, ops[30]? = some o → StepI Try.prog ops (p_rn18 lb lo ll lc eb eo el ec ii kk rs rr mm hp cao n ccap a0 a1 a2 a3 a4 a5) (fun (_ : Array Bool) (_ : Act) (w : World) => Mod (fun _ => False) w0 w) aZ Q 30 o := by
    refine E30.stepI fun o hd ho hg hw => ?_
    intro y w listed hsz hls hun hwt hdown D' hRR hinv K hK
    have gv : y.tmps.getD 132 undef = .bool ((!true) || (!true)) := E23.postI (Post := (p_rn18 lb lo ll lc eb eo el ec ii kk rs rr mm hp cao n ccap a0 a1 a2 a3 a4 a5)) (a := y) (w := w) D' (hwt 23 (hw 23 (by simp)))
    have wt : Region.wanted o (yielded ops y.tmps) = (!((!true) || (!true))) := by
      rw [wanted_b E23 hg (by rw [hsz, ha0]; decide) gv]
      cases ((!true) || (!true)) <;> rfl
    cases hc : (!((!true) || (!true)))
    · exact .inr ⟨wt.trans hc, hK _ _ (fun _ _ _ _ _ _ h => h) (by show undef = if (!((!true) || (!true))) = true then .pointer (some ⟨eb, eo + kk * 6, none⟩) else undef; rw [hc]; rfl) hinv⟩
    · have f137 : y.eval (Operand.tmp 137) = .slice (some ⟨eb, eo, none⟩) el ec := (show y.eval (Operand.tmp 137) = (if (!((!true) || (!true))) = true then .slice (some ⟨eb, eo, none⟩) el ec else undef) from E28.postI (Post := (p_rn18 lb lo ll lc eb eo el ec ii kk rs rr mm hp cao n ccap a0 a1 a2 a3 a4 a5)) (a := y) (w := w) D' (hwt 28 (hw 28 (by simp)))).trans (if_pos hc)
      have f138 : y.eval (Operand.tmp 138) = .int .i64 (kk : Int) := (show y.eval (Operand.tmp 138) = (if (!((!true) || (!true))) = true then .int .i64 (kk : Int) else undef) from E29.postI (Post := (p_rn18 lb lo ll lc eb eo el ec ii kk rs rr mm hp cao n ccap a0 a1 a2 a3 a4 a5)) (a := y) (w := w) D' (hwt 29 (hw 29 (by simp)))).trans (if_pos hc)
      exact .inl ⟨wt.trans hc, wp_value (ox_index (v := .pointer (some ⟨eb, eo + kk * 6, none⟩)) ho f137 f138 (by simp [go_sem, hk])) (hK _ _ (fun _ _ _ _ _ _ h => h) (by show _ = if (!((!true) || (!true))) = true then .pointer (some ⟨eb, eo + kk * 6, none⟩) else undef; rw [hc]; rfl) hinv)⟩
  have s31 : ∀ o, ops[31]? = some o → StepI Try.prog ops (p_rn18 lb lo ll lc eb eo el ec ii kk rs rr mm hp cao n ccap a0 a1 a2 a3 a4 a5) (fun (_ : Array Bool) (_ : Act) (w : World) => Mod (fun _ => False) w0 w) aZ Q 31 o := by
    refine E31.stepI fun o hd ho hg hw => ?_
    intro y w listed hsz hls hun hwt hdown D' hRR hinv K hK
    have gv : y.tmps.getD 132 undef = .bool ((!true) || (!true)) := E23.postI (Post := (p_rn18 lb lo ll lc eb eo el ec ii kk rs rr mm hp cao n ccap a0 a1 a2 a3 a4 a5)) (a := y) (w := w) D' (hwt 23 (hw 23 (by simp)))
    have wt : Region.wanted o (yielded ops y.tmps) = (!((!true) || (!true))) := by
      rw [wanted_b E23 hg (by rw [hsz, ha0]; decide) gv]
      cases ((!true) || (!true)) <;> rfl
    cases hc : (!((!true) || (!true)))
    · exact .inr ⟨wt.trans hc, hK _ _ (fun _ _ _ _ _ _ h => h) (by show undef = if (!((!true) || (!true))) = true then .pointer (some ⟨eb, eo + kk * 6 + 1, none⟩) else undef; rw [hc]; rfl) hinv⟩
    · have f139 : y.eval (Operand.tmp 139) = .pointer (some ⟨eb, eo + kk * 6, none⟩) := (show y.eval (Operand.tmp 139) = (if (!((!true) || (!true))) = true then .pointer (some ⟨eb, eo + kk * 6, none⟩) else undef) from E30.postI (Post := (p_rn18 lb lo ll lc eb eo el ec ii kk rs rr mm hp cao n ccap a0 a1 a2 a3 a4 a5)) (a := y) (w := w) D' (hwt 30 (hw 30 (by simp)))).trans (if_pos hc)
      exact .inl ⟨wt.trans hc, wp_value (ox_field (v := .pointer (some ⟨eb, eo + kk * 6 + 1, none⟩)) ho f139 (by simp [go_sem])) (hK _ _ (fun _ _ _ _ _ _ h => h) (by show _ = if (!((!true) || (!true))) = true then .pointer (some ⟨eb, eo + kk * 6 + 1, none⟩) else undef; rw [hc]; rfl) hinv)⟩
  have s32 : ∀ o, ops[32]? = some o → StepI Try.prog ops (p_rn18 lb lo ll lc eb eo el ec ii kk rs rr mm hp cao n ccap a0 a1 a2 a3 a4 a5) (fun (_ : Array Bool) (_ : Act) (w : World) => Mod (fun _ => False) w0 w) aZ Q 32 o := by
    refine E32.stepI fun o hd ho hg hw => ?_
    intro y w listed hsz hls hun hwt hdown D' hRR hinv K hK
    have gv : y.tmps.getD 132 undef = .bool ((!true) || (!true)) := E23.postI (Post := (p_rn18 lb lo ll lc eb eo el ec ii kk rs rr mm hp cao n ccap a0 a1 a2 a3 a4 a5)) (a := y) (w := w) D' (hwt 23 (hw 23 (by simp)))
    have wt : Region.wanted o (yielded ops y.tmps) = (!((!true) || (!true))) := by
      rw [wanted_b E23 hg (by rw [hsz, ha0]; decide) gv]
      cases ((!true) || (!true)) <;> rfl
    cases hc : (!((!true) || (!true)))
    · exact .inr ⟨wt.trans hc, hK _ _ (fun _ _ _ _ _ _ h => h) (by show undef = if (!((!true) || (!true))) = true then .agg #[.int .i64 a1, .int .i64 a2] else undef; rw [hc]; rfl) hinv⟩
    · have f140 : y.eval (Operand.tmp 140) = .pointer (some ⟨eb, eo + kk * 6 + 1, none⟩) := (show y.eval (Operand.tmp 140) = (if (!((!true) || (!true))) = true then .pointer (some ⟨eb, eo + kk * 6 + 1, none⟩) else undef) from E31.postI (Post := (p_rn18 lb lo ll lc eb eo el ec ii kk rs rr mm hp cao n ccap a0 a1 a2 a3 a4 a5)) (a := y) (w := w) D' (hwt 31 (hw 31 (by simp)))).trans (if_pos hc)
      have h0 := hinv.cell k_eb_eo_kk_6_1 (fun h => h)
      have h1 := hinv.cell k_eb_eo_kk_6_2 (fun h => h)
      exact .inl ⟨wt.trans hc, wp_value (ox_load (v := .agg #[.int .i64 a1, .int .i64 a2]) ho f140 (by simp [go_sem, h0, h1])) (hK _ _ (fun _ _ _ _ _ _ h => h) (by show _ = if (!((!true) || (!true))) = true then .agg #[.int .i64 a1, .int .i64 a2] else undef; rw [hc]; rfl) hinv)⟩
  have s33 : ∀ o, ops[33]? = some o → StepI Try.prog ops (p_rn18 lb lo ll lc eb eo el ec ii kk rs rr mm hp cao n ccap a0 a1 a2 a3 a4 a5) (fun (_ : Array Bool) (_ : Act) (w : World) => Mod (fun _ => False) w0 w) aZ Q 33 o := by
    refine E33.stepI fun o hd ho hg hw => ?_
    intro y w listed hsz hls hun hwt hdown D' hRR hinv K hK
    have gv : y.tmps.getD 132 undef = .bool ((!true) || (!true)) := E23.postI (Post := (p_rn18 lb lo ll lc eb eo el ec ii kk rs rr mm hp cao n ccap a0 a1 a2 a3 a4 a5)) (a := y) (w := w) D' (hwt 23 (hw 23 (by simp)))
    have wt : Region.wanted o (yielded ops y.tmps) = (!((!true) || (!true))) := by
      rw [wanted_b E23 hg (by rw [hsz, ha0]; decide) gv]
      cases ((!true) || (!true)) <;> rfl
    cases hc : (!((!true) || (!true)))
    · exact .inr ⟨wt.trans hc, hK _ _ (fun _ _ _ _ _ _ h => h) (by show undef = if (!((!true) || (!true))) = true then .bool true else undef; rw [hc]; rfl) hinv⟩
    · have f136 : y.eval (Operand.tmp 136) = .agg #[.int .i64 rs, .int .i64 rr, .int .i64 mm, .int .i64 hp, .slice cao n ccap] := (show y.eval (Operand.tmp 136) = (if (!((!true) || (!true))) = true then .agg #[.int .i64 rs, .int .i64 rr, .int .i64 mm, .int .i64 hp, .slice cao n ccap] else undef) from E27.postI (Post := (p_rn18 lb lo ll lc eb eo el ec ii kk rs rr mm hp cao n ccap a0 a1 a2 a3 a4 a5)) (a := y) (w := w) D' (hwt 27 (hw 27 (by simp)))).trans (if_pos hc)
      have f141 : y.eval (Operand.tmp 141) = .agg #[.int .i64 a1, .int .i64 a2] := (show y.eval (Operand.tmp 141) = (if (!((!true) || (!true))) = true then .agg #[.int .i64 a1, .int .i64 a2] else undef) from E32.postI (Post := (p_rn18 lb lo ll lc eb eo el ec ii kk rs rr mm hp cao n ccap a0 a1 a2 a3 a4 a5)) (a := y) (w := w) D' (hwt 32 (hw 32 (by simp)))).trans (if_pos hc)
      refine .inl ⟨wt.trans hc, wp_enter (f := 4) (args := #[.agg #[.int .i64 rs, .int .i64 rr, .int .i64 mm, .int .i64 hp, .slice cao n ccap], .agg #[.int .i64 a1, .int .i64 a2]]) ?_ (H33 w  hinv ) ?_⟩
      · have h := exec_call2 y.eval (fun args w => by simp [go_sem]) rfl ho (w := w)
        rw [f136, f141] at h
        exact h
      · rintro e w' ⟨rfl, hm⟩
        exact ⟨_, rfl, hK _ _ (fun j oj d _ _ _ h => hstay _ _ _ _ hm h) (by show _ = if (!((!true) || (!true))) = true then .bool true else undef; rw [hc]; rfl) (hinv.and hm)⟩
  have s34 : ∀ o, ops[34]? = some o → StepI Try.prog ops (p_rn18 lb lo ll lc eb eo el ec ii kk rs rr mm hp cao n ccap a0 a1 a2 a3 a4 a5) (fun (_ : Array Bool) (_ : Act) (w : World) => Mod (fun _ => False) w0 w) aZ Q 34 o := by
    refine E34.stepI fun o hd ho hg hw => ?_
    intro y w listed hsz hls hun hwt hdown D' hRR hinv K hK
    have gv : y.tmps.getD 132 undef = .bool ((!true) || (!true)) := E23.postI (Post := (p_rn18 lb lo ll lc eb eo el ec ii kk rs rr mm hp cao n ccap a0 a1 a2 a3 a4 a5)) (a := y) (w := w) D' (hwt 23 (hw 23 (by simp)))
    have wt : Region.wanted o (yielded ops y.tmps) = (!((!true) || (!true))) := by
      rw [wanted_b E23 hg (by rw [hsz, ha0]; decide) gv]
      cases ((!true) || (!true)) <;> rfl
    cases hc : (!((!true) || (!true)))
    · exact .inr ⟨wt.trans hc, hK _ _ (fun _ _ _ _ _ _ h => h) (by show undef = if (!((!true) || (!true))) = true then .bool (!true) else undef; rw [hc]; rfl) hinv⟩
    · have f142 : y.eval (Operand.tmp 142) = .bool true := (show y.eval (Operand.tmp 142) = (if (!((!true) || (!true))) = true then .bool true else undef) from E33.postI (Post := (p_rn18 lb lo ll lc eb eo el ec ii kk rs rr mm hp cao n ccap a0 a1 a2 a3 a4 a5)) (a := y) (w := w) D' (hwt 33 (hw 33 (by simp)))).trans (if_pos hc)
      exact .inl ⟨wt.trans hc, wp_value (ox_not ho f142) (hK _ _ (fun _ _ _ _ _ _ h => h) (by show _ = if (!((!true) || (!true))) = true then .bool (!true) else undef; rw [hc]; rfl) hinv)⟩
  have s35 : ∀ o, ops[35]? = some o → StepI Try.prog ops (p_rn18 lb lo ll lc eb eo el ec ii kk rs rr mm hp cao n ccap a0 a1 a2 a3 a4 a5) (fun (_ : Array Bool) (_ : Act) (w : World) => Mod (fun _ => False) w0 w) aZ Q 35 o := by
    refine E35.stepI fun o hd ho hg hw => ?_
    intro y w listed hsz hls hun hwt hdown D' hRR hinv K hK
    have f132 : y.eval (Operand.tmp 132) = .bool ((!true) || (!true)) := E23.postI (Post := (p_rn18 lb lo ll lc eb eo el ec ii kk rs rr mm hp cao n ccap a0 a1 a2 a3 a4 a5)) (a := y) (w := w) D' (hwt 23 (hw 23 (by simp)))
    have f143 : y.eval (Operand.tmp 143) = if (!((!true) || (!true))) = true then .bool (!true) else undef := E34.postI (Post := (p_rn18 lb lo ll lc eb eo el ec ii kk rs rr mm hp cao n ccap a0 a1 a2 a3 a4 a5)) (a := y) (w := w) D' (hwt 34 (hw 34 (by simp)))
    exact .inl ⟨wanted_none hg, wp_value (ox_pick (v := .bool (((!true) || (!true)) || (!true))) ho f132 (by rw [f143]; cases ((!true) || (!true)) <;> rfl)) (hK _ _ (fun _ _ _ _ _ _ h => h) rfl hinv)⟩
  refine region_freeI (Post := (p_rn18 lb lo ll lc eb eo el ec ii kk rs rr mm hp cao n ccap a0 a1 a2 a3 a4 a5)) (Inv := (fun (_ : Array Bool) (_ : Act) (w : World) => Mod (fun _ => False) w0 w)) mixed (low_of hlow) (fun i o ho => by rw [ha0]; exact dst_of (by rw [hds]; decide) i o ho) (inj_of hnd) (Mod.refl _ _).drew ?_ ?_
  · intro i o ho
    have hi : i < 36 := by
      rw [← hN]
      rcases Nat.lt_or_ge i ops.size with h | h
      · exact h
      · rw [Array.getElem?_eq_none h] at ho; cases ho
    clear hend
    by_cases e0 : i = 0
    · subst e0; exact s0 o ho
    by_cases e1 : i = 1
    · subst e1; exact s1 o ho
    by_cases e2 : i = 2
    · subst e2; exact s2 o ho
    by_cases e3 : i = 3
    · subst e3; exact s3 o ho
    by_cases e4 : i = 4
    · subst e4; exact s4 o ho
    by_cases e5 : i = 5
    · subst e5; exact s5 o ho
    by_cases e6 : i = 6
    · subst e6; exact s6 o ho
    by_cases e7 : i = 7
    · subst e7; exact s7 o ho
    by_cases e8 : i = 8
    · subst e8; exact s8 o ho
    by_cases e9 : i = 9
    · subst e9; exact s9 o ho
    by_cases e10 : i = 10
    · subst e10; exact s10 o ho
    by_cases e11 : i = 11
    · subst e11; exact s11 o ho
    by_cases e12 : i = 12
    · subst e12; exact s12 o ho
    by_cases e13 : i = 13
    · subst e13; exact s13 o ho
    by_cases e14 : i = 14
    · subst e14; exact s14 o ho
    by_cases e15 : i = 15
    · subst e15; exact s15 o ho
    by_cases e16 : i = 16
    · subst e16; exact s16 o ho
    by_cases e17 : i = 17
    · subst e17; exact s17 o ho
    by_cases e18 : i = 18
    · subst e18; exact s18 o ho
    by_cases e19 : i = 19
    · subst e19; exact s19 o ho
    by_cases e20 : i = 20
    · subst e20; exact s20 o ho
    by_cases e21 : i = 21
    · subst e21; exact s21 o ho
    by_cases e22 : i = 22
    · subst e22; exact s22 o ho
    by_cases e23 : i = 23
    · subst e23; exact s23 o ho
    by_cases e24 : i = 24
    · subst e24; exact s24 o ho
    by_cases e25 : i = 25
    · subst e25; exact s25 o ho
    by_cases e26 : i = 26
    · subst e26; exact s26 o ho
    by_cases e27 : i = 27
    · subst e27; exact s27 o ho
    by_cases e28 : i = 28
    · subst e28; exact s28 o ho
    by_cases e29 : i = 29
    · subst e29; exact s29 o ho
    by_cases e30 : i = 30
    · subst e30; exact s30 o ho
    by_cases e31 : i = 31
    · subst e31; exact s31 o ho
    by_cases e32 : i = 32
    · subst e32; exact s32 o ho
    by_cases e33 : i = 33
    · subst e33; exact s33 o ho
    by_cases e34 : i = 34
    · subst e34; exact s34 o ho
    by_cases e35 : i = 35
    · subst e35; exact s35 o ho
    omega
  · intro y w listed hsz hdf hls hall hinv hPO hRE
    have e : y = puts aZ [(109, .slice (some ⟨lb, lo, none⟩) ll lc), (110, .int .i64 (ii : Int)), (111, .pointer (some ⟨lb, lo + ii * 5, none⟩)), (112, .agg #[.int .i64 rs, .int .i64 rr, .int .i64 mm, .int .i64 hp, .slice cao n ccap]), (113, .slice (some ⟨eb, eo, none⟩) el ec), (114, .int .i64 (kk : Int)), (115, .pointer (some ⟨eb, eo + kk * 6, none⟩)), (116, .agg #[.int .i64 a0, .int .i64 a1, .int .i64 a2, .int .i64 a3, .int .i64 a4, .int .i64 a5]), (117, .int .i64 (kk : Int)), (118, .bool true), (119, .bool (!true)), (120, .bool (!true)), (121, y.tmps.getD 121 undef), (122, y.tmps.getD 122 undef), (123, y.tmps.getD 123 undef), (124, y.tmps.getD 124 undef), (125, y.tmps.getD 125 undef), (126, y.tmps.getD 126 undef), (127, y.tmps.getD 127 undef), (128, y.tmps.getD 128 undef), (129, y.tmps.getD 129 undef), (130, y.tmps.getD 130 undef), (131, .bool ((!true) || (!true))), (132, .bool ((!true) || (!true))), (133, y.tmps.getD 133 undef), (134, y.tmps.getD 134 undef), (135, y.tmps.getD 135 undef), (136, y.tmps.getD 136 undef), (137, y.tmps.getD 137 undef), (138, y.tmps.getD 138 undef), (139, y.tmps.getD 139 undef), (140, y.tmps.getD 140 undef), (141, y.tmps.getD 141 undef), (142, y.tmps.getD 142 undef), (143, y.tmps.getD 143 undef), (144, .bool (((!true) || (!true)) || (!true)))] := by
      refine eq_puts hsz hdf (nodup_of (D := [some 109, some 110, some 111, some 112, some 113, some 114, some 115, some 116, some 117, some 118, some 119, some 120, some 121, some 122, some 123, some 124, some 125, some 126, some 127, some 128, some 129, some 130, some 131, some 132, some 133, some 134, some 135, some 136, some 137, some 138, some 139, some 140, some 141, some 142, some 143, some 144]) rfl (by decide)) (by rw [ha0]; simp) ?_ ?_
      · intro q hq
        simp only [List.mem_cons, List.not_mem_nil, or_false] at hq
        rcases hq with rfl | rfl | rfl | rfl | rfl | rfl | rfl | rfl | rfl | rfl | rfl | rfl | rfl | rfl | rfl | rfl | rfl | rfl | rfl | rfl | rfl | rfl | rfl | rfl | rfl | rfl | rfl | rfl | rfl | rfl | rfl | rfl | rfl | rfl | rfl | rfl
        · obtain ⟨o, h1, h2, _⟩ := E0.ex
          exact hPO 0 o _ h1 h2
        · obtain ⟨o, h1, h2, _⟩ := E1.ex
          exact hPO 1 o _ h1 h2
        · obtain ⟨o, h1, h2, _⟩ := E2.ex
          exact hPO 2 o _ h1 h2
        · obtain ⟨o, h1, h2, _⟩ := E3.ex
          exact hPO 3 o _ h1 h2
        · obtain ⟨o, h1, h2, _⟩ := E4.ex
          exact hPO 4 o _ h1 h2
        · obtain ⟨o, h1, h2, _⟩ := E5.ex
          exact hPO 5 o _ h1 h2
        · obtain ⟨o, h1, h2, _⟩ := E6.ex
          exact hPO 6 o _ h1 h2
        · obtain ⟨o, h1, h2, _⟩ := E7.ex
          exact hPO 7 o _ h1 h2
        · obtain ⟨o, h1, h2, _⟩ := E8.ex
          exact hPO 8 o _ h1 h2
        · obtain ⟨o, h1, h2, _⟩ := E9.ex
          exact hPO 9 o _ h1 h2
        · obtain ⟨o, h1, h2, _⟩ := E10.ex
          exact hPO 10 o _ h1 h2
        · obtain ⟨o, h1, h2, _⟩ := E11.ex
          exact hPO 11 o _ h1 h2
        · rfl
        · rfl
        · rfl
        · rfl
        · rfl
        · rfl
        · rfl
        · rfl
        · rfl
        · rfl
        · obtain ⟨o, h1, h2, _⟩ := E22.ex
          exact hPO 22 o _ h1 h2
        · obtain ⟨o, h1, h2, _⟩ := E23.ex
          exact hPO 23 o _ h1 h2
        · rfl
        · rfl
        · rfl
        · rfl
        · rfl
        · rfl
        · rfl
        · rfl
        · rfl
        · rfl
        · rfl
        · obtain ⟨o, h1, h2, _⟩ := E35.ex
          exact hPO 35 o _ h1 h2
      · intro t ht
        exact hRE t (not_of (by rw [hds]; exact not_cont rfl ht))
    rw [e]
    exact hend (fun d => y.tmps.getD d undef) w hinv
set_option maxRecDepth 100000 in
set_option maxHeartbeats 20000000 in
theorem names_walk (w : World) : Calls Try.prog 7 #[] w fun e w' => e = .returned (.bool true) ∧ Mod (fun _ => False) w w' := by
  have HN := fun W => New_any W 9 1 10 e1 ⟨by decide, by decide⟩
  have HA := fun W v h => Add_any W v c1 e3 h ⟨by decide, by decide⟩
  have HP3 := fun W v h => Pass_any W v c2 h ⟨by decide, by decide⟩
  have HP4 := fun W v h => Pass_any W v c3 h ⟨by decide, by decide⟩
  have HN8 := fun W => New_any W 9 8 256 e8 ⟨by decide, by decide⟩
  have HV4 := fun W v h => Visit_any W v c4 1 h ⟨by decide, by decide⟩
  have HV8 := fun W v h => Visit_any W v c8 8 h ⟨by decide, by decide⟩
  have HS8 := fun W v h => Stamp_any W v c8 h ⟨by decide, by decide⟩
  rw [new_c1] at HN
  rw [add_c2] at HA
  rw [pas_c3] at HP3
  rw [pas_c4] at HP4
  rw [new_c8] at HN8
  rw [vis_c4] at HV4
  rw [vis_c8] at HV8
  rw [st_c8] at HS8
  simp only [eyc, e1, e3, e8] at HN HA HN8
  obtain ⟨W0, hW0⟩ : ∃ W0, W0 = w := ⟨_, rfl⟩
  go_enter Try.func7, Try.ntmps7
  go_wp2_with (fail)
  refine (one_any _).mono ?_
  rintro e w1 ⟨rfl, hm1⟩
  go_wp2_with (fail)
  refine (HN _).mono ?_
  rintro e w2 ⟨v1, rfl, hc1, hm1b⟩
  obtain ⟨hM, hm1⟩ := And.intro hm1 hm1b
  clear hm1b HN
  obtain ⟨a1, k1, rfl, hr1, hw1⟩ : ∃ ao cap, v1 = .agg #[.int .i64 9, .int .i64 1, .int .i64 10, .int .i64 1, .slice ao 1 cap] ∧ RE w2 (.slice ao 1 cap) [e1] ∧ Nw _ (.slice ao 1 cap) := hc1.form
  clear hr1 hw1
  have hv1 := hc1.cv
  clear hc1
  go_upto_region 2 with fail
  obtain ⟨X1, hX1⟩ : ∃ W, W = w2.alloc (.cells #[.int .i64 9, .int .i64 1, .int .i64 10, .int .i64 1, .slice a1 1 k1] 26) := ⟨_, rfl⟩
  obtain ⟨g1, hg1⟩ : ∃ g, g = w2.heap.size := ⟨_, rfl⟩
  have hq1 : Mod (fun _ => False) w2 X1 := by rw [hX1]; exact (Mod.refl _ w2).alloc _
  have hb1 : Bk X1 g1 26 #[.int .i64 9, .int .i64 1, .int .i64 10, .int .i64 1, .slice a1 1 k1] := by rw [hX1, hg1]; exact Bk.new w2 _ _
  rw [← hX1, ← hg1]
  replace hv1 := hv1.keep hq1
  replace hm1 := hm1.and hq1
  replace hM := hM.and hm1
  clear hX1 hq1 hg1 hm1
  refine rn2 g1 (.int .i64 9) (.int .i64 1) (.int .i64 10) (.int .i64 1) (.slice a1 1 k1) (fun w v => Cn W0 w v c2) ⟨⟨⟨_, rfl, rfl, rfl, rfl, by decide +kernel⟩⟩, ⟨⟨_, rfl, rfl, rfl, rfl, by decide +kernel⟩⟩, ⟨⟨_, rfl, rfl, rfl, rfl, by decide +kernel⟩⟩, ⟨⟨_, rfl, rfl, rfl, rfl, by decide +kernel⟩⟩, ⟨⟨_, rfl, rfl, rfl, rfl, by decide +kernel⟩⟩, ⟨⟨_, rfl, rfl, rfl, rfl, by decide +kernel⟩⟩, ⟨⟨_, rfl, rfl, rfl, rfl, by decide +kernel⟩⟩, ⟨⟨_, rfl, rfl, rfl, rfl, by decide +kernel⟩⟩, ⟨⟨_, rfl, rfl, rfl, rfl, by decide +kernel⟩⟩⟩ rfl (by decide +kernel) rfl (by decide +kernel) rfl rfl (hb1.cellv rfl) (hb1.cellv rfl) (hb1.cellv rfl) (hb1.cellv rfl) (hb1.cellv rfl) (fun w w' v hm h => h.keep hm) (fun w z xs cs v h hb => h.store hb) (fun w v h => h.agg) (fun W _ => three_any W) (fun W hW => (HA W _ (hv1.keep hW)).mono fun e w' ⟨v', h1, h2, h3⟩ => ⟨v', h1, h2.early (by rw [hW0]; have := hM.size; have := hW.size; omega), h3⟩) ?_
  intro f w3 g2 cells hm2 hz hBz hCz
  simp only [puts, Act.put, List.setIfInBounds_toArray, List.set_cons_succ, List.set_cons_zero]
  obtain ⟨a2, k2, hb2, hn2⟩ : ∃ ao cap, Bk w3 g2 26 #[.int .i64 9, .int .i64 1, .int .i64 10, .int .i64 2, .slice ao 2 cap] ∧ Cn W0 w3 (.agg #[.int .i64 9, .int .i64 1, .int .i64 10, .int .i64 2, .slice ao 2 cap]) c2 := (Cb.of hBz hCz).form
  have hv2 := hn2.cv
  clear hn2 hBz hCz hz HA
  replace hM := hM.and hm2
  replace hb1 := hb1.mod hm2 (fun h => h)
  replace hv1 := hv1.keep hm2
  clear hm2
  have d0 := hb2.cellv (j := 0) rfl
  have d1 := hb2.cellv (j := 1) rfl
  have d2 := hb2.cellv (j := 2) rfl
  have d3 := hb2.cellv (j := 3) rfl
  have d4 := hb2.cellv (j := 4) rfl
  go_wp2_with (fail)
  refine (HP3 _ _ hv2).mono ?_
  rintro e w3v ⟨v3, rfl, hc3, hm3⟩
  clear d0 d1 d2 d3 d4 HP3
  obtain ⟨a3, k3, rfl, hr3, hw3⟩ : ∃ ao cap, v3 = .agg #[.int .i64 9, .int .i64 1, .int .i64 10, .int .i64 3, .slice ao 2 cap] ∧ RE w3v (.slice ao 2 cap) [e1, e3] ∧ Nw _ (.slice ao 2 cap) := hc3.form
  clear hr3 hw3
  have hv3 := hc3.cv
  clear hc3
  go_upto_region 4 with fail
  obtain ⟨X3, hX3⟩ : ∃ W, W = w3v.alloc (.cells #[.int .i64 9, .int .i64 1, .int .i64 10, .int .i64 3, .slice a3 2 k3] 26) := ⟨_, rfl⟩
  obtain ⟨g3, hg3⟩ : ∃ g, g = w3v.heap.size := ⟨_, rfl⟩
  have hq3 : Mod (fun _ => False) w3v X3 := by rw [hX3]; exact (Mod.refl _ w3v).alloc _
  have hb3 : Bk X3 g3 26 #[.int .i64 9, .int .i64 1, .int .i64 10, .int .i64 3, .slice a3 2 k3] := by rw [hX3, hg3]; exact Bk.new w3v _ _
  rw [← hX3, ← hg3]
  replace hv3 := hv3.keep hq3
  replace hm3 := hm3.and hq3
  replace hM := hM.and hm3
  replace hb1 := hb1.mod hm3 (fun h => h)
  replace hv1 := hv1.keep hm3
  replace hb2 := hb2.mod hm3 (fun h => h)
  replace hv2 := hv2.keep hm3
  clear hX3 hq3 hg3 hm3
  have d0 := hb3.cellv (j := 0) rfl
  have d1 := hb3.cellv (j := 1) rfl
  have d2 := hb3.cellv (j := 2) rfl
  have d3 := hb3.cellv (j := 3) rfl
  have d4 := hb3.cellv (j := 4) rfl
  go_wp2_with (fail)
  refine (HP4 _ _ hv3).mono ?_
  rintro e w4v ⟨v4, rfl, hc4, hm4⟩
  clear d0 d1 d2 d3 d4 HP4
  obtain ⟨a4, k4, rfl, hr4, hw4⟩ : ∃ ao cap, v4 = .agg #[.int .i64 9, .int .i64 1, .int .i64 10, .int .i64 4, .slice ao 2 cap] ∧ RE w4v (.slice ao 2 cap) [e1, e3] ∧ Nw _ (.slice ao 2 cap) := hc4.form
  clear hr4 hw4
  have hv4 := hc4.cv
  clear hc4
  go_upto_region 5 with fail
  obtain ⟨X4, hX4⟩ : ∃ W, W = w4v.alloc (.cells #[.int .i64 9, .int .i64 1, .int .i64 10, .int .i64 4, .slice a4 2 k4] 26) := ⟨_, rfl⟩
  obtain ⟨g4, hg4⟩ : ∃ g, g = w4v.heap.size := ⟨_, rfl⟩
  have hq4 : Mod (fun _ => False) w4v X4 := by rw [hX4]; exact (Mod.refl _ w4v).alloc _
  have hb4 : Bk X4 g4 26 #[.int .i64 9, .int .i64 1, .int .i64 10, .int .i64 4, .slice a4 2 k4] := by rw [hX4, hg4]; exact Bk.new w4v _ _
  rw [← hX4, ← hg4]
  replace hv4 := hv4.keep hq4
  replace hm4 := hm4.and hq4
  replace hM := hM.and hm4
  replace hb1 := hb1.mod hm4 (fun h => h)
  replace hv1 := hv1.keep hm4
  replace hb2 := hb2.mod hm4 (fun h => h)
  replace hv2 := hv2.keep hm4
  replace hb3 := hb3.mod hm4 (fun h => h)
  replace hv3 := hv3.keep hm4
  clear hX4 hq4 hg4 hm4
  go_wp2_with (fail)
  refine (HN8 _).mono ?_
  rintro e w8v ⟨v8, rfl, hc8, hm8⟩
  clear HN8
  obtain ⟨a8, k8, rfl, hr8, hw8⟩ : ∃ ao cap, v8 = .agg #[.int .i64 9, .int .i64 8, .int .i64 256, .int .i64 1, .slice ao 1 cap] ∧ RE w8v (.slice ao 1 cap) [e8] ∧ Nw _ (.slice ao 1 cap) := hc8.form
  clear hr8 hw8
  have hv8 := hc8.cv
  clear hc8
  go_upto_region 6 with fail
  obtain ⟨X8, hX8⟩ : ∃ W, W = w8v.alloc (.cells #[.int .i64 9, .int .i64 8, .int .i64 256, .int .i64 1, .slice a8 1 k8] 26) := ⟨_, rfl⟩
  obtain ⟨g8, hg8⟩ : ∃ g, g = w8v.heap.size := ⟨_, rfl⟩
  have hq8 : Mod (fun _ => False) w8v X8 := by rw [hX8]; exact (Mod.refl _ w8v).alloc _
  have hb8 : Bk X8 g8 26 #[.int .i64 9, .int .i64 8, .int .i64 256, .int .i64 1, .slice a8 1 k8] := by rw [hX8, hg8]; exact Bk.new w8v _ _
  rw [← hX8, ← hg8]
  replace hv8 := hv8.keep hq8
  replace hm8 := hm8.and hq8
  replace hM := hM.and hm8
  replace hb1 := hb1.mod hm8 (fun h => h)
  replace hv1 := hv1.keep hm8
  replace hb2 := hb2.mod hm8 (fun h => h)
  replace hv2 := hv2.keep hm8
  replace hb3 := hb3.mod hm8 (fun h => h)
  replace hv3 := hv3.keep hm8
  replace hb4 := hb4.mod hm8 (fun h => h)
  replace hv4 := hv4.keep hm8
  clear hX8 hq8 hg8 hm8
  have d0 := hb4.cellv (j := 0) rfl
  have d1 := hb4.cellv (j := 1) rfl
  have d2 := hb4.cellv (j := 2) rfl
  have d3 := hb4.cellv (j := 3) rfl
  have d4 := hb4.cellv (j := 4) rfl
  go_wp2_with (fail)
  refine (HV4 _ _ hv4).mono ?_
  rintro e y1 ⟨rfl, hy1⟩
  clear d0 d1 d2 d3 d4 HV4
  replace hM := hM.and hy1
  replace hb1 := hb1.mod hy1 (fun h => h)
  replace hv1 := hv1.keep hy1
  replace hb2 := hb2.mod hy1 (fun h => h)
  replace hv2 := hv2.keep hy1
  replace hb3 := hb3.mod hy1 (fun h => h)
  replace hv3 := hv3.keep hy1
  replace hb4 := hb4.mod hy1 (fun h => h)
  replace hv4 := hv4.keep hy1
  replace hb8 := hb8.mod hy1 (fun h => h)
  replace hv8 := hv8.keep hy1
  clear hy1
  have d0 := hb8.cellv (j := 0) rfl
  have d1 := hb8.cellv (j := 1) rfl
  have d2 := hb8.cellv (j := 2) rfl
  have d3 := hb8.cellv (j := 3) rfl
  have d4 := hb8.cellv (j := 4) rfl
  go_wp2_with (fail)
  refine (HV8 _ _ hv8).mono ?_
  rintro e y2 ⟨rfl, hy2⟩
  clear d0 d1 d2 d3 d4 HV8
  replace hM := hM.and hy2
  replace hb1 := hb1.mod hy2 (fun h => h)
  replace hv1 := hv1.keep hy2
  replace hb2 := hb2.mod hy2 (fun h => h)
  replace hv2 := hv2.keep hy2
  replace hb3 := hb3.mod hy2 (fun h => h)
  replace hv3 := hv3.keep hy2
  replace hb4 := hb4.mod hy2 (fun h => h)
  replace hv4 := hv4.keep hy2
  replace hb8 := hb8.mod hy2 (fun h => h)
  replace hv8 := hv8.keep hy2
  clear hy2
  have d0 := hb8.cellv (j := 0) rfl
  have d1 := hb8.cellv (j := 1) rfl
  have d2 := hb8.cellv (j := 2) rfl
  have d3 := hb8.cellv (j := 3) rfl
  have d4 := hb8.cellv (j := 4) rfl
  go_wp2_with (fail)
  refine (HS8 _ _ hv8).mono ?_
  rintro e y3 ⟨rfl, hy3⟩
  clear d0 d1 d2 d3 d4 HS8
  replace hM := hM.and hy3
  replace hb1 := hb1.mod hy3 (fun h => h)
  replace hv1 := hv1.keep hy3
  replace hb2 := hb2.mod hy3 (fun h => h)
  replace hv2 := hv2.keep hy3
  replace hb3 := hb3.mod hy3 (fun h => h)
  replace hv3 := hv3.keep hy3
  replace hb4 := hb4.mod hy3 (fun h => h)
  replace hv4 := hv4.keep hy3
  replace hb8 := hb8.mod hy3 (fun h => h)
  replace hv8 := hv8.keep hy3
  clear hy3
  go_wp2_with (fail)
  refine (one_any _).mono ?_
  rintro e y4 ⟨rfl, hy4⟩
  replace hM := hM.and hy4
  replace hb1 := hb1.mod hy4 (fun h => h)
  replace hv1 := hv1.keep hy4
  replace hb2 := hb2.mod hy4 (fun h => h)
  replace hv2 := hv2.keep hy4
  replace hb3 := hb3.mod hy4 (fun h => h)
  replace hv3 := hv3.keep hy4
  replace hb4 := hb4.mod hy4 (fun h => h)
  replace hv4 := hv4.keep hy4
  replace hb8 := hb8.mod hy4 (fun h => h)
  replace hv8 := hv8.keep hy4
  clear hy4
  go_upto_region 9 with fail
  obtain ⟨Y5, hY5⟩ : ∃ W, W = y4.alloc (.cells #[.int .i64 1, .int .i64 2, .int .i64 1, .int .i64 3, .int .i64 4, .int .i64 5] 28) := ⟨_, rfl⟩
  obtain ⟨gb, hgb⟩ : ∃ g, g = y4.heap.size := ⟨_, rfl⟩
  have hy5 : Mod (fun _ => False) y4 Y5 := by rw [hY5]; exact (Mod.refl _ y4).alloc _
  have hbE : Bk Y5 gb 28 #[.int .i64 1, .int .i64 2, .int .i64 1, .int .i64 3, .int .i64 4, .int .i64 5] := by rw [hY5, hgb]; exact Bk.new y4 _ _
  have hle : y4.heap.size ≤ gb := by omega
  rw [← hY5, ← hgb]
  have t3 : Y5.cell? ⟨gb, 3, none⟩ = some (.int .i64 3) := hbE.cellv (j := 3) rfl
  have f3 := hbE.frz 3
  have hbF : Bk (Y5.setCell ⟨gb, 3, none⟩ (.int .i64 5)) gb 28 #[.int .i64 1, .int .i64 2, .int .i64 1, .int .i64 5, .int .i64 4, .int .i64 5] := hbE.set 3 (.int .i64 5)
  have hy6 := (Mod.refl (fun i => i = gb) Y5).setCell ⟨gb, 3, none⟩ (.int .i64 5) (.inl rfl)
  have hy7 : Mod (fun _ => False) y4 (Y5.setCell ⟨gb, 3, none⟩ (.int .i64 5)) := hy5.trans hy6 (V := fun _ => False) (fun _ _ h => h) (fun i hi e => by omega)
  replace hv1 := hv1.past hle hy5 hy6
  replace hb1 := hb1.mod hy7 (fun h => h)
  replace hv2 := hv2.past hle hy5 hy6
  replace hb2 := hb2.mod hy7 (fun h => h)
  replace hv3 := hv3.past hle hy5 hy6
  replace hb3 := hb3.mod hy7 (fun h => h)
  replace hv4 := hv4.past hle hy5 hy6
  replace hb4 := hb4.mod hy7 (fun h => h)
  replace hv8 := hv8.past hle hy5 hy6
  replace hb8 := hb8.mod hy7 (fun h => h)
  replace hM := hM.and hy7
  clear hbE hy5 hy6 hy7 hle hY5 hgb
  go_upto_region 10 with fail
  generalize Y5.setCell ⟨gb, 3, none⟩ (.int .i64 5) = y6 at *
  clear t3 f3
  have d1_0 := hb1.cellv (j := 0) rfl
  have d1_1 := hb1.cellv (j := 1) rfl
  have d1_2 := hb1.cellv (j := 2) rfl
  have d1_3 := hb1.cellv (j := 3) rfl
  have d1_4 := hb1.cellv (j := 4) rfl
  have d2_0 := hb2.cellv (j := 0) rfl
  have d2_1 := hb2.cellv (j := 1) rfl
  have d2_2 := hb2.cellv (j := 2) rfl
  have d2_3 := hb2.cellv (j := 3) rfl
  have d2_4 := hb2.cellv (j := 4) rfl
  have d3_0 := hb3.cellv (j := 0) rfl
  have d3_1 := hb3.cellv (j := 1) rfl
  have d3_2 := hb3.cellv (j := 2) rfl
  have d3_3 := hb3.cellv (j := 3) rfl
  have d3_4 := hb3.cellv (j := 4) rfl
  have d4_0 := hb4.cellv (j := 0) rfl
  have d4_1 := hb4.cellv (j := 1) rfl
  have d4_2 := hb4.cellv (j := 2) rfl
  have d4_3 := hb4.cellv (j := 3) rfl
  have d4_4 := hb4.cellv (j := 4) rfl
  have d8_0 := hb8.cellv (j := 0) rfl
  have d8_1 := hb8.cellv (j := 1) rfl
  have d8_2 := hb8.cellv (j := 2) rfl
  have d8_3 := hb8.cellv (j := 3) rfl
  have d8_4 := hb8.cellv (j := 4) rfl
  go_upto_region 11 with fail
  clear d1_0 d1_1 d1_2 d1_3 d1_4
  clear d2_0 d2_1 d2_2 d2_3 d2_4
  clear d3_0 d3_1 d3_2 d3_3 d3_4
  clear d4_0 d4_1 d4_2 d4_3 d4_4
  clear d8_0 d8_1 d8_2 d8_3 d8_4
  obtain ⟨y7, hy7⟩ : ∃ W, W = y6.alloc (.cells #[.int .i64 9, .int .i64 1, .int .i64 10, .int .i64 1, .slice a1 1 k1, .int .i64 9, .int .i64 1, .int .i64 10, .int .i64 2, .slice a2 2 k2, .int .i64 9, .int .i64 1, .int .i64 10, .int .i64 3, .slice a3 2 k3, .int .i64 9, .int .i64 1, .int .i64 10, .int .i64 4, .slice a4 2 k4, .int .i64 9, .int .i64 8, .int .i64 256, .int .i64 1, .slice a8 1 k8, .int .i64 0, .int .i64 0, .int .i64 0, .int .i64 0, .slice none 0 0, .int .i64 9, .int .i64 1, .int .i64 10, .int .i64 (-1), .slice none 0 0, .int .i64 9, .int .i64 1, .int .i64 1048576, .int .i64 1, .slice none 0 0, .int .i64 9, .int .i64 1, .int .i64 3, .int .i64 1, .slice a1 1 k1, .int .i64 9, .int .i64 3, .int .i64 10, .int .i64 1, .slice a1 1 k1] 26) := ⟨_, rfl⟩
  obtain ⟨gl, hgl⟩ : ∃ g, g = y6.heap.size := ⟨_, rfl⟩
  have hq7 : Mod (fun _ => False) y6 y7 := by rw [hy7]; exact (Mod.refl _ y6).alloc _
  have hbL : Bk y7 gl 26 #[.int .i64 9, .int .i64 1, .int .i64 10, .int .i64 1, .slice a1 1 k1, .int .i64 9, .int .i64 1, .int .i64 10, .int .i64 2, .slice a2 2 k2, .int .i64 9, .int .i64 1, .int .i64 10, .int .i64 3, .slice a3 2 k3, .int .i64 9, .int .i64 1, .int .i64 10, .int .i64 4, .slice a4 2 k4, .int .i64 9, .int .i64 8, .int .i64 256, .int .i64 1, .slice a8 1 k8, .int .i64 0, .int .i64 0, .int .i64 0, .int .i64 0, .slice none 0 0, .int .i64 9, .int .i64 1, .int .i64 10, .int .i64 (-1), .slice none 0 0, .int .i64 9, .int .i64 1, .int .i64 1048576, .int .i64 1, .slice none 0 0, .int .i64 9, .int .i64 1, .int .i64 3, .int .i64 1, .slice a1 1 k1, .int .i64 9, .int .i64 3, .int .i64 10, .int .i64 1, .slice a1 1 k1] := by rw [hy7, hgl]; exact Bk.new y6 _ _
  rw [← hy7, ← hgl]
  replace hM := hM.and hq7
  replace hb1 := hb1.mod hq7 (fun h => h)
  replace hv1 := hv1.keep hq7
  replace hb2 := hb2.mod hq7 (fun h => h)
  replace hv2 := hv2.keep hq7
  replace hb3 := hb3.mod hq7 (fun h => h)
  replace hv3 := hv3.keep hq7
  replace hb4 := hb4.mod hq7 (fun h => h)
  replace hv4 := hv4.keep hq7
  replace hb8 := hb8.mod hq7 (fun h => h)
  replace hv8 := hv8.keep hq7
  replace hbF := hbF.mod hq7 (fun h => h)
  clear hq7 hy7 hgl
  have hsl1 : SlE y7 (.slice a1 1 k1) [e1] := hv1.sl
  have hsl0 : SlE y7 (.slice none 0 0) [] := SlE.nil y7
  have hcs : ∀ i : Nat, i < 10 → ∃ c ao cap, Lc y7 gl i c ao cap := by
    intro i hi
    have hcell : ∀ j v, (#[.int .i64 9, .int .i64 1, .int .i64 10, .int .i64 1, .slice a1 1 k1, .int .i64 9, .int .i64 1, .int .i64 10, .int .i64 2, .slice a2 2 k2, .int .i64 9, .int .i64 1, .int .i64 10, .int .i64 3, .slice a3 2 k3, .int .i64 9, .int .i64 1, .int .i64 10, .int .i64 4, .slice a4 2 k4, .int .i64 9, .int .i64 8, .int .i64 256, .int .i64 1, .slice a8 1 k8, .int .i64 0, .int .i64 0, .int .i64 0, .int .i64 0, .slice none 0 0, .int .i64 9, .int .i64 1, .int .i64 10, .int .i64 (-1), .slice none 0 0, .int .i64 9, .int .i64 1, .int .i64 1048576, .int .i64 1, .slice none 0 0, .int .i64 9, .int .i64 1, .int .i64 3, .int .i64 1, .slice a1 1 k1, .int .i64 9, .int .i64 3, .int .i64 10, .int .i64 1, .slice a1 1 k1] : Array Value)[j]? = some v → y7.cell? ⟨gl, j, none⟩ = some v := fun j v hj => hbL.cellv hj
    match i, hi with
    | 0, _ =>
      refine ⟨c1, a1, k1, ?_, hv1, ⟨by decide, by decide⟩, ⟨by decide, by decide⟩, by decide⟩
      intro j v hj
      match j, hj with
      | 0, hj => exact hcell (0 * 5 + 0) v hj
      | 1, hj => exact hcell (0 * 5 + 1) v hj
      | 2, hj => exact hcell (0 * 5 + 2) v hj
      | 3, hj => exact hcell (0 * 5 + 3) v hj
      | 4, hj => exact hcell (0 * 5 + 4) v hj
    | 1, _ =>
      refine ⟨c2, a2, k2, ?_, hv2, ⟨by decide, by decide⟩, ⟨by decide, by decide⟩, by decide⟩
      intro j v hj
      match j, hj with
      | 0, hj => exact hcell (1 * 5 + 0) v hj
      | 1, hj => exact hcell (1 * 5 + 1) v hj
      | 2, hj => exact hcell (1 * 5 + 2) v hj
      | 3, hj => exact hcell (1 * 5 + 3) v hj
      | 4, hj => exact hcell (1 * 5 + 4) v hj
    | 2, _ =>
      refine ⟨c3, a3, k3, ?_, hv3, ⟨by decide, by decide⟩, ⟨by decide, by decide⟩, by decide⟩
      intro j v hj
      match j, hj with
      | 0, hj => exact hcell (2 * 5 + 0) v hj
      | 1, hj => exact hcell (2 * 5 + 1) v hj
      | 2, hj => exact hcell (2 * 5 + 2) v hj
      | 3, hj => exact hcell (2 * 5 + 3) v hj
      | 4, hj => exact hcell (2 * 5 + 4) v hj
    | 3, _ =>
      refine ⟨c4, a4, k4, ?_, hv4, ⟨by decide, by decide⟩, ⟨by decide, by decide⟩, by decide⟩
      intro j v hj
      match j, hj with
      | 0, hj => exact hcell (3 * 5 + 0) v hj
      | 1, hj => exact hcell (3 * 5 + 1) v hj
      | 2, hj => exact hcell (3 * 5 + 2) v hj
      | 3, hj => exact hcell (3 * 5 + 3) v hj
      | 4, hj => exact hcell (3 * 5 + 4) v hj
    | 4, _ =>
      refine ⟨c8, a8, k8, ?_, hv8, ⟨by decide, by decide⟩, ⟨by decide, by decide⟩, by decide⟩
      intro j v hj
      match j, hj with
      | 0, hj => exact hcell (4 * 5 + 0) v hj
      | 1, hj => exact hcell (4 * 5 + 1) v hj
      | 2, hj => exact hcell (4 * 5 + 2) v hj
      | 3, hj => exact hcell (4 * 5 + 3) v hj
      | 4, hj => exact hcell (4 * 5 + 4) v hj
    | 5, _ =>
      refine ⟨Cm.zero, none, 0, ?_, ⟨_, _, rfl, hsl0⟩, ⟨by decide, by decide⟩, ⟨by decide, by decide⟩, by decide⟩
      intro j v hj
      match j, hj with
      | 0, hj => exact hcell (5 * 5 + 0) v hj
      | 1, hj => exact hcell (5 * 5 + 1) v hj
      | 2, hj => exact hcell (5 * 5 + 2) v hj
      | 3, hj => exact hcell (5 * 5 + 3) v hj
      | 4, hj => exact hcell (5 * 5 + 4) v hj
    | 6, _ =>
      refine ⟨(⟨9, 1, 10, -1, []⟩ : Cm), none, 0, ?_, ⟨_, _, rfl, hsl0⟩, ⟨by decide, by decide⟩, ⟨by decide, by decide⟩, by decide⟩
      intro j v hj
      match j, hj with
      | 0, hj => exact hcell (6 * 5 + 0) v hj
      | 1, hj => exact hcell (6 * 5 + 1) v hj
      | 2, hj => exact hcell (6 * 5 + 2) v hj
      | 3, hj => exact hcell (6 * 5 + 3) v hj
      | 4, hj => exact hcell (6 * 5 + 4) v hj
    | 7, _ =>
      refine ⟨(⟨9, 1, 1048576, 1, []⟩ : Cm), none, 0, ?_, ⟨_, _, rfl, hsl0⟩, ⟨by decide, by decide⟩, ⟨by decide, by decide⟩, by decide⟩
      intro j v hj
      match j, hj with
      | 0, hj => exact hcell (7 * 5 + 0) v hj
      | 1, hj => exact hcell (7 * 5 + 1) v hj
      | 2, hj => exact hcell (7 * 5 + 2) v hj
      | 3, hj => exact hcell (7 * 5 + 3) v hj
      | 4, hj => exact hcell (7 * 5 + 4) v hj
    | 8, _ =>
      refine ⟨(⟨9, 1, 3, 1, [e1]⟩ : Cm), a1, k1, ?_, ⟨_, _, rfl, hsl1⟩, ⟨by decide, by decide⟩, ⟨by decide, by decide⟩, by decide⟩
      intro j v hj
      match j, hj with
      | 0, hj => exact hcell (8 * 5 + 0) v hj
      | 1, hj => exact hcell (8 * 5 + 1) v hj
      | 2, hj => exact hcell (8 * 5 + 2) v hj
      | 3, hj => exact hcell (8 * 5 + 3) v hj
      | 4, hj => exact hcell (8 * 5 + 4) v hj
    | 9, _ =>
      refine ⟨(⟨9, 3, 10, 1, [e1]⟩ : Cm), a1, k1, ?_, ⟨_, _, rfl, hsl1⟩, ⟨by decide, by decide⟩, ⟨by decide, by decide⟩, by decide⟩
      intro j v hj
      match j, hj with
      | 0, hj => exact hcell (9 * 5 + 0) v hj
      | 1, hj => exact hcell (9 * 5 + 1) v hj
      | 2, hj => exact hcell (9 * 5 + 2) v hj
      | 3, hj => exact hcell (9 * 5 + 3) v hj
      | 4, hj => exact hcell (9 * 5 + 4) v hj
  have HB : Hid (Bk y7 gb 28 #[.int .i64 1, .int .i64 2, .int .i64 1, .int .i64 5, .int .i64 4, .int .i64 5]) := hbF
  have HLC : Hid (∀ i : Nat, i < 10 → ∃ c ao cap, Lc y7 gl i c ao cap) := hcs
  have HM7 : Hid (Mod (fun _ => False) w y7) := hM
  have x0 : y7.cell? ⟨gb, 0, none⟩ = some (.int .i64 1) := hbF.cellv (j := 0) rfl
  clear hcs hsl1 hsl0 hbL hbF hM hv1 hv2 hv3 hv4 hv8 hb1 hb2 hb3 hb4 hb8 x0
  have HFB : ∀ W, Mod (fun _ => False) y7 W → (W.cell? ⟨gb, 0, none⟩ = some (.int .i64 1) ∧ W.cell? ⟨gb, 1, none⟩ = some (.int .i64 2) ∧ W.cell? ⟨gb, 2, none⟩ = some (.int .i64 1) ∧ W.cell? ⟨gb, 3, none⟩ = some (.int .i64 5) ∧ W.cell? ⟨gb, 4, none⟩ = some (.int .i64 4) ∧ W.cell? ⟨gb, 5, none⟩ = some (.int .i64 5)) := fun W hW => ⟨(HB.out.mod hW (fun h => h)).cellv (j := 0) rfl, (HB.out.mod hW (fun h => h)).cellv (j := 1) rfl, (HB.out.mod hW (fun h => h)).cellv (j := 2) rfl, (HB.out.mod hW (fun h => h)).cellv (j := 3) rfl, (HB.out.mod hW (fun h => h)).cellv (j := 4) rfl, (HB.out.mod hW (fun h => h)).cellv (j := 5) rfl⟩
  have hmod := (Mod.refl (fun _ => False) y7).drew
  obtain ⟨x0, x1, x2, x3, x4, x5⟩ := HFB _ hmod
  go_region_held3 (fun U => U.cell? ⟨gb, 0, none⟩ = some (.int .i64 1) ∧ U.cell? ⟨gb, 1, none⟩ = some (.int .i64 2) ∧ U.cell? ⟨gb, 2, none⟩ = some (.int .i64 1) ∧ U.cell? ⟨gb, 3, none⟩ = some (.int .i64 5) ∧ U.cell? ⟨gb, 4, none⟩ = some (.int .i64 4) ∧ U.cell? ⟨gb, 5, none⟩ = some (.int .i64 5)) (first | with_reducible exact ⟨x0, x1, x2, x3, x4, x5⟩ | with_reducible exact HFB _ hmod | go_keep) (first
    | (go_at_call 29; with_reducible refine (one_any _).mono ?_; rintro e wd ⟨rfl, hmx⟩; replace hmod := hmod.and hmx; obtain ⟨x0, x1, x2, x3, x4, x5⟩ := HFB _ hmod)
    | (go_at_call 30; with_reducible refine (three_any _).mono ?_; rintro e we ⟨rfl, hmx⟩; replace hmod := hmod.and hmx; obtain ⟨x0, x1, x2, x3, x4, x5⟩ := HFB _ hmod))
  obtain ⟨y8, hy8⟩ : ∃ W, W = we.alloc (.cells #[.int .i64 1, .int .i64 2, .int .i64 1, .int .i64 3, .int .i64 4, .int .i64 5, .int .i64 3, .int .i64 2, .int .i64 1, .int .i64 2, .int .i64 6, .int .i64 8, .int .i64 1, .int .i64 2, .int .i64 1, .int .i64 5, .int .i64 4, .int .i64 5, .int .i64 0, .int .i64 0, .int .i64 0, .int .i64 0, .int .i64 0, .int .i64 0, .int .i64 8, .int .i64 1, .int .i64 8, .int .i64 0, .int .i64 0, .int .i64 0] 28) := ⟨_, rfl⟩
  obtain ⟨ge, hge⟩ : ∃ g, g = we.heap.size := ⟨_, rfl⟩
  have hq8 : Mod (fun _ => False) we y8 := by rw [hy8]; exact (Mod.refl _ we).alloc _
  have hbE : Bk y8 ge 28 #[.int .i64 1, .int .i64 2, .int .i64 1, .int .i64 3, .int .i64 4, .int .i64 5, .int .i64 3, .int .i64 2, .int .i64 1, .int .i64 2, .int .i64 6, .int .i64 8, .int .i64 1, .int .i64 2, .int .i64 1, .int .i64 5, .int .i64 4, .int .i64 5, .int .i64 0, .int .i64 0, .int .i64 0, .int .i64 0, .int .i64 0, .int .i64 0, .int .i64 8, .int .i64 1, .int .i64 8, .int .i64 0, .int .i64 0, .int .i64 0] := by rw [hy8, hge]; exact Bk.new we _ _
  rw [← hy8, ← hge]
  have hm8 := hmod.and hq8
  have HM8 : Hid (Mod (fun _ => False) w y8) := HM7.out.and hm8
  have HL8 : Hid (∀ i : Nat, i < 10 → ∃ c ao cap, Lc y8 gl i c ao cap) := fun i hi => by
    obtain ⟨c, ao, cap, h⟩ := HLC.out i hi
    exact ⟨c, ao, cap, h.keep hm8⟩
  have HE8 : Hid (∀ k : Nat, k < 5 → ∃ x : Ey, ∀ j v, (eyc x)[j]? = some v → y8.cell? ⟨ge, k * 6 + j, none⟩ = some v) := by
    intro k hk
    have hcell : ∀ j v, (#[.int .i64 1, .int .i64 2, .int .i64 1, .int .i64 3, .int .i64 4, .int .i64 5, .int .i64 3, .int .i64 2, .int .i64 1, .int .i64 2, .int .i64 6, .int .i64 8, .int .i64 1, .int .i64 2, .int .i64 1, .int .i64 5, .int .i64 4, .int .i64 5, .int .i64 0, .int .i64 0, .int .i64 0, .int .i64 0, .int .i64 0, .int .i64 0, .int .i64 8, .int .i64 1, .int .i64 8, .int .i64 0, .int .i64 0, .int .i64 0] : Array Value)[j]? = some v → y8.cell? ⟨ge, j, none⟩ = some v := fun j v hj => hbE.cellv hj
    match k, hk with
    | 0, _ =>
      refine ⟨e1, fun j v hj => ?_⟩
      match j, hj with
      | 0, hj => exact hcell (0 * 6 + 0) v hj
      | 1, hj => exact hcell (0 * 6 + 1) v hj
      | 2, hj => exact hcell (0 * 6 + 2) v hj
      | 3, hj => exact hcell (0 * 6 + 3) v hj
      | 4, hj => exact hcell (0 * 6 + 4) v hj
      | 5, hj => exact hcell (0 * 6 + 5) v hj
    | 1, _ =>
      refine ⟨e3, fun j v hj => ?_⟩
      match j, hj with
      | 0, hj => exact hcell (1 * 6 + 0) v hj
      | 1, hj => exact hcell (1 * 6 + 1) v hj
      | 2, hj => exact hcell (1 * 6 + 2) v hj
      | 3, hj => exact hcell (1 * 6 + 3) v hj
      | 4, hj => exact hcell (1 * 6 + 4) v hj
      | 5, hj => exact hcell (1 * 6 + 5) v hj
    | 2, _ =>
      refine ⟨bad1, fun j v hj => ?_⟩
      match j, hj with
      | 0, hj => exact hcell (2 * 6 + 0) v hj
      | 1, hj => exact hcell (2 * 6 + 1) v hj
      | 2, hj => exact hcell (2 * 6 + 2) v hj
      | 3, hj => exact hcell (2 * 6 + 3) v hj
      | 4, hj => exact hcell (2 * 6 + 4) v hj
      | 5, hj => exact hcell (2 * 6 + 5) v hj
    | 3, _ =>
      refine ⟨⟨0, 0, 0, 0, 0, 0⟩, fun j v hj => ?_⟩
      match j, hj with
      | 0, hj => exact hcell (3 * 6 + 0) v hj
      | 1, hj => exact hcell (3 * 6 + 1) v hj
      | 2, hj => exact hcell (3 * 6 + 2) v hj
      | 3, hj => exact hcell (3 * 6 + 3) v hj
      | 4, hj => exact hcell (3 * 6 + 4) v hj
      | 5, hj => exact hcell (3 * 6 + 5) v hj
    | 4, _ =>
      refine ⟨⟨8, 1, 8, 0, 0, 0⟩, fun j v hj => ?_⟩
      match j, hj with
      | 0, hj => exact hcell (4 * 6 + 0) v hj
      | 1, hj => exact hcell (4 * 6 + 1) v hj
      | 2, hj => exact hcell (4 * 6 + 2) v hj
      | 3, hj => exact hcell (4 * 6 + 3) v hj
      | 4, hj => exact hcell (4 * 6 + 4) v hj
      | 5, hj => exact hcell (4 * 6 + 5) v hj
  clear hmod hq8 hy8 hge hbE hm8 HFB x0 x1 x2 x3 x4 x5 HB HLC HM7
  go_wp2_with (fail)
  go_loopw [14] (fun i wr => ∃ k : Nat, i = .int .i64 (k : Int) ∧ k ≤ 10 ∧ Hid (Mod (fun _ => False) y8 wr)) (fun i _ => 10 - (intOf i).toNat)
  case atStart => exact ⟨0, rfl, by omega, Mod.refl _ _⟩
  case round =>
    obtain ⟨i, rfl, hi, hMi⟩ := hrel
    by_cases hlt : i < 10
    · have hi0 : (0 : Int) ≤ (i : Int) := by omega
      have hi1 : (i : Int) < 10 := by omega
      have HI : Hid (i < 10) := hlt
      obtain ⟨ws, ews⟩ : ∃ W, W = wr := ⟨_, rfl⟩
      subst ews
      clear hi hlt
      go_wp2_with (fail)
      go_loopw [15] (fun i wr => ∃ k : Nat, i = .int .i64 (k : Int) ∧ k ≤ 5 ∧ Hid (Mod (fun _ => False) y8 wr)) (fun i _ => 5 - (intOf i).toNat)
      case atStart => exact ⟨0, rfl, by omega, hMi⟩
      case round =>
        obtain ⟨k, rfl, hk, hMk⟩ := hrel
        obtain ⟨c, cao, ccap, hL⟩ := HL8.out i HI.out
        have hLk := hL.keep hMk.out
        obtain ⟨rs, rr, mm, hp, ce⟩ := c
        by_cases hlk : k < 5
        · have hk0 : (0 : Int) ≤ (k : Int) := by omega
          have hk1 : (k : Int) < 5 := by omega
          have HK : Hid (k < 5) := hlk
          obtain ⟨⟨z0, z1, z2, z3, z4, z5⟩, hE⟩ := HE8.out k hlk
          have hEk : ∀ j v, (eyc ⟨z0, z1, z2, z3, z4, z5⟩)[j]? = some v → wr.cell? ⟨ge, k * 6 + j, none⟩ = some v := fun j v hj => hMk.out.cell (hE j v hj) (fun h => h)
          have HMK : Hid (Mod (fun _ => False) y8 wr) := hMk
          clear hk hlk hL hE hMi
          go_upto_region 18 with fail
          refine rn18 gl 0 10 10 ge 0 5 5 i k rs rr mm hp cao ce.length ccap z0 z1 z2 z3 z4 z5 ⟨⟨⟨_, rfl, rfl, rfl, rfl, by decide +kernel⟩⟩, ⟨⟨_, rfl, rfl, rfl, rfl, by decide +kernel⟩⟩, ⟨⟨_, rfl, rfl, rfl, rfl, by decide +kernel⟩⟩, ⟨⟨_, rfl, rfl, rfl, rfl, by decide +kernel⟩⟩, ⟨⟨_, rfl, rfl, rfl, rfl, by decide +kernel⟩⟩, ⟨⟨_, rfl, rfl, rfl, rfl, by decide +kernel⟩⟩, ⟨⟨_, rfl, rfl, rfl, rfl, by decide +kernel⟩⟩, ⟨⟨_, rfl, rfl, rfl, rfl, by decide +kernel⟩⟩, ⟨⟨_, rfl, rfl, rfl, rfl, by decide +kernel⟩⟩, ⟨⟨_, rfl, rfl, rfl, rfl, by decide +kernel⟩⟩, ⟨⟨_, rfl, rfl, rfl, rfl, by decide +kernel⟩⟩, ⟨⟨_, rfl, rfl, rfl, rfl, by decide +kernel⟩⟩, ⟨⟨_, rfl, rfl, rfl, rfl, by decide +kernel⟩⟩, ⟨⟨_, rfl, rfl, rfl, rfl, by decide +kernel⟩⟩, ⟨⟨_, rfl, rfl, rfl, rfl, by decide +kernel⟩⟩, ⟨⟨_, rfl, rfl, rfl, rfl, by decide +kernel⟩⟩, ⟨⟨_, rfl, rfl, rfl, rfl, by decide +kernel⟩⟩, ⟨⟨_, rfl, rfl, rfl, rfl, by decide +kernel⟩⟩, ⟨⟨_, rfl, rfl, rfl, rfl, by decide +kernel⟩⟩, ⟨⟨_, rfl, rfl, rfl, rfl, by decide +kernel⟩⟩, ⟨⟨_, rfl, rfl, rfl, rfl, by decide +kernel⟩⟩, ⟨⟨_, rfl, rfl, rfl, rfl, by decide +kernel⟩⟩, ⟨⟨_, rfl, rfl, rfl, rfl, by decide +kernel⟩⟩, ⟨⟨_, rfl, rfl, rfl, rfl, by decide +kernel⟩⟩, ⟨⟨_, rfl, rfl, rfl, rfl, by decide +kernel⟩⟩, ⟨⟨_, rfl, rfl, rfl, rfl, by decide +kernel⟩⟩, ⟨⟨_, rfl, rfl, rfl, rfl, by decide +kernel⟩⟩, ⟨⟨_, rfl, rfl, rfl, rfl, by decide +kernel⟩⟩, ⟨⟨_, rfl, rfl, rfl, rfl, by decide +kernel⟩⟩, ⟨⟨_, rfl, rfl, rfl, rfl, by decide +kernel⟩⟩, ⟨⟨_, rfl, rfl, rfl, rfl, by decide +kernel⟩⟩, ⟨⟨_, rfl, rfl, rfl, rfl, by decide +kernel⟩⟩, ⟨⟨_, rfl, rfl, rfl, rfl, by decide +kernel⟩⟩, ⟨⟨_, rfl, rfl, rfl, rfl, by decide +kernel⟩⟩, ⟨⟨_, rfl, rfl, rfl, rfl, by decide +kernel⟩⟩, ⟨⟨_, rfl, rfl, rfl, rfl, by decide +kernel⟩⟩⟩ rfl (by decide +kernel) rfl (by decide +kernel) rfl rfl rfl rfl rfl (by rw [Nat.zero_add]; exact hLk.cell 0 _ rfl) (by rw [Nat.zero_add]; exact hLk.cell 1 _ rfl) (by rw [Nat.zero_add]; exact hLk.cell 2 _ rfl) (by rw [Nat.zero_add]; exact hLk.cell 3 _ rfl) (by rw [Nat.zero_add]; exact hLk.cell 4 _ rfl) (by rw [Nat.zero_add]; exact hEk 0 _ rfl) (by rw [Nat.zero_add]; exact hEk 1 _ rfl) (by rw [Nat.zero_add]; exact hEk 2 _ rfl) (by rw [Nat.zero_add]; exact hEk 3 _ rfl) (by rw [Nat.zero_add]; exact hEk 4 _ rfl) (by rw [Nat.zero_add]; exact hEk 5 _ rfl) hi1 hk1 (fun W hW => steps_walk _ ⟨rs, rr, mm, hp, ce⟩ ⟨z0, z1, z2, z3, z4, z5⟩ _ W (hLk.cv.keep hW) hLk.mem hLk.hop hLk.len) (fun W hW => steps_walk _ ⟨rs, rr, mm, hp, ce⟩ ⟨z0, z1, z2, z3, z4, z5⟩ _ W (hLk.cv.keep hW) hLk.mem hLk.hop hLk.len) (fun W hW => knows_walk _ ⟨rs, rr, mm, hp, ce⟩ _ _ W (hLk.cv.keep hW) hLk.mem hLk.hop) ?_
          intro f wk hmk
          simp only [puts, Act.put, List.setIfInBounds_toArray, List.set_cons_succ, List.set_cons_zero, Bool.not_true, Bool.or_self]
          have HMN : Hid (Mod (fun _ => False) y8 wk) := HMK.out.and hmk
          clear hmk hLk hEk
          go_wp2
          go_roundw
          case rel => exact ⟨k + 1, by go_num, HK.out, HMN⟩
          case measure =>
            have := HK.out
            simp [intOf]
            omega
        · have c0 : wr.cell? ⟨gl, i * 5, none⟩ = some (.int .i64 rs) := hLk.cell 0 _ rfl
          have c1 : wr.cell? ⟨gl, i * 5 + 1, none⟩ = some (.int .i64 rr) := hLk.cell 1 _ rfl
          have c2 : wr.cell? ⟨gl, i * 5 + 2, none⟩ = some (.int .i64 mm) := hLk.cell 2 _ rfl
          have c3 : wr.cell? ⟨gl, i * 5 + 3, none⟩ = some (.int .i64 hp) := hLk.cell 3 _ rfl
          have c4 : wr.cell? ⟨gl, i * 5 + 4, none⟩ = some (.slice cao ce.length ccap) := hLk.cell 4 _ rfl
          have hk5 : ¬ (k : Int) < 5 := by omega
          have HK := fun W h => kin_walk (.agg #[.int .i64 rs, .int .i64 rr, .int .i64 mm, .int .i64 hp, .slice cao ce.length ccap]) ⟨rs, rr, mm, hp, ce⟩ W h hLk.mem
          have HCV : Hid (Cv wr (.agg #[.int .i64 rs, .int .i64 rr, .int .i64 mm, .int .i64 hp, .slice cao ce.length ccap]) ⟨rs, rr, mm, hp, ce⟩) := hLk.cv
          clear hLk hL hMi hk hlk
          go_wp2_with (fail)
          refine (HK _ HCV.out).mono ?_
          rintro e wk ⟨rfl, hmk⟩
          have HMN : Hid (Mod (fun _ => False) y8 wk) := hMk.out.and hmk
          clear hmk HCV HK c0 c1 c2 c3 c4
          go_wp2
          go_roundw
          case rel => exact ⟨i + 1, by go_num, HI.out, HMN⟩
          case measure =>
            have := HI.out
            simp [intOf]
            omega
    · have hi1 : ¬ (i : Int) < 10 := by omega
      clear hi hlt
      go_wp2_with (fail)
      refine (awake_any _).mono ?_
      rintro e wz ⟨rfl, hmz⟩
      go_wp2
      go_ret
      exact ⟨rfl, (HM8.out.and hMi.out).and hmz⟩
namespace commitNames
open Go.ChangeShapes Go.WideShapes Go.ChangeAt Go.RowKit
set_option maxRecDepth 100000 in
theorem lifted (os : Os) (started : os.Started) (H : Type) (enc : TypeId × Value → H) :
    ReturnsInHanded {} Try.checked os 7 .any (Rows.commitNamesSpec.pre6 enc Try.prog Try.f7 Rows.commitNamesRow.domain false) (Rows.commitNamesSpec.post enc Try.prog Try.f7 false true false false) := by
  refine returnsInHanded_of_change_sized (C := Try.checked) own started (by kernel_rfl) Try.func7
    (ChangeSpec.witness6 (enc := enc) (C := Try.checked) false ⟨#[], #[], []⟩ 8 (by kernel_rfl) (by kernel_rfl) (by kernel_rfl) (by kernel_rfl)) ?_
  intro W base args ds gs before hval0 hW hcnd hsz0 _
  have hval : ∀ (j : Nat) t v, Try.f7.params[j]? = some t → args[j]? = some v → Value.okWide Try.prog W .any base t v := hval0
  have hsz : (DataW.weightsEach Try.prog (Try.f7.params.toList ++ Rows.commitNamesSpec.plain.varTypes Try.prog) (ds ++ gs)).all (· ≤ reachBytes) = true := hsz0
  have hW' := hW
  obtain ⟨p, q, hA0, hV, rfl, hfz, hnd⟩ := hW
  have hA : DataW.TrodAll enc Try.prog W 0 (fun _ => true) true Try.f7.params.toList args.toList ds p := hA0
  rw [Try.params7] at hA hval hsz
  obtain ⟨hargs, rfl, rfl⟩ := trodAll_nil hA
  obtain rfl : args = #[] := by cases args; simp_all
  obtain ⟨rfl, rfl⟩ := trodVars_none hV
  clear hA0 hval0
  refine (names_walk W).mono fun e W' ⟨he, hm⟩ => ?_
  subst he
  have bel : Below W.heap.size W W' := hm.below _ (Nat.le_refl _) (fun _ h => h.elim)
  exact ⟨_, rfl, _, _, _, [], _, [], hW', trodAll_mk1 (shut_bool Try.underlying4 _), trodAll_mk0, rfl, bel.frame _, fun h => by cases h⟩

theorem over : Rows.commitNamesRow.holds Try.pinned (OpenSpec.ofChange Rows.commitNamesSpec) :=
  OpenClaim.holds_of_wide 7 Try.f7 rfl rfl rfl rfl rfl rfl rfl ⟨rfl, rfl, rfl, rfl, rfl⟩ rfl rfl rfl rfl rfl (by kernel_rfl) Try.func7 (by kernel_rfl)
    (of_decide_eq_true (by kernel_rfl)) (by unfold Func.isWrapper; first | (rw [if_pos (by decide +kernel)]; kernel_rfl) | (rw [if_neg (by decide +kernel)]; exact ⟨rfl, rfl⟩))
    (fun os started H enc _ => lifted os started H enc)
end commitNames
theorem commitNames_holds : Rows.CommitNamesSaid := commitNames.over
end Go.Proofs.Ytlekmgjjjniomaa
