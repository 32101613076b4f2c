/- The laws' own functions: one, three, awake. No conditions. -/
import Derived.Test.YtlekmgjjjniomaaUi
import Derived.Test.YtlekmgjjjniomaaRgd
import Derived.Deep.CutBlock
namespace Go.Proofs.Ytlekmgjjjniomaa
open Go.RowKit
def e1 : Ey := ⟨1, 2, 1, 3, 4, 5⟩
def e3 : Ey := ⟨3, 2, 1, 2, 6, 8⟩
def c1 : Cm := ⟨9, 1, 10, 1, [e1]⟩
def c2 : Cm := ⟨9, 1, 10, 2, [e1, e3]⟩
def c3 : Cm := ⟨9, 1, 10, 3, [e1, e3]⟩
theorem new_c1 : newC 9 1 10 e1 = (c1, 0) := by
  unfold newC
  rw [if_pos (by decide +kernel)]
  rfl
theorem add_c2 : addC c1 e3 = (c2, 0) := by
  unfold addC
  rw [if_pos ⟨by decide +kernel, by decide +kernel⟩]
  rfl
theorem pas_c3 : pasC c2 = (c3, 0) := by
  unfold pasC
  rw [if_pos ⟨by decide +kernel, by decide +kernel⟩]
  rfl
theorem kin_c2 : kinC c2 2 1 = (10, 2, 6) := by decide +kernel
theorem vis_c1 : vis c1 3 = 1 := by decide +kernel
theorem vis_c2 : vis c2 1 = 2 := by decide +kernel
theorem st_c2 : stC c2 = 9 := by decide +kernel
theorem one_any (w : World) : Calls Try.prog 29 #[] w fun e w' => e = .returned (.agg #[.int .i64 1, .int .i64 2, .int .i64 1, .int .i64 3, .int .i64 4, .int .i64 5]) ∧ Mod (fun _ => False) w w' := by
  have HB : Hid (Bk _ _ _ _) := Bk.new w #[.int .i64 0, .int .i64 0, .int .i64 0, .int .i64 0, .int .i64 0, .int .i64 0] 28
  have hA := (Mod.refl (fun _ => False) w).alloc (.cells #[.int .i64 0, .int .i64 0, .int .i64 0, .int .i64 0, .int .i64 0, .int .i64 0] 28)
  go_enter Try.func29, Try.ntmps29
  go_wp2_with (refine wpList_store_row infoE rfl rfl _ _ rfl w.heap.size #[.int .i64 1, .int .i64 2, .int .i64 1, .int .i64 3, .int .i64 4, .int .i64 5] rfl rfl HB.out rfl rfl rfl ?_; intro wF hBF hMF)
  exact bodyPost_ret (resT infoE Try.underlying28 rfl rfl rfl hBF rfl) rfl ⟨rfl, hA.trans hMF (V := fun _ => False) (fun _ _ h => h) (fun q hq h => by omega)⟩
theorem three_any (w : World) : Calls Try.prog 30 #[] w fun e w' => e = .returned (.agg #[.int .i64 3, .int .i64 2, .int .i64 1, .int .i64 2, .int .i64 6, .int .i64 8]) ∧ Mod (fun _ => False) w w' := by
  have HB : Hid (Bk _ _ _ _) := Bk.new w #[.int .i64 0, .int .i64 0, .int .i64 0, .int .i64 0, .int .i64 0, .int .i64 0] 28
  have hA := (Mod.refl (fun _ => False) w).alloc (.cells #[.int .i64 0, .int .i64 0, .int .i64 0, .int .i64 0, .int .i64 0, .int .i64 0] 28)
  go_enter Try.func30, Try.ntmps30
  go_wp2_with (refine wpList_store_row infoE rfl rfl _ _ rfl w.heap.size #[.int .i64 3, .int .i64 2, .int .i64 1, .int .i64 2, .int .i64 6, .int .i64 8] rfl rfl HB.out rfl rfl rfl ?_; intro wF hBF hMF)
  exact bodyPost_ret (resT infoE Try.underlying28 rfl rfl rfl hBF rfl) rfl ⟨rfl, hA.trans hMF (V := fun _ => False) (fun _ _ h => h) (fun q hq h => by omega)⟩
theorem Cn.store {wa w : World} {v : Value} {c : Cm} (h : Cn wa w v c) {z : Nat} {xs cs : Array Value} (hb : Bk w z 26 xs) : Cn wa (w.setCells z 0 cs.toList) v c := by
  obtain ⟨ao, cap, rfl, h1, h2⟩ := h.form
  have hne := h1.ne hb
  exact ⟨ao, cap, rfl, h1.mod (setCells_mod z cs.toList 0 w) (fun g hg e => hne g hg e), h2⟩
theorem Cn.agg {wa w : World} {v : Value} {c : Cm} (h : Cn wa w v c) : ∃ cs : Array Value, v = .agg cs ∧ cs.size = 5 ∧ cs.toList.all (·.oneCell') = true := by
  obtain ⟨ao, cap, rfl, h1, h2⟩ := h.form
  exact ⟨_, rfl, rfl, rfl⟩
/-- A commit that lies in a block. -/
structure Cb (wa w : World) (b : Nat) (c : Cm) : Prop where
  form : ∃ ao cap, Bk w b 26 #[.int .i64 c.rs, .int .i64 c.rr, .int .i64 c.mem, .int .i64 c.hop, .slice ao c.es.length cap] ∧ Cn wa w (.agg #[.int .i64 c.rs, .int .i64 c.rr, .int .i64 c.mem, .int .i64 c.hop, .slice ao c.es.length cap]) c
theorem Cb.keep {wa w w' : World} {b : Nat} {c : Cm} (h : Cb wa w b c) (hm : Mod (fun _ => False) w w') : Cb wa w' b c := by
  obtain ⟨ao, cap, h1, h2⟩ := h.form
  exact ⟨ao, cap, h1.mod hm (fun h => h), h2.keep hm⟩
theorem Cb.of {wa w : World} {b : Nat} {c : Cm} {cells : Array Value} (hb : Bk w b 26 cells) (h : Cn wa w (.agg cells) c) : Cb wa w b c := by
  obtain ⟨ao, cap, e, h1, h2⟩ := h.form
  simp only [Value.agg.injEq] at e
  subst e
  exact ⟨ao, cap, hb, ⟨ao, cap, rfl, h1, h2⟩⟩
theorem rwk_info : (Try.prog.info? 26).map (·.size) = some 5 := by kernel_rfl
theorem rwk_al {o : Oper} {ρ : Operand → Value} {w : World} (ho : o.op = .alloc 26) : (execOp ρ o).run Try.prog w = .ok (.value (.pointer (some ⟨w.heap.size, 0, none⟩))) (w.alloc (.cells #[.int .i64 0, .int .i64 0, .int .i64 0, .int .i64 0, .slice none 0 0] 26)) := by
  simp [execOp, ho, go_sem]
/-- What is said of a slot. -/
def p_rwk (_b : Nat) (x0 x1 x2 x3 x4 : Value) (PR : World → Value → Prop) (H0 : Nat) (i : Nat) (v : Value) (_w : World) : Prop :=
  match i with
  | 0 => v = .agg #[x0, x1, x2, x3, x4]
  | 1 => v = .agg #[.int .i64 3, .int .i64 2, .int .i64 1, .int .i64 2, .int .i64 6, .int .i64 8]
  | 2 => ∃ v', v = .tuple #[v', .int .i64 0] ∧ PR _w v'
  | 3 => ∃ v', v = .tuple #[v', .int .i64 0] ∧ PR _w v'
  | 4 => PR _w v
  | 5 => v = .int .i64 0
  | 6 => ∃ (z : Nat) (xs : Array Value), v = .pointer (some ⟨z, 0, none⟩) ∧ H0 ≤ z ∧ Bk _w z 26 xs ∧ xs.size = 5
  | 8 => v = .int .i64 0
  | _ => True
theorem p_rwk_stab (b : Nat) (x0 x1 x2 x3 x4 : Value) (PR : World → Value → Prop) (H0 : Nat) (hPRm : ∀ (w w' : World) (v : Value), Mod (fun _ => False) w w' → PR w v → PR w' v) : ∀ i v w w', Mod (fun _ => False) w w' → (p_rwk b x0 x1 x2 x3 x4 PR H0) i v w → (p_rwk b x0 x1 x2 x3 x4 PR H0) i v w' := by
  intro i v w w' hm h
  unfold p_rwk at h ⊢
  split at h
  case h_3 => obtain ⟨v', h1, h2⟩ := h; exact ⟨v', h1, hPRm _ _ _ hm h2⟩
  case h_4 => obtain ⟨v', h1, h2⟩ := h; exact ⟨v', h1, hPRm _ _ _ hm h2⟩
  case h_5 => exact hPRm _ _ _ hm h
  case h_7 => obtain ⟨z, xs, h1, h2, h3, h4⟩ := h; exact ⟨z, xs, h1, h2, h3.mod hm (fun h => h), h4⟩
  all_goals exact h
theorem p_rwk_store (b : Nat) (x0 x1 x2 x3 x4 : Value) (PR : World → Value → Prop) (H0 : Nat) (hPRs : ∀ (w : World) (z : Nat) (xs cs : Array Value) (v : Value), PR w v → Bk w z 26 xs → PR (w.setCells z 0 cs.toList) v) : ∀ i v w z xs (cs : Array Value), Bk w z 26 xs → xs.size = cs.size → cs.size = 5 → (p_rwk b x0 x1 x2 x3 x4 PR H0) i v w → (p_rwk b x0 x1 x2 x3 x4 PR H0) i v (w.setCells z 0 cs.toList) := by
  intro i v w z xs cs hb hsz hn h
  unfold p_rwk at h ⊢
  split at h
  case h_3 => obtain ⟨v', h1, h2⟩ := h; exact ⟨v', h1, hPRs _ _ _ _ _ h2 hb⟩
  case h_4 => obtain ⟨v', h1, h2⟩ := h; exact ⟨v', h1, hPRs _ _ _ _ _ h2 hb⟩
  case h_5 => exact hPRs _ _ _ _ _ h hb
  case h_7 =>
    obtain ⟨y, ys, h1, h2, h3, h4⟩ := h
    by_cases e : y = z
    · subst e; exact ⟨y, _, h1, h2, hb.whole cs hsz, hn⟩
    · exact ⟨y, ys, h1, h2, h3.mod (setCells_mod z cs.toList 0 w) e, h4⟩
  all_goals exact h
/-- Its operations. -/
structure O_rwk (ops : Array Oper) : Prop where
  e0 : Is ops 0 (some 17) (Op.load 26 (Operand.tmp 1)) none []
  e1 : Is ops 1 (some 18) (Op.call { callee := Callee.value (Operand.func 30), args := #[], argTypes := #[] }) none []
  e2 : Is ops 2 (some 19) (Op.call { callee := Callee.value (Operand.func 11), args := #[Operand.tmp 17, Operand.tmp 18], argTypes := #[26, 28] }) none [0, 1]
  e3 : Is ops 3 (some 16) (Op.move (Operand.tmp 19)) none [2]
  e4 : Is ops 4 (some 20) (Op.extract (Operand.tmp 16) 0) none [3]
  e5 : Is ops 5 (some 21) (Op.extract (Operand.tmp 16) 1) none [3]
  e6 : Is ops 6 (some 3) (Op.alloc 26) none []
  e7 : Is ops 7 none (Op.store 26 (Operand.tmp 3) (Operand.tmp 20)) none [0, 1, 2, 3, 4, 6]
  e8 : Is ops 8 (some 4) (Op.assign (Operand.tmp 21)) none [0, 1, 2, 3, 4, 5, 6, 7]
set_option maxRecDepth 100000 in
set_option maxHeartbeats 4000000 in
theorem rwk {ops : Array Oper} {id : Nat} {a0 : Act} {w0 : World} {Q : Exit → Act → World → Prop} (b : Nat) (x0 x1 x2 x3 x4 : Value) (PR : World → Value → Prop)
    (E : O_rwk ops) (hN : ops.size = 9) (hlow : lowB ops = true) (hds : dsts ops = [some 17, some 18, some 19, some 16, some 20, some 21, some 3, none, some 4]) (hnd : injB ops = true) (ha0 : a0.tmps.size = 76)
    (b1 : a0.tmps.getD 1 undef = .pointer (some ⟨b, 0, none⟩))
    (k_b_0 : w0.cell? ⟨b, 0, none⟩ = some (x0))
    (k_b_1 : w0.cell? ⟨b, 1, none⟩ = some (x1))
    (k_b_2 : w0.cell? ⟨b, 2, none⟩ = some (x2))
    (k_b_3 : w0.cell? ⟨b, 3, none⟩ = some (x3))
    (k_b_4 : w0.cell? ⟨b, 4, none⟩ = some (x4))
    (hPRm : ∀ (w w' : World) (v : Value), Mod (fun _ => False) w w' → PR w v → PR w' v)
    (hPRs : ∀ (w : World) (z : Nat) (xs cs : Array Value) (v : Value), PR w v → Bk w z 26 xs → PR (w.setCells z 0 cs.toList) v)
    (hPRf : ∀ (w : World) (v : Value), PR w v → ∃ cs : Array Value, v = .agg cs ∧ cs.size = 5 ∧ cs.toList.all (·.oneCell') = true)
    (H1 : ∀ (W : World), Mod (fun _ => False) w0 W → Calls Try.prog 30 #[] W fun e w' => e = .returned (.agg #[.int .i64 3, .int .i64 2, .int .i64 1, .int .i64 2, .int .i64 6, .int .i64 8]) ∧ Mod (fun _ => False) W w')
    (H2 : ∀ (W : World), Mod (fun _ => False) w0 W → Calls Try.prog 11 #[.agg #[x0, x1, x2, x3, x4], .agg #[.int .i64 3, .int .i64 2, .int .i64 1, .int .i64 2, .int .i64 6, .int .i64 8]] W fun e w' => ∃ v', e = .returned (.tuple #[v', .int .i64 0]) ∧ PR w' v' ∧ Mod (fun _ => False) W w')
    (hend : ∀ (f : Nat → Value) (w : World) (z : Nat) (cells : Array Value), Mod (fun _ => False) w0 w → w0.heap.size ≤ z → Bk w z 26 cells → PR w (.agg cells) → Q .normal (puts a0 [(17, .agg #[x0, x1, x2, x3, x4]), (18, .agg #[.int .i64 3, .int .i64 2, .int .i64 1, .int .i64 2, .int .i64 6, .int .i64 8]), (19, f 19), (16, f 16), (20, f 20), (21, .int .i64 0), (3, .pointer (some ⟨z, 0, none⟩)), (4, .int .i64 0)]) w) :
    (Code.region id ops true).wp Try.prog Q a0 w0 := by
  obtain ⟨E0, E1, E2, E3, E4, E5, E6, E7, E8⟩ := E
  have hstay : ∀ (i : Nat) (v : Value) (w w1 : World), Mod (fun _ => False) w w1 → (p_rwk b x0 x1 x2 x3 x4 PR w0.heap.size) i v w → (p_rwk b x0 x1 x2 x3 x4 PR w0.heap.size) i v w1 := fun i v w w' hm h => p_rwk_stab _ _ _ _ _ _ _ _ hPRm i v w w' hm h
  have s0 : ∀ o, ops[0]? = some o → StepI Try.prog ops (p_rwk b x0 x1 x2 x3 x4 PR w0.heap.size) (IS (fun _ => False) 7 3 26 PR w0) a0 Q 0 o := by
    refine E0.stepI fun o hd ho hg hw => ?_
    intro y w listed hsz hls hun hwt hdown D' hRR hinv K hK
    have hiL : 0 < listed.size := by rw [hls, hN]; decide
    have nS : listed.getD 7 false = false := E7.down hdown (j := 0) (by simp) hun
    have f1 : y.eval (Operand.tmp 1) = .pointer (some ⟨b, 0, none⟩)   := (hRR 1 (not_of (by rw [hds]; decide))).trans b1
    have h0 := (hinv.pre nS).cell k_b_0 (fun h => h)
    have h1 := (hinv.pre nS).cell k_b_1 (fun h => h)
    have h2 := (hinv.pre nS).cell k_b_2 (fun h => h)
    have h3 := (hinv.pre nS).cell k_b_3 (fun h => h)
    have h4 := (hinv.pre nS).cell k_b_4 (fun h => h)
    exact .inl ⟨wanted_none hg, wp_value (ox_load (v := .agg #[x0, x1, x2, x3, x4]) ho f1 (by simp [go_sem, h0, h1, h2, h3, h4])) (hK _ _ (fun _ _ _ _ _ _ h => h) rfl (by rw [hd]; exact hinv.keep hiL (by decide) (by decide) _))⟩
  have s1 : ∀ o, ops[1]? = some o → StepI Try.prog ops (p_rwk b x0 x1 x2 x3 x4 PR w0.heap.size) (IS (fun _ => False) 7 3 26 PR w0) a0 Q 1 o := by
    refine E1.stepI fun o hd ho hg hw => ?_
    intro y w listed hsz hls hun hwt hdown D' hRR hinv K hK
    have hiL : 1 < listed.size := by rw [hls, hN]; decide
    have nS : listed.getD 7 false = false := E7.down hdown (j := 1) (by simp) hun
    refine .inl ⟨wanted_none hg, wp_enter (f := 30) (args := #[]) ?_ (H1 w  (hinv.pre nS) ) ?_⟩
    · have h := exec_call0 y.eval (fun args w => by simp [go_sem]) rfl ho (w := w)
      exact h
    · rintro e w' ⟨rfl, hm⟩
      exact ⟨_, rfl, hK _ _ (fun j oj d _ _ _ h => hstay _ _ _ _ hm h) rfl (hinv.call hiL (by decide) nS hm)⟩
  have s2 : ∀ o, ops[2]? = some o → StepI Try.prog ops (p_rwk b x0 x1 x2 x3 x4 PR w0.heap.size) (IS (fun _ => False) 7 3 26 PR w0) a0 Q 2 o := by
    refine E2.stepI fun o hd ho hg hw => ?_
    intro y w listed hsz hls hun hwt hdown D' hRR hinv K hK
    have hiL : 2 < listed.size := by rw [hls, hN]; decide
    have nS : listed.getD 7 false = false := E7.down hdown (j := 2) (by simp) hun
    have f17 : y.eval (Operand.tmp 17) = .agg #[x0, x1, x2, x3, x4] := E0.postI (Post := (p_rwk b x0 x1 x2 x3 x4 PR w0.heap.size)) (a := y) (w := w) D' (hwt 0 (hw 0 (by simp)))
    have f18 : y.eval (Operand.tmp 18) = .agg #[.int .i64 3, .int .i64 2, .int .i64 1, .int .i64 2, .int .i64 6, .int .i64 8] := E1.postI (Post := (p_rwk b x0 x1 x2 x3 x4 PR w0.heap.size)) (a := y) (w := w) D' (hwt 1 (hw 1 (by simp)))
    refine .inl ⟨wanted_none hg, wp_enter (f := 11) (args := #[.agg #[x0, x1, x2, x3, x4], .agg #[.int .i64 3, .int .i64 2, .int .i64 1, .int .i64 2, .int .i64 6, .int .i64 8]]) ?_ (H2 w  (hinv.pre nS) ) ?_⟩
    · have h := exec_call2 y.eval (fun args w => by simp [go_sem]) rfl ho (w := w)
      rw [f17, f18] at h
      exact h
    · rintro e w' ⟨v', rfl, hpp, hm⟩
      exact ⟨_, rfl, hK _ _ (fun j oj d _ _ _ h => hstay _ _ _ _ hm h) ⟨v', rfl, hpp⟩ (hinv.call hiL (by decide) nS hm)⟩
  have s3 : ∀ o, ops[3]? = some o → StepI Try.prog ops (p_rwk b x0 x1 x2 x3 x4 PR w0.heap.size) (IS (fun _ => False) 7 3 26 PR w0) a0 Q 3 o := by
    refine E3.stepI fun o hd ho hg hw => ?_
    intro y w listed hsz hls hun hwt hdown D' hRR hinv K hK
    have hiL : 3 < listed.size := by rw [hls, hN]; decide
    have nS : listed.getD 7 false = false := E7.down hdown (j := 3) (by simp) hun
    obtain ⟨v', f19, q19⟩ : ∃ v', y.eval (Operand.tmp 19) = .tuple #[v', .int .i64 0] ∧ PR w v' := E2.postI (Post := (p_rwk b x0 x1 x2 x3 x4 PR w0.heap.size)) (a := y) (w := w) D' (hwt 2 (hw 2 (by simp)))
    exact .inl ⟨wanted_none hg, wp_value (ox_move ho f19) (hK _ _ (fun _ _ _ _ _ _ h => h) ⟨v', rfl, q19⟩ (by rw [hd]; exact hinv.keep hiL (by decide) (by decide) _))⟩
  have s4 : ∀ o, ops[4]? = some o → StepI Try.prog ops (p_rwk b x0 x1 x2 x3 x4 PR w0.heap.size) (IS (fun _ => False) 7 3 26 PR w0) a0 Q 4 o := by
    refine E4.stepI fun o hd ho hg hw => ?_
    intro y w listed hsz hls hun hwt hdown D' hRR hinv K hK
    have hiL : 4 < listed.size := by rw [hls, hN]; decide
    have nS : listed.getD 7 false = false := E7.down hdown (j := 4) (by simp) hun
    obtain ⟨v', f16, q16⟩ : ∃ v', y.eval (Operand.tmp 16) = .tuple #[v', .int .i64 0] ∧ PR w v' := E3.postI (Post := (p_rwk b x0 x1 x2 x3 x4 PR w0.heap.size)) (a := y) (w := w) D' (hwt 3 (hw 3 (by simp)))
    exact .inl ⟨wanted_none hg, wp_value (rx_extract ho f16 rfl) (hK _ _ (fun _ _ _ _ _ _ h => h) q16 (by rw [hd]; exact hinv.keep hiL (by decide) (by decide) _))⟩
  have s5 : ∀ o, ops[5]? = some o → StepI Try.prog ops (p_rwk b x0 x1 x2 x3 x4 PR w0.heap.size) (IS (fun _ => False) 7 3 26 PR w0) a0 Q 5 o := by
    refine E5.stepI fun o hd ho hg hw => ?_
    intro y w listed hsz hls hun hwt hdown D' hRR hinv K hK
    have hiL : 5 < listed.size := by rw [hls, hN]; decide
    obtain ⟨v', f16, q16⟩ : ∃ v', y.eval (Operand.tmp 16) = .tuple #[v', .int .i64 0] ∧ PR w v' := E3.postI (Post := (p_rwk b x0 x1 x2 x3 x4 PR w0.heap.size)) (a := y) (w := w) D' (hwt 3 (hw 3 (by simp)))
    exact .inl ⟨wanted_none hg, wp_value (rx_extract ho f16 rfl) (hK _ _ (fun _ _ _ _ _ _ h => h) rfl (by rw [hd]; exact hinv.keep hiL (by decide) (by decide) _))⟩
  have s6 : ∀ o, ops[6]? = some o → StepI Try.prog ops (p_rwk b x0 x1 x2 x3 x4 PR w0.heap.size) (IS (fun _ => False) 7 3 26 PR w0) a0 Q 6 o := by
    refine E6.stepI fun o hd ho hg hw => ?_
    intro y w listed hsz hls hun hwt hdown D' hRR hinv K hK
    have hiL : 6 < listed.size := by rw [hls, hN]; decide
    have nS : listed.getD 7 false = false := E7.down hdown (j := 6) (by simp) hun
    have hA := (Mod.refl (fun _ => False) w).alloc (.cells #[.int .i64 0, .int .i64 0, .int .i64 0, .int .i64 0, .slice none 0 0] 26)
    exact .inl ⟨wanted_none hg, wp_value (rwk_al ho) (hK _ _ (fun j oj d _ _ _ h => hstay _ _ _ _ hA h) ⟨w.heap.size, _, rfl, hinv.mod.size, Bk.new w _ _, rfl⟩ (hinv.call hiL (by decide) nS hA))⟩
  have s7 : ∀ o, ops[7]? = some o → StepI Try.prog ops (p_rwk b x0 x1 x2 x3 x4 PR w0.heap.size) (IS (fun _ => False) 7 3 26 PR w0) a0 Q 7 o := by
    refine E7.stepI fun o hd ho hg hw => ?_
    intro y w listed hsz hls hun hwt hdown D' hRR hinv K hK
    have hiL : 7 < listed.size := by rw [hls, hN]; decide
    obtain ⟨z, xs, f3, hz, hB, hx⟩ : ∃ (z : Nat) (xs : Array Value), y.eval (Operand.tmp 3) = .pointer (some ⟨z, 0, none⟩) ∧ w0.heap.size ≤ z ∧ Bk w z 26 xs ∧ xs.size = 5 := E6.postI (Post := (p_rwk b x0 x1 x2 x3 x4 PR w0.heap.size)) (a := y) (w := w) D' (hwt 6 (hw 6 (by simp)))
    have q20 : PR w (y.eval (Operand.tmp 20)) := E4.postI (Post := (p_rwk b x0 x1 x2 x3 x4 PR w0.heap.size)) (a := y) (w := w) D' (hwt 4 (hw 4 (by simp)))
    obtain ⟨cs, fv, hn, h1⟩ := hPRf _ _ q20
    refine .inl ⟨wanted_none hg, wp_store_mid (P := Try.prog) 26 _ _ ho z 0 cs f3 fv (hB.there (by rw [hx, hn]; decide)) (by rw [rwk_info, hn]) (by rw [← Array.all_toList]; exact h1) (hK _ _ ?_ trivial ?_)⟩
    · exact fun j oj d _ _ _ h => p_rwk_store _ _ _ _ _ _ _ _ hPRs j _ w z xs cs hB (by rw [hx, hn]) hn h
    · rw [hd, put_none]
      refine ⟨(hinv.pre hun).trans (setCells_mod z cs.toList 0 w) (V := fun _ => False) (fun _ _ h => h) (fun k hk e => by omega), fun h => (by rw [getD_set hiL, if_pos rfl] at h; cases h), fun _ => ⟨z, cs, f3, hB.whole cs (by rw [hx, hn]), ?_⟩⟩
      rw [fv] at q20
      exact hPRs _ _ _ _ _ q20 hB
  have s8 : ∀ o, ops[8]? = some o → StepI Try.prog ops (p_rwk b x0 x1 x2 x3 x4 PR w0.heap.size) (IS (fun _ => False) 7 3 26 PR w0) a0 Q 8 o := by
    refine E8.stepI fun o hd ho hg hw => ?_
    intro y w listed hsz hls hun hwt hdown D' hRR hinv K hK
    have hiL : 8 < listed.size := by rw [hls, hN]; decide
    have f21 : y.eval (Operand.tmp 21) = .int .i64 0 := E5.postI (Post := (p_rwk b x0 x1 x2 x3 x4 PR w0.heap.size)) (a := y) (w := w) D' (hwt 5 (hw 5 (by simp)))
    exact .inl ⟨wanted_none hg, wp_value (rx_assign ho f21) (hK _ _ (fun _ _ _ _ _ _ h => h) rfl (by rw [hd]; exact hinv.keep hiL (by decide) (by decide) _))⟩
  refine region_freeI (Post := (p_rwk b x0 x1 x2 x3 x4 PR w0.heap.size)) (Inv := (IS (fun _ => False) 7 3 26 PR w0)) mixed (low_of hlow) (fun i o ho => by rw [ha0]; exact dst_of (by rw [hds]; decide) i o ho) (inj_of hnd) ⟨(Mod.refl _ _).drew, fun _ => (Mod.refl _ _).drew, fun h => (by rw [hN] at h; cases h)⟩ ?_ ?_
  · intro i o ho
    have hi : i < 9 := by
      rw [← hN]
      rcases Nat.lt_or_ge i ops.size with h | h
      · exact h
      · rw [Array.getElem?_eq_none h] at ho; cases ho
    clear hend
    by_cases e0 : i = 0
    · subst e0; exact s0 o ho
    by_cases e1 : i = 1
    · subst e1; exact s1 o ho
    by_cases e2 : i = 2
    · subst e2; exact s2 o ho
    by_cases e3 : i = 3
    · subst e3; exact s3 o ho
    by_cases e4 : i = 4
    · subst e4; exact s4 o ho
    by_cases e5 : i = 5
    · subst e5; exact s5 o ho
    by_cases e6 : i = 6
    · subst e6; exact s6 o ho
    by_cases e7 : i = 7
    · subst e7; exact s7 o ho
    by_cases e8 : i = 8
    · subst e8; exact s8 o ho
    omega
  · intro y w listed hsz hdf hls hall hinv hPO hRE
    obtain ⟨z, cells, gz, hBz, hPz⟩ := hinv.post (hall 7 (by rw [hN]; decide))
    have hzH : w0.heap.size ≤ z := by
      obtain ⟨o, h1, h2, _⟩ := E6.ex
      obtain ⟨z', xs, g1, g2, _⟩ := hPO 6 o _ h1 h2
      rw [gz] at g1
      simp only [Value.pointer.injEq, Option.some.injEq, Addr.mk.injEq, and_true] at g1
      omega
    have e : y = puts a0 [(17, .agg #[x0, x1, x2, x3, x4]), (18, .agg #[.int .i64 3, .int .i64 2, .int .i64 1, .int .i64 2, .int .i64 6, .int .i64 8]), (19, y.tmps.getD 19 undef), (16, y.tmps.getD 16 undef), (20, y.tmps.getD 20 undef), (21, .int .i64 0), (3, .pointer (some ⟨z, 0, none⟩)), (4, .int .i64 0)] := by
      refine eq_puts hsz hdf (nodup_of (D := [some 17, some 18, some 19, some 16, some 20, some 21, some 3, some 4]) rfl (by decide)) (by rw [ha0]; simp) ?_ ?_
      · intro q hq
        simp only [List.mem_cons, List.not_mem_nil, or_false] at hq
        rcases hq with rfl | rfl | rfl | rfl | rfl | rfl | rfl | rfl
        · obtain ⟨o, h1, h2, _⟩ := E0.ex
          exact hPO 0 o _ h1 h2
        · obtain ⟨o, h1, h2, _⟩ := E1.ex
          exact hPO 1 o _ h1 h2
        · rfl
        · rfl
        · rfl
        · obtain ⟨o, h1, h2, _⟩ := E5.ex
          exact hPO 5 o _ h1 h2
        · exact gz
        · obtain ⟨o, h1, h2, _⟩ := E8.ex
          exact hPO 8 o _ h1 h2
      · intro t ht
        exact hRE t (not_of (by rw [hds]; exact not_cont rfl ht))
    rw [e]
    exact hend (fun d => y.tmps.getD d undef) w z cells hinv.mod hzH hBz hPz
set_option maxRecDepth 100000 in
set_option maxHeartbeats 4000000 in
theorem awake_any (w : World) : Calls Try.prog 20 #[] w fun e w' => e = .returned (.bool true) ∧ Mod (fun _ => False) w w' := by
  obtain ⟨W0, hW0⟩ : ∃ W0, W0 = w := ⟨_, rfl⟩
  have HN := fun W => New_any W 9 1 10 e1 ⟨by decide, by decide⟩
  have HA := fun W v h => Add_any W v c1 e3 h ⟨by decide, by decide⟩
  have HP := fun W v h => Pass_any W v c2 h ⟨by decide, by decide⟩
  have HK := fun W v h => Kin_any W v c2 2 1 h ⟨by decide, by decide⟩
  have HV1 := fun W v h => Visit_any W v c1 3 h ⟨by decide, by decide⟩
  have HV2 := fun W v h => Visit_any W v c2 1 h ⟨by decide, by decide⟩
  have HS := fun W v h => Stamp_any W v c2 h ⟨by decide, by decide⟩
  rw [new_c1] at HN
  rw [add_c2] at HA
  rw [pas_c3] at HP
  rw [kin_c2] at HK
  rw [vis_c1] at HV1
  rw [vis_c2] at HV2
  rw [st_c2] at HS
  simp only [eyc, e1, e3] at HN HA
  go_enter Try.func20, Try.ntmps20
  go_wp2_with (fail)
  refine (one_any _).mono ?_
  rintro e w1 ⟨rfl, hm1⟩
  go_wp2_with (fail)
  refine (HN _).mono ?_
  rintro e w2 ⟨v1, rfl, hc1, hm2⟩
  obtain ⟨ax, cx, rfl, hr1, hw1⟩ : ∃ ao cap, v1 = .agg #[.int .i64 9, .int .i64 1, .int .i64 10, .int .i64 1, .slice ao 1 cap] ∧ RE w2 (.slice ao 1 cap) [e1] ∧ Nw w1 (.slice ao 1 cap) := hc1.form
  have hM2 := hm1.and hm2
  have HC1 : Hid (Cb w1 (w2.alloc (.cells #[.int .i64 9, .int .i64 1, .int .i64 10, .int .i64 1, .slice ax 1 cx] 26)) w2.heap.size c1) := ⟨ax, cx, Bk.new w2 _ _, hc1.keep ((Mod.refl _ w2).alloc _)⟩
  have hM3 := hM2.alloc (.cells #[.int .i64 9, .int .i64 1, .int .i64 10, .int .i64 1, .slice ax 1 cx] 26)
  have hcv : Cv (w2.alloc (.cells #[.int .i64 9, .int .i64 1, .int .i64 10, .int .i64 1, .slice ax 1 cx] 26)) (.agg #[.int .i64 9, .int .i64 1, .int .i64 10, .int .i64 1, .slice ax 1 cx]) c1 := hc1.cv.keep ((Mod.refl _ w2).alloc _)
  clear hc1 hr1 hw1 hm1 hm2 HN hM2
  go_upto_region 2 with fail
  have hB2 : Bk (w2.alloc (.cells #[.int .i64 9, .int .i64 1, .int .i64 10, .int .i64 1, .slice ax 1 cx] 26)) w2.heap.size _ #[.int .i64 9, .int .i64 1, .int .i64 10, .int .i64 1, .slice ax 1 cx] := Bk.new w2 _ _
  refine rwk w2.heap.size (.int .i64 9) (.int .i64 1) (.int .i64 10) (.int .i64 1) (.slice ax 1 cx) (fun w v => Cn W0 w v c2) ⟨⟨⟨_, rfl, rfl, rfl, rfl, by decide +kernel⟩⟩, ⟨⟨_, rfl, rfl, rfl, rfl, by decide +kernel⟩⟩, ⟨⟨_, rfl, rfl, rfl, rfl, by decide +kernel⟩⟩, ⟨⟨_, rfl, rfl, rfl, rfl, by decide +kernel⟩⟩, ⟨⟨_, rfl, rfl, rfl, rfl, by decide +kernel⟩⟩, ⟨⟨_, rfl, rfl, rfl, rfl, by decide +kernel⟩⟩, ⟨⟨_, rfl, rfl, rfl, rfl, by decide +kernel⟩⟩, ⟨⟨_, rfl, rfl, rfl, rfl, by decide +kernel⟩⟩, ⟨⟨_, rfl, rfl, rfl, rfl, by decide +kernel⟩⟩⟩ rfl (by decide +kernel) rfl (by decide +kernel) rfl rfl (hB2.cellv (j := 0) rfl) (hB2.cellv (j := 1) rfl) (hB2.cellv (j := 2) rfl) (hB2.cellv (j := 3) rfl) (hB2.cellv (j := 4) rfl) (fun _ _ _ hm h => h.keep hm) (fun _ _ _ _ _ h hb => h.store hb) (fun _ _ h => h.agg) (fun W _ => three_any W) (fun W hW => (HA W _ (hcv.keep hW)).mono fun _ _ h => by obtain ⟨v', rfl, h1, h2⟩ := h; exact ⟨v', rfl, h1.early (by have := hM3.size; have := hW.size; rw [hW0]; omega), h2⟩) ?_
  intro f w4 z cells hm4 hz hBz hCz
  simp only [puts, Act.put, List.setIfInBounds_toArray, List.set_cons_succ, List.set_cons_zero]
  have HC2 : Hid (Cb W0 w4 z c2) := Cb.of hBz hCz
  have HC1' : Hid (Cb w1 w4 w2.heap.size c1) := HC1.out.keep hm4
  have hM4 := hM3.and hm4
  clear HC1 hM3 hB2 hcv hBz hCz hm4 HA
  obtain ⟨a2, k2, hb2, hn2⟩ : ∃ ao cap, Bk w4 z 26 #[.int .i64 9, .int .i64 1, .int .i64 10, .int .i64 2, .slice ao 2 cap] ∧ Cn W0 w4 (.agg #[.int .i64 9, .int .i64 1, .int .i64 10, .int .i64 2, .slice ao 2 cap]) c2 := HC2.out.form
  obtain ⟨a1, k1, hb1, hn1⟩ : ∃ ao cap, Bk w4 w2.heap.size 26 #[.int .i64 9, .int .i64 1, .int .i64 10, .int .i64 1, .slice ao 1 cap] ∧ Cn w1 w4 (.agg #[.int .i64 9, .int .i64 1, .int .i64 10, .int .i64 1, .slice ao 1 cap]) c1 := HC1'.out.form
  have d0 := hb2.cellv (j := 0) rfl
  have d1 := hb2.cellv (j := 1) rfl
  have d2 := hb2.cellv (j := 2) rfl
  have d3 := hb2.cellv (j := 3) rfl
  have d4 := hb2.cellv (j := 4) rfl
  clear HC1' HC2 hz
  go_wp2_with (fail)
  refine (HP _ _ hn2.cv).mono ?_
  rintro e w5 ⟨v5, rfl, hc5, hm5⟩
  clear d0 d1 d2 d3 d4 HP
  obtain ⟨a3, k3, rfl, hr3, hw3⟩ : ∃ ao cap, v5 = .agg #[.int .i64 9, .int .i64 1, .int .i64 10, .int .i64 3, .slice ao 2 cap] ∧ RE w5 (.slice ao 2 cap) [e1, e3] ∧ Nw w4 (.slice ao 2 cap) := hc5.form
  have hM5 := (hM4.and hm5).alloc (.cells #[.int .i64 9, .int .i64 1, .int .i64 10, .int .i64 3, .slice a3 2 k3] 26)
  have hm5' := hm5.alloc (.cells #[.int .i64 9, .int .i64 1, .int .i64 10, .int .i64 3, .slice a3 2 k3] 26)
  replace hb2 := hb2.mod hm5' (fun h => h)
  replace hn2 := hn2.keep hm5'
  replace hb1 := hb1.mod hm5' (fun h => h)
  replace hn1 := hn1.keep hm5'
  have hb3 := Bk.new w5 #[.int .i64 9, .int .i64 1, .int .i64 10, .int .i64 3, .slice a3 2 k3] 26
  have d0 := hb2.cellv (j := 0) rfl
  have d1 := hb2.cellv (j := 1) rfl
  have d2 := hb2.cellv (j := 2) rfl
  have d3 := hb2.cellv (j := 3) rfl
  have d4 := hb2.cellv (j := 4) rfl
  clear hc5 hr3 hw3 hm5 hm5' hM4
  go_wp2_with (fail)
  refine (HK _ _ hn2.cv).mono ?_
  rintro e w6 ⟨rfl, hm6⟩
  clear d0 d1 d2 d3 d4 HK
  replace hb2 := hb2.mod hm6 (fun h => h)
  replace hn2 := hn2.keep hm6
  replace hb1 := hb1.mod hm6 (fun h => h)
  replace hn1 := hn1.keep hm6
  replace hb3 := hb3.mod hm6 (fun h => h)
  have hM6 := hM5.and hm6
  have d0 := hb1.cellv (j := 0) rfl
  have d1 := hb1.cellv (j := 1) rfl
  have d2 := hb1.cellv (j := 2) rfl
  have d3 := hb1.cellv (j := 3) rfl
  have d4 := hb1.cellv (j := 4) rfl
  clear hm6 hM5
  go_wp2_with (fail)
  refine (HV1 _ _ hn1.cv).mono ?_
  rintro e w7 ⟨rfl, hm7⟩
  clear d0 d1 d2 d3 d4 HV1 hb1 hn1
  replace hb2 := hb2.mod hm7 (fun h => h)
  replace hn2 := hn2.keep hm7
  replace hb3 := hb3.mod hm7 (fun h => h)
  have hM7 := hM6.and hm7
  have d0 := hb2.cellv (j := 0) rfl
  have d1 := hb2.cellv (j := 1) rfl
  have d2 := hb2.cellv (j := 2) rfl
  have d3 := hb2.cellv (j := 3) rfl
  have d4 := hb2.cellv (j := 4) rfl
  clear hm7 hM6
  go_wp2_with (fail)
  refine (HV2 _ _ hn2.cv).mono ?_
  rintro e w8 ⟨rfl, hm8⟩
  clear d0 d1 d2 d3 d4 HV2
  replace hb2 := hb2.mod hm8 (fun h => h)
  replace hn2 := hn2.keep hm8
  replace hb3 := hb3.mod hm8 (fun h => h)
  have hM8 := hM7.and hm8
  have d0 := hb2.cellv (j := 0) rfl
  have d1 := hb2.cellv (j := 1) rfl
  have d2 := hb2.cellv (j := 2) rfl
  have d3 := hb2.cellv (j := 3) rfl
  have d4 := hb2.cellv (j := 4) rfl
  have g2 := hb3.cellv (j := 3) rfl
  clear hm8 hM7
  go_wp2_with (fail)
  refine (HS _ _ hn2.cv).mono ?_
  rintro e w9 ⟨rfl, hm9⟩
  go_wp2
  go_ret
  exact ⟨rfl, hM8.and hm9⟩
end Go.Proofs.Ytlekmgjjjniomaa
