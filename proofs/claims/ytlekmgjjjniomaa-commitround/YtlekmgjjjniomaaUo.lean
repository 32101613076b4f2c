/- The law's entry, and CommitRound's statements that draw their order. Conditions: numbers of an int. -/
import Derived.Test.YtlekmgjjjniomaaUm
import Derived.Test.YtlekmgjjjniomaaUj
import Derived.Test.YtlekmgjjjniomaaRge
namespace Go.Proofs.Ytlekmgjjjniomaa
open Go.RowKit
theorem step_appE {ops : Array Oper} {o : Oper} {a : Act} {w : World} {K : Act → World → Prop} {Q : Exit → Act → World → Prop} {E : Prop} (hgd : o.guard = none) (s x : Operand) (ho : o.op = .call { callee := .builtin .append, args := #[s, x], argTypes := #[24, 24] })
    (v u : Value) (ds es : List Ey) (hs : a.eval s = v) (hx : a.eval x = u) (hv : RE w v ds) (hu : SlE w u es) (hb : (ds.length + es.length) * 48 ≤ 140737488355328) (n : Nat) (hn : n = ds.length + es.length)
    (h : ∀ ax cx w', RE w' (.slice ax n cx) (ds ++ es) → Mod (fun k => v.ownBlock = some k) w w' → Fr w v (.slice ax n cx) → K (a.put o.dst (.slice ax n cx)) w') :
    if Region.wanted o (yielded ops a.tmps) = true then Oper.wp Try.prog o a w K Q else E := by
  rw [if_pos (by simp [Region.wanted, hgd])]
  obtain ⟨ax, cx, w', hrun, h1, h2, h3⟩ := run_appE w v u ds es hv hu hb n hn o.type
  unfold Oper.wp execOp
  simp only [ho, resolve, invoke, builtin, Sem.run_bind, Sem.run_pure, Result.andThen_ok, List.map_toArray, List.map_cons, List.map_nil, hs, hx, hrun]
  exact h ax cx w' h1 h2 h3
theorem ren_bd11 {o : Oper} {w : World} {ρ : Operand → Value} (ho : o.op = Op.build 23 #[(0, Operand.tmp 14), (1, Operand.tmp 19)]) (_hc : ∀ v, ρ (Operand.const v) = v) {a14 : Int} (h14 : ρ (Operand.tmp 14) = .int .i64 a14) {a19 : Int} (h19 : ρ (Operand.tmp 19) = .int .i64 a19) : (execOp ρ o).run Try.prog w = .ok (.value (.agg #[.int .i64 a14, .int .i64 a19])) w := by
  simp [execOp, ho, h14, h19, go_sem]
theorem ren_bd21 {o : Oper} {w : World} {ρ : Operand → Value} (ho : o.op = Op.build 28 #[(0, Operand.tmp 9), (1, Operand.tmp 20), (2, Operand.tmp 25), (3, Operand.tmp 26), (4, Operand.tmp 29)]) (_hc : ∀ v, ρ (Operand.const v) = v) {a9 : Int} (h9 : ρ (Operand.tmp 9) = .int .i64 a9) {a20_0 a20_1 : Int} (h20 : ρ (Operand.tmp 20) = .agg #[.int .i64 a20_0, .int .i64 a20_1]) {a25 : Int} (h25 : ρ (Operand.tmp 25) = .int .i64 a25) {a26 : Int} (h26 : ρ (Operand.tmp 26) = .int .i64 a26) {a29 : Int} (h29 : ρ (Operand.tmp 29) = .int .i64 a29) : (execOp ρ o).run Try.prog w = .ok (.value (.agg #[.int .i64 a9, .int .i64 a20_0, .int .i64 a20_1, .int .i64 a25, .int .i64 a26, .int .i64 a29])) w := by
  simp [execOp, ho, h9, h20, h25, h26, h29, go_sem]
theorem ren_info : (Try.prog.info? 28).map (·.size) = some 6 := by kernel_rfl
/-- What is said of a slot. -/
def p_ren (b : Nat) (node _x0 x1 x2 x3 _x4 x5 hi b1 b2 b3 b4 : Int) (PR : World → Value → Prop) (_H0 : Nat) (i : Nat) (v : Value) (_w : World) : Prop :=
  match i with
  | 0 => v = .int .i64 node
  | 1 => v = .pointer (some ⟨b, 1, none⟩)
  | 2 => v = .pointer (some ⟨b, 1, none⟩)
  | 3 => v = .int .i64 x1
  | 4 => v = .int .i64 b1
  | 5 => v = .int .i64 (IntKind.i64.wrap ((1 : Int) + b1))
  | 6 => v = .pointer (some ⟨b, 1, none⟩)
  | 7 => v = .pointer (some ⟨b, 2, none⟩)
  | 8 => v = .int .i64 x2
  | 9 => v = .int .i64 b2
  | 10 => v = .int .i64 (IntKind.i64.wrap ((1 : Int) + b2))
  | 11 => v = .agg #[.int .i64 (IntKind.i64.wrap ((1 : Int) + b1)), .int .i64 (IntKind.i64.wrap ((1 : Int) + b2))]
  | 12 => v = .pointer (some ⟨b, 3, none⟩)
  | 13 => v = .int .i64 x3
  | 14 => v = .int .i64 hi
  | 15 => v = .int .i64 (IntKind.i64.wrap (hi + 1))
  | 16 => v = .int .i64 b3
  | 17 => v = .int .i64 hi
  | 18 => v = .pointer (some ⟨b, 5, none⟩)
  | 19 => v = .int .i64 x5
  | 20 => v = .int .i64 b4
  | 21 => PR _w v
  | _ => True
theorem p_ren_stab (b : Nat) (node x0 x1 x2 x3 x4 x5 hi b1 b2 b3 b4 : Int) (PR : World → Value → Prop) (H0 : Nat) (hPRm : ∀ (w w' : World) (v : Value), Mod (fun _ => False) w w' → PR w v → PR w' v) : ∀ i v w w', Mod (fun _ => False) w w' → (p_ren b node x0 x1 x2 x3 x4 x5 hi b1 b2 b3 b4 PR H0) i v w → (p_ren b node x0 x1 x2 x3 x4 x5 hi b1 b2 b3 b4 PR H0) i v w' := by
  intro i v w w' hm h
  unfold p_ren at h ⊢
  split at h
  case h_22 => exact hPRm _ _ _ hm h
  all_goals exact h
theorem p_ren_store (b : Nat) (node x0 x1 x2 x3 x4 x5 hi b1 b2 b3 b4 : Int) (PR : World → Value → Prop) (H0 : Nat) (hPRs : ∀ (w : World) (z : Nat) (xs cs : Array Value) (v : Value), PR w v → Bk w z 28 xs → PR (w.setCells z 0 cs.toList) v) : ∀ i v w z xs (cs : Array Value), Bk w z 28 xs → xs.size = cs.size → cs.size = 6 → (p_ren b node x0 x1 x2 x3 x4 x5 hi b1 b2 b3 b4 PR H0) i v w → (p_ren b node x0 x1 x2 x3 x4 x5 hi b1 b2 b3 b4 PR H0) i v (w.setCells z 0 cs.toList) := by
  intro i v w z xs cs hb hsz hn h
  unfold p_ren at h ⊢
  split at h
  case h_22 => exact hPRs _ _ _ _ _ h hb
  all_goals exact h
/-- Its operations. -/
structure O_ren (ops : Array Oper) : Prop where
  e0 : Is ops 0 (some 9) (Op.move (Operand.tmp 1)) none []
  e1 : Is ops 1 (some 10) (Op.fieldAddr 28 (Operand.tmp 2) 1) none []
  e2 : Is ops 2 (some 11) (Op.fieldAddr 23 (Operand.tmp 10) 0) none [1]
  e3 : Is ops 3 (some 12) (Op.load 3 (Operand.tmp 11)) none [2]
  e4 : Is ops 4 (some 13) (Op.call { callee := Callee.value (Operand.func 44), args := #[Operand.tmp 12, Operand.const (Value.int IntKind.i64 1000)], argTypes := #[3, 3] }) none [3]
  e5 : Is ops 5 (some 14) (Op.binOp BinOp.add 3 (Operand.const (Value.int IntKind.i64 1)) (Operand.tmp 13) 3) none [4]
  e6 : Is ops 6 (some 15) (Op.fieldAddr 28 (Operand.tmp 2) 1) none []
  e7 : Is ops 7 (some 16) (Op.fieldAddr 23 (Operand.tmp 15) 1) none [6]
  e8 : Is ops 8 (some 17) (Op.load 3 (Operand.tmp 16)) none [7]
  e9 : Is ops 9 (some 18) (Op.call { callee := Callee.value (Operand.func 44), args := #[Operand.tmp 17, Operand.const (Value.int IntKind.i64 8)], argTypes := #[3, 3] }) none [4, 8]
  e10 : Is ops 10 (some 19) (Op.binOp BinOp.add 3 (Operand.const (Value.int IntKind.i64 1)) (Operand.tmp 18) 3) none [9]
  e11 : Is ops 11 (some 20) (Op.build 23 #[(0, Operand.tmp 14), (1, Operand.tmp 19)]) none [5, 10]
  e12 : Is ops 12 (some 21) (Op.fieldAddr 28 (Operand.tmp 2) 2) none []
  e13 : Is ops 13 (some 22) (Op.load 3 (Operand.tmp 21)) none [12]
  e14 : Is ops 14 (some 23) (Op.move (Operand.tmp 5)) none []
  e15 : Is ops 15 (some 24) (Op.binOp BinOp.add 3 (Operand.tmp 23) (Operand.const (Value.int IntKind.i64 1)) 3) none [14]
  e16 : Is ops 16 (some 25) (Op.call { callee := Callee.value (Operand.func 44), args := #[Operand.tmp 22, Operand.tmp 24], argTypes := #[3, 3] }) none [9, 13, 15]
  e17 : Is ops 17 (some 26) (Op.move (Operand.tmp 5)) none []
  e18 : Is ops 18 (some 27) (Op.fieldAddr 28 (Operand.tmp 2) 4) none []
  e19 : Is ops 19 (some 28) (Op.load 3 (Operand.tmp 27)) none [18]
  e20 : Is ops 20 (some 29) (Op.call { callee := Callee.value (Operand.func 44), args := #[Operand.tmp 28, Operand.const (Value.int IntKind.i64 9007199254740991)], argTypes := #[3, 3] }) none [16, 19]
  e21 : Is ops 21 (some 30) (Op.build 28 #[(0, Operand.tmp 9), (1, Operand.tmp 20), (2, Operand.tmp 25), (3, Operand.tmp 26), (4, Operand.tmp 29)]) none [0, 11, 16, 17, 20]
  e22 : Is ops 22 none (Op.store 28 (Operand.tmp 4) (Operand.tmp 30)) none [0, 1, 2, 3, 4, 5, 6, 7, 8, 9, 10, 11, 12, 13, 14, 15, 16, 17, 18, 19, 20, 21]
set_option maxRecDepth 100000 in
set_option maxHeartbeats 4000000 in
theorem ren {ops : Array Oper} {id : Nat} {aZ : Act} {w0 : World} {Q : Exit → Act → World → Prop} (b : Nat) (node x0 x1 x2 x3 x4 x5 hi b1 b2 b3 b4 : Int) (PR : World → Value → Prop) (bz : Nat)
    (E : O_ren ops) (hN : ops.size = 23) (hlow : lowB ops = true) (hds : dsts ops = [some 9, some 10, some 11, some 12, some 13, some 14, some 15, some 16, some 17, some 18, some 19, some 20, some 21, some 22, some 23, some 24, some 25, some 26, some 27, some 28, some 29, some 30, none]) (hnd : injB ops = true) (ha0 : aZ.tmps.size = 31)
    (bS1 : aZ.tmps.getD 1 undef = .int .i64 node)
    (bS2 : aZ.tmps.getD 2 undef = .pointer (some ⟨b, 0, none⟩))
    (bS4 : aZ.tmps.getD 4 undef = .pointer (some ⟨bz, 0, none⟩))
    (bS5 : aZ.tmps.getD 5 undef = .int .i64 hi)
    (_k_b_0 : w0.cell? ⟨b, 0, none⟩ = some (.int .i64 x0))
    (k_b_1 : w0.cell? ⟨b, 1, none⟩ = some (.int .i64 x1))
    (k_b_2 : w0.cell? ⟨b, 2, none⟩ = some (.int .i64 x2))
    (k_b_3 : w0.cell? ⟨b, 3, none⟩ = some (.int .i64 x3))
    (_k_b_4 : w0.cell? ⟨b, 4, none⟩ = some (.int .i64 x4))
    (k_b_5 : w0.cell? ⟨b, 5, none⟩ = some (.int .i64 x5))
    (hPRm : ∀ (w w' : World) (v : Value), Mod (fun _ => False) w w' → PR w v → PR w' v)
    (hPRs : ∀ (w : World) (z : Nat) (xs cs : Array Value) (v : Value), PR w v → Bk w z 28 xs → PR (w.setCells z 0 cs.toList) v)
    (hPRf : ∀ (w : World) (v : Value), PR w v → ∃ cs : Array Value, v = .agg cs ∧ cs.size = 6 ∧ cs.toList.all (·.oneCell') = true)
    (hPRb : ∀ w : World, PR w (.agg #[.int .i64 node, .int .i64 (IntKind.i64.wrap ((1 : Int) + b1)), .int .i64 (IntKind.i64.wrap ((1 : Int) + b2)), .int .i64 b3, .int .i64 hi, .int .i64 b4]))
    (hbz : ∃ xs, Bk w0 bz 28 xs ∧ xs.size = 6)
    (H4 : ∀ (W : World), Mod (fun _ => False) w0 W → Calls Try.prog 44 #[.int .i64 x1, .int .i64 1000] W fun e w' => e = .returned (.int .i64 b1) ∧ Mod (fun _ => False) W w')
    (H9 : ∀ (W : World), Mod (fun _ => False) w0 W → Calls Try.prog 44 #[.int .i64 x2, .int .i64 8] W fun e w' => e = .returned (.int .i64 b2) ∧ Mod (fun _ => False) W w')
    (H16 : ∀ (W : World), Mod (fun _ => False) w0 W → Calls Try.prog 44 #[.int .i64 x3, .int .i64 (IntKind.i64.wrap (hi + 1))] W fun e w' => e = .returned (.int .i64 b3) ∧ Mod (fun _ => False) W w')
    (H20 : ∀ (W : World), Mod (fun _ => False) w0 W → Calls Try.prog 44 #[.int .i64 x5, .int .i64 9007199254740991] W fun e w' => e = .returned (.int .i64 b4) ∧ Mod (fun _ => False) W w')
    (hend : ∀ (f : Nat → Value) (w : World) (cells : Array Value), Mod (fun k => k = bz) w0 w → Bk w bz 28 cells → PR w (.agg cells) → Q .normal (puts aZ [(9, .int .i64 node), (10, .pointer (some ⟨b, 1, none⟩)), (11, .pointer (some ⟨b, 1, none⟩)), (12, .int .i64 x1), (13, .int .i64 b1), (14, .int .i64 (IntKind.i64.wrap ((1 : Int) + b1))), (15, .pointer (some ⟨b, 1, none⟩)), (16, .pointer (some ⟨b, 2, none⟩)), (17, .int .i64 x2), (18, .int .i64 b2), (19, .int .i64 (IntKind.i64.wrap ((1 : Int) + b2))), (20, .agg #[.int .i64 (IntKind.i64.wrap ((1 : Int) + b1)), .int .i64 (IntKind.i64.wrap ((1 : Int) + b2))]), (21, .pointer (some ⟨b, 3, none⟩)), (22, .int .i64 x3), (23, .int .i64 hi), (24, .int .i64 (IntKind.i64.wrap (hi + 1))), (25, .int .i64 b3), (26, .int .i64 hi), (27, .pointer (some ⟨b, 5, none⟩)), (28, .int .i64 x5), (29, .int .i64 b4), (30, f 30)]) w) :
    (Code.region id ops true).wp Try.prog Q aZ w0 := by
  obtain ⟨E0, E1, E2, E3, E4, E5, E6, E7, E8, E9, E10, E11, E12, E13, E14, E15, E16, E17, E18, E19, E20, E21, E22⟩ := E
  have hstay : ∀ (i : Nat) (v : Value) (w w1 : World), Mod (fun _ => False) w w1 → (p_ren b node x0 x1 x2 x3 x4 x5 hi b1 b2 b3 b4 PR w0.heap.size) i v w → (p_ren b node x0 x1 x2 x3 x4 x5 hi b1 b2 b3 b4 PR w0.heap.size) i v w1 := fun i v w w' hm h => p_ren_stab _ _ _ _ _ _ _ _ _ _ _ _ _ _ _ hPRm i v w w' hm h
  have s0 : ∀ o, ops[0]? = some o → StepI Try.prog ops (p_ren b node x0 x1 x2 x3 x4 x5 hi b1 b2 b3 b4 PR w0.heap.size) (IS (fun k => k = bz) 22 4 28 PR w0) aZ Q 0 o := by
    refine E0.stepI fun o hd ho hg hw => ?_
    intro y w listed hsz hls hun hwt hdown D' hRR hinv K hK
    have hiL : 0 < listed.size := by rw [hls, hN]; decide
    have nS : listed.getD 22 false = false := E22.down hdown (j := 0) (by simp) hun
    have f1 : y.eval (Operand.tmp 1) = .int .i64 node   := (hRR 1 (not_of (by rw [hds]; decide))).trans bS1
    exact .inl ⟨wanted_none hg, wp_value (ox_move ho f1) (hK _ _ (fun _ _ _ _ _ _ h => h) rfl (by rw [hd]; exact hinv.keep hiL (by decide) (by decide) _))⟩
  have s1 : ∀ o, ops[1]? = some o → StepI Try.prog ops (p_ren b node x0 x1 x2 x3 x4 x5 hi b1 b2 b3 b4 PR w0.heap.size) (IS (fun k => k = bz) 22 4 28 PR w0) aZ Q 1 o := by
    refine E1.stepI fun o hd ho hg hw => ?_
    intro y w listed hsz hls hun hwt hdown D' hRR hinv K hK
    have hiL : 1 < listed.size := by rw [hls, hN]; decide
    have nS : listed.getD 22 false = false := E22.down hdown (j := 1) (by simp) hun
    have f2 : y.eval (Operand.tmp 2) = .pointer (some ⟨b, 0, none⟩)   := (hRR 2 (not_of (by rw [hds]; decide))).trans bS2
    exact .inl ⟨wanted_none hg, wp_value (ox_field (v := .pointer (some ⟨b, 1, none⟩)) ho f2 (by simp [go_sem])) (hK _ _ (fun _ _ _ _ _ _ h => h) rfl (by rw [hd]; exact hinv.keep hiL (by decide) (by decide) _))⟩
  have s2 : ∀ o, ops[2]? = some o → StepI Try.prog ops (p_ren b node x0 x1 x2 x3 x4 x5 hi b1 b2 b3 b4 PR w0.heap.size) (IS (fun k => k = bz) 22 4 28 PR w0) aZ Q 2 o := by
    refine E2.stepI fun o hd ho hg hw => ?_
    intro y w listed hsz hls hun hwt hdown D' hRR hinv K hK
    have hiL : 2 < listed.size := by rw [hls, hN]; decide
    have nS : listed.getD 22 false = false := E22.down hdown (j := 2) (by simp) hun
    have f10 : y.eval (Operand.tmp 10) = .pointer (some ⟨b, 1, none⟩) := E1.postI (Post := (p_ren b node x0 x1 x2 x3 x4 x5 hi b1 b2 b3 b4 PR w0.heap.size)) (a := y) (w := w) D' (hwt 1 (hw 1 (by simp)))
    exact .inl ⟨wanted_none hg, wp_value (ox_field (v := .pointer (some ⟨b, 1, none⟩)) ho f10 (by simp [go_sem])) (hK _ _ (fun _ _ _ _ _ _ h => h) rfl (by rw [hd]; exact hinv.keep hiL (by decide) (by decide) _))⟩
  have s3 : ∀ o, ops[3]? = some o → StepI Try.prog ops (p_ren b node x0 x1 x2 x3 x4 x5 hi b1 b2 b3 b4 PR w0.heap.size) (IS (fun k => k = bz) 22 4 28 PR w0) aZ Q 3 o := by
    refine E3.stepI fun o hd ho hg hw => ?_
    intro y w listed hsz hls hun hwt hdown D' hRR hinv K hK
    have hiL : 3 < listed.size := by rw [hls, hN]; decide
    have nS : listed.getD 22 false = false := E22.down hdown (j := 3) (by simp) hun
    have f11 : y.eval (Operand.tmp 11) = .pointer (some ⟨b, 1, none⟩) := E2.postI (Post := (p_ren b node x0 x1 x2 x3 x4 x5 hi b1 b2 b3 b4 PR w0.heap.size)) (a := y) (w := w) D' (hwt 2 (hw 2 (by simp)))
    have h0 := (hinv.pre nS).cell k_b_1 (fun h => h)
    exact .inl ⟨wanted_none hg, wp_value (ox_load (v := .int .i64 x1) ho f11 (by simp [go_sem, h0])) (hK _ _ (fun _ _ _ _ _ _ h => h) rfl (by rw [hd]; exact hinv.keep hiL (by decide) (by decide) _))⟩
  have s4 : ∀ o, ops[4]? = some o → StepI Try.prog ops (p_ren b node x0 x1 x2 x3 x4 x5 hi b1 b2 b3 b4 PR w0.heap.size) (IS (fun k => k = bz) 22 4 28 PR w0) aZ Q 4 o := by
    refine E4.stepI fun o hd ho hg hw => ?_
    intro y w listed hsz hls hun hwt hdown D' hRR hinv K hK
    have hiL : 4 < listed.size := by rw [hls, hN]; decide
    have nS : listed.getD 22 false = false := E22.down hdown (j := 4) (by simp) hun
    have f12 : y.eval (Operand.tmp 12) = .int .i64 x1 := E3.postI (Post := (p_ren b node x0 x1 x2 x3 x4 x5 hi b1 b2 b3 b4 PR w0.heap.size)) (a := y) (w := w) D' (hwt 3 (hw 3 (by simp)))
    refine .inl ⟨wanted_none hg, wp_enter (f := 44) (args := #[.int .i64 x1, .int .i64 1000]) ?_ (H4 w  (hinv.pre nS) ) ?_⟩
    · have h := exec_call2 y.eval (fun args w => by simp [go_sem]) rfl ho (w := w)
      rw [f12] at h
      exact h
    · rintro e w' ⟨rfl, hm⟩
      exact ⟨_, rfl, hK _ _ (fun j oj d _ _ _ h => hstay _ _ _ _ hm h) rfl (hinv.call hiL (by decide) nS hm)⟩
  have s5 : ∀ o, ops[5]? = some o → StepI Try.prog ops (p_ren b node x0 x1 x2 x3 x4 x5 hi b1 b2 b3 b4 PR w0.heap.size) (IS (fun k => k = bz) 22 4 28 PR w0) aZ Q 5 o := by
    refine E5.stepI fun o hd ho hg hw => ?_
    intro y w listed hsz hls hun hwt hdown D' hRR hinv K hK
    have hiL : 5 < listed.size := by rw [hls, hN]; decide
    have nS : listed.getD 22 false = false := E22.down hdown (j := 5) (by simp) hun
    have f13 : y.eval (Operand.tmp 13) = .int .i64 b1 := E4.postI (Post := (p_ren b node x0 x1 x2 x3 x4 x5 hi b1 b2 b3 b4 PR w0.heap.size)) (a := y) (w := w) D' (hwt 4 (hw 4 (by simp)))
    exact .inl ⟨wanted_none hg, wp_value (rx_add ho rfl f13) (hK _ _ (fun _ _ _ _ _ _ h => h) rfl (by rw [hd]; exact hinv.keep hiL (by decide) (by decide) _))⟩
  have s6 : ∀ o, ops[6]? = some o → StepI Try.prog ops (p_ren b node x0 x1 x2 x3 x4 x5 hi b1 b2 b3 b4 PR w0.heap.size) (IS (fun k => k = bz) 22 4 28 PR w0) aZ Q 6 o := by
    refine E6.stepI fun o hd ho hg hw => ?_
    intro y w listed hsz hls hun hwt hdown D' hRR hinv K hK
    have hiL : 6 < listed.size := by rw [hls, hN]; decide
    have nS : listed.getD 22 false = false := E22.down hdown (j := 6) (by simp) hun
    have f2 : y.eval (Operand.tmp 2) = .pointer (some ⟨b, 0, none⟩)   := (hRR 2 (not_of (by rw [hds]; decide))).trans bS2
    exact .inl ⟨wanted_none hg, wp_value (ox_field (v := .pointer (some ⟨b, 1, none⟩)) ho f2 (by simp [go_sem])) (hK _ _ (fun _ _ _ _ _ _ h => h) rfl (by rw [hd]; exact hinv.keep hiL (by decide) (by decide) _))⟩
  have s7 : ∀ o, ops[7]? = some o → StepI Try.prog ops (p_ren b node x0 x1 x2 x3 x4 x5 hi b1 b2 b3 b4 PR w0.heap.size) (IS (fun k => k = bz) 22 4 28 PR w0) aZ Q 7 o := by
    refine E7.stepI fun o hd ho hg hw => ?_
    intro y w listed hsz hls hun hwt hdown D' hRR hinv K hK
    have hiL : 7 < listed.size := by rw [hls, hN]; decide
    have nS : listed.getD 22 false = false := E22.down hdown (j := 7) (by simp) hun
    have f15 : y.eval (Operand.tmp 15) = .pointer (some ⟨b, 1, none⟩) := E6.postI (Post := (p_ren b node x0 x1 x2 x3 x4 x5 hi b1 b2 b3 b4 PR w0.heap.size)) (a := y) (w := w) D' (hwt 6 (hw 6 (by simp)))
    exact .inl ⟨wanted_none hg, wp_value (ox_field (v := .pointer (some ⟨b, 2, none⟩)) ho f15 (by simp [go_sem])) (hK _ _ (fun _ _ _ _ _ _ h => h) rfl (by rw [hd]; exact hinv.keep hiL (by decide) (by decide) _))⟩
  have s8 : ∀ o, ops[8]? = some o → StepI Try.prog ops (p_ren b node x0 x1 x2 x3 x4 x5 hi b1 b2 b3 b4 PR w0.heap.size) (IS (fun k => k = bz) 22 4 28 PR w0) aZ Q 8 o := by
    refine E8.stepI fun o hd ho hg hw => ?_
    intro y w listed hsz hls hun hwt hdown D' hRR hinv K hK
    have hiL : 8 < listed.size := by rw [hls, hN]; decide
    have nS : listed.getD 22 false = false := E22.down hdown (j := 8) (by simp) hun
    have f16 : y.eval (Operand.tmp 16) = .pointer (some ⟨b, 2, none⟩) := E7.postI (Post := (p_ren b node x0 x1 x2 x3 x4 x5 hi b1 b2 b3 b4 PR w0.heap.size)) (a := y) (w := w) D' (hwt 7 (hw 7 (by simp)))
    have h0 := (hinv.pre nS).cell k_b_2 (fun h => h)
    exact .inl ⟨wanted_none hg, wp_value (ox_load (v := .int .i64 x2) ho f16 (by simp [go_sem, h0])) (hK _ _ (fun _ _ _ _ _ _ h => h) rfl (by rw [hd]; exact hinv.keep hiL (by decide) (by decide) _))⟩
  have s9 : ∀ o, ops[9]? = some o → StepI Try.prog ops (p_ren b node x0 x1 x2 x3 x4 x5 hi b1 b2 b3 b4 PR w0.heap.size) (IS (fun k => k = bz) 22 4 28 PR w0) aZ Q 9 o := by
    refine E9.stepI fun o hd ho hg hw => ?_
    intro y w listed hsz hls hun hwt hdown D' hRR hinv K hK
    have hiL : 9 < listed.size := by rw [hls, hN]; decide
    have nS : listed.getD 22 false = false := E22.down hdown (j := 9) (by simp) hun
    have f17 : y.eval (Operand.tmp 17) = .int .i64 x2 := E8.postI (Post := (p_ren b node x0 x1 x2 x3 x4 x5 hi b1 b2 b3 b4 PR w0.heap.size)) (a := y) (w := w) D' (hwt 8 (hw 8 (by simp)))
    refine .inl ⟨wanted_none hg, wp_enter (f := 44) (args := #[.int .i64 x2, .int .i64 8]) ?_ (H9 w  (hinv.pre nS) ) ?_⟩
    · have h := exec_call2 y.eval (fun args w => by simp [go_sem]) rfl ho (w := w)
      rw [f17] at h
      exact h
    · rintro e w' ⟨rfl, hm⟩
      exact ⟨_, rfl, hK _ _ (fun j oj d _ _ _ h => hstay _ _ _ _ hm h) rfl (hinv.call hiL (by decide) nS hm)⟩
  have s10 : ∀ o, ops[10]? = some o → StepI Try.prog ops (p_ren b node x0 x1 x2 x3 x4 x5 hi b1 b2 b3 b4 PR w0.heap.size) (IS (fun k => k = bz) 22 4 28 PR w0) aZ Q 10 o := by
    refine E10.stepI fun o hd ho hg hw => ?_
    intro y w listed hsz hls hun hwt hdown D' hRR hinv K hK
    have hiL : 10 < listed.size := by rw [hls, hN]; decide
    have nS : listed.getD 22 false = false := E22.down hdown (j := 10) (by simp) hun
    have f18 : y.eval (Operand.tmp 18) = .int .i64 b2 := E9.postI (Post := (p_ren b node x0 x1 x2 x3 x4 x5 hi b1 b2 b3 b4 PR w0.heap.size)) (a := y) (w := w) D' (hwt 9 (hw 9 (by simp)))
    exact .inl ⟨wanted_none hg, wp_value (rx_add ho rfl f18) (hK _ _ (fun _ _ _ _ _ _ h => h) rfl (by rw [hd]; exact hinv.keep hiL (by decide) (by decide) _))⟩
  have s11 : ∀ o, ops[11]? = some o → StepI Try.prog ops (p_ren b node x0 x1 x2 x3 x4 x5 hi b1 b2 b3 b4 PR w0.heap.size) (IS (fun k => k = bz) 22 4 28 PR w0) aZ Q 11 o := by
    refine E11.stepI fun o hd ho hg hw => ?_
    intro y w listed hsz hls hun hwt hdown D' hRR hinv K hK
    have hiL : 11 < listed.size := by rw [hls, hN]; decide
    have nS : listed.getD 22 false = false := E22.down hdown (j := 11) (by simp) hun
    have f14 : y.eval (Operand.tmp 14) = .int .i64 (IntKind.i64.wrap ((1 : Int) + b1)) := E5.postI (Post := (p_ren b node x0 x1 x2 x3 x4 x5 hi b1 b2 b3 b4 PR w0.heap.size)) (a := y) (w := w) D' (hwt 5 (hw 5 (by simp)))
    have f19 : y.eval (Operand.tmp 19) = .int .i64 (IntKind.i64.wrap ((1 : Int) + b2)) := E10.postI (Post := (p_ren b node x0 x1 x2 x3 x4 x5 hi b1 b2 b3 b4 PR w0.heap.size)) (a := y) (w := w) D' (hwt 10 (hw 10 (by simp)))
    exact .inl ⟨wanted_none hg, wp_value (ren_bd11 ho (fun _ => rfl) f14 f19) (hK _ _ (fun _ _ _ _ _ _ h => h) rfl (by rw [hd]; exact hinv.keep hiL (by decide) (by decide) _))⟩
  have s12 : ∀ o, ops[12]? = some o → StepI Try.prog ops (p_ren b node x0 x1 x2 x3 x4 x5 hi b1 b2 b3 b4 PR w0.heap.size) (IS (fun k => k = bz) 22 4 28 PR w0) aZ Q 12 o := by
    refine E12.stepI fun o hd ho hg hw => ?_
    intro y w listed hsz hls hun hwt hdown D' hRR hinv K hK
    have hiL : 12 < listed.size := by rw [hls, hN]; decide
    have nS : listed.getD 22 false = false := E22.down hdown (j := 12) (by simp) hun
    have f2 : y.eval (Operand.tmp 2) = .pointer (some ⟨b, 0, none⟩)   := (hRR 2 (not_of (by rw [hds]; decide))).trans bS2
    exact .inl ⟨wanted_none hg, wp_value (ox_field (v := .pointer (some ⟨b, 3, none⟩)) ho f2 (by simp [go_sem])) (hK _ _ (fun _ _ _ _ _ _ h => h) rfl (by rw [hd]; exact hinv.keep hiL (by decide) (by decide) _))⟩
  have s13 : ∀ o, ops[13]? = some o → StepI Try.prog ops (p_ren b node x0 x1 x2 x3 x4 x5 hi b1 b2 b3 b4 PR w0.heap.size) (IS (fun k => k = bz) 22 4 28 PR w0) aZ Q 13 o := by
    refine E13.stepI fun o hd ho hg hw => ?_
    intro y w listed hsz hls hun hwt hdown D' hRR hinv K hK
    have hiL : 13 < listed.size := by rw [hls, hN]; decide
    have nS : listed.getD 22 false = false := E22.down hdown (j := 13) (by simp) hun
    have f21 : y.eval (Operand.tmp 21) = .pointer (some ⟨b, 3, none⟩) := E12.postI (Post := (p_ren b node x0 x1 x2 x3 x4 x5 hi b1 b2 b3 b4 PR w0.heap.size)) (a := y) (w := w) D' (hwt 12 (hw 12 (by simp)))
    have h0 := (hinv.pre nS).cell k_b_3 (fun h => h)
    exact .inl ⟨wanted_none hg, wp_value (ox_load (v := .int .i64 x3) ho f21 (by simp [go_sem, h0])) (hK _ _ (fun _ _ _ _ _ _ h => h) rfl (by rw [hd]; exact hinv.keep hiL (by decide) (by decide) _))⟩
  have s14 : ∀ o, ops[14]? = some o → StepI Try.prog ops (p_ren b node x0 x1 x2 x3 x4 x5 hi b1 b2 b3 b4 PR w0.heap.size) (IS (fun k => k = bz) 22 4 28 PR w0) aZ Q 14 o := by
    refine E14.stepI fun o hd ho hg hw => ?_
    intro y w listed hsz hls hun hwt hdown D' hRR hinv K hK
    have hiL : 14 < listed.size := by rw [hls, hN]; decide
    have nS : listed.getD 22 false = false := E22.down hdown (j := 14) (by simp) hun
    have f5 : y.eval (Operand.tmp 5) = .int .i64 hi   := (hRR 5 (not_of (by rw [hds]; decide))).trans bS5
    exact .inl ⟨wanted_none hg, wp_value (ox_move ho f5) (hK _ _ (fun _ _ _ _ _ _ h => h) rfl (by rw [hd]; exact hinv.keep hiL (by decide) (by decide) _))⟩
  have s15 : ∀ o, ops[15]? = some o → StepI Try.prog ops (p_ren b node x0 x1 x2 x3 x4 x5 hi b1 b2 b3 b4 PR w0.heap.size) (IS (fun k => k = bz) 22 4 28 PR w0) aZ Q 15 o := by
    refine E15.stepI fun o hd ho hg hw => ?_
    intro y w listed hsz hls hun hwt hdown D' hRR hinv K hK
    have hiL : 15 < listed.size := by rw [hls, hN]; decide
    have nS : listed.getD 22 false = false := E22.down hdown (j := 15) (by simp) hun
    have f23 : y.eval (Operand.tmp 23) = .int .i64 hi := E14.postI (Post := (p_ren b node x0 x1 x2 x3 x4 x5 hi b1 b2 b3 b4 PR w0.heap.size)) (a := y) (w := w) D' (hwt 14 (hw 14 (by simp)))
    exact .inl ⟨wanted_none hg, wp_value (rx_add ho f23 rfl) (hK _ _ (fun _ _ _ _ _ _ h => h) rfl (by rw [hd]; exact hinv.keep hiL (by decide) (by decide) _))⟩
  have s16 : ∀ o, ops[16]? = some o → StepI Try.prog ops (p_ren b node x0 x1 x2 x3 x4 x5 hi b1 b2 b3 b4 PR w0.heap.size) (IS (fun k => k = bz) 22 4 28 PR w0) aZ Q 16 o := by
    refine E16.stepI fun o hd ho hg hw => ?_
    intro y w listed hsz hls hun hwt hdown D' hRR hinv K hK
    have hiL : 16 < listed.size := by rw [hls, hN]; decide
    have nS : listed.getD 22 false = false := E22.down hdown (j := 16) (by simp) hun
    have f22 : y.eval (Operand.tmp 22) = .int .i64 x3 := E13.postI (Post := (p_ren b node x0 x1 x2 x3 x4 x5 hi b1 b2 b3 b4 PR w0.heap.size)) (a := y) (w := w) D' (hwt 13 (hw 13 (by simp)))
    have f24 : y.eval (Operand.tmp 24) = .int .i64 (IntKind.i64.wrap (hi + 1)) := E15.postI (Post := (p_ren b node x0 x1 x2 x3 x4 x5 hi b1 b2 b3 b4 PR w0.heap.size)) (a := y) (w := w) D' (hwt 15 (hw 15 (by simp)))
    refine .inl ⟨wanted_none hg, wp_enter (f := 44) (args := #[.int .i64 x3, .int .i64 (IntKind.i64.wrap (hi + 1))]) ?_ (H16 w  (hinv.pre nS) ) ?_⟩
    · have h := exec_call2 y.eval (fun args w => by simp [go_sem]) rfl ho (w := w)
      rw [f22, f24] at h
      exact h
    · rintro e w' ⟨rfl, hm⟩
      exact ⟨_, rfl, hK _ _ (fun j oj d _ _ _ h => hstay _ _ _ _ hm h) rfl (hinv.call hiL (by decide) nS hm)⟩
  have s17 : ∀ o, ops[17]? = some o → StepI Try.prog ops (p_ren b node x0 x1 x2 x3 x4 x5 hi b1 b2 b3 b4 PR w0.heap.size) (IS (fun k => k = bz) 22 4 28 PR w0) aZ Q 17 o := by
    refine E17.stepI fun o hd ho hg hw => ?_
    intro y w listed hsz hls hun hwt hdown D' hRR hinv K hK
    have hiL : 17 < listed.size := by rw [hls, hN]; decide
    have nS : listed.getD 22 false = false := E22.down hdown (j := 17) (by simp) hun
    have f5 : y.eval (Operand.tmp 5) = .int .i64 hi   := (hRR 5 (not_of (by rw [hds]; decide))).trans bS5
    exact .inl ⟨wanted_none hg, wp_value (ox_move ho f5) (hK _ _ (fun _ _ _ _ _ _ h => h) rfl (by rw [hd]; exact hinv.keep hiL (by decide) (by decide) _))⟩
  have s18 : ∀ o, ops[18]? = some o → StepI Try.prog ops (p_ren b node x0 x1 x2 x3 x4 x5 hi b1 b2 b3 b4 PR w0.heap.size) (IS (fun k => k = bz) 22 4 28 PR w0) aZ Q 18 o := by
    refine E18.stepI fun o hd ho hg hw => ?_
    intro y w listed hsz hls hun hwt hdown D' hRR hinv K hK
    have hiL : 18 < listed.size := by rw [hls, hN]; decide
    have nS : listed.getD 22 false = false := E22.down hdown (j := 18) (by simp) hun
    have f2 : y.eval (Operand.tmp 2) = .pointer (some ⟨b, 0, none⟩)   := (hRR 2 (not_of (by rw [hds]; decide))).trans bS2
    exact .inl ⟨wanted_none hg, wp_value (ox_field (v := .pointer (some ⟨b, 5, none⟩)) ho f2 (by simp [go_sem])) (hK _ _ (fun _ _ _ _ _ _ h => h) rfl (by rw [hd]; exact hinv.keep hiL (by decide) (by decide) _))⟩
  have s19 : ∀ o, ops[19]? = some o → StepI Try.prog ops (p_ren b node x0 x1 x2 x3 x4 x5 hi b1 b2 b3 b4 PR w0.heap.size) (IS (fun k => k = bz) 22 4 28 PR w0) aZ Q 19 o := by
    refine E19.stepI fun o hd ho hg hw => ?_
    intro y w listed hsz hls hun hwt hdown D' hRR hinv K hK
    have hiL : 19 < listed.size := by rw [hls, hN]; decide
    have nS : listed.getD 22 false = false := E22.down hdown (j := 19) (by simp) hun
    have f27 : y.eval (Operand.tmp 27) = .pointer (some ⟨b, 5, none⟩) := E18.postI (Post := (p_ren b node x0 x1 x2 x3 x4 x5 hi b1 b2 b3 b4 PR w0.heap.size)) (a := y) (w := w) D' (hwt 18 (hw 18 (by simp)))
    have h0 := (hinv.pre nS).cell k_b_5 (fun h => h)
    exact .inl ⟨wanted_none hg, wp_value (ox_load (v := .int .i64 x5) ho f27 (by simp [go_sem, h0])) (hK _ _ (fun _ _ _ _ _ _ h => h) rfl (by rw [hd]; exact hinv.keep hiL (by decide) (by decide) _))⟩
  have s20 : ∀ o, ops[20]? = some o → StepI Try.prog ops (p_ren b node x0 x1 x2 x3 x4 x5 hi b1 b2 b3 b4 PR w0.heap.size) (IS (fun k => k = bz) 22 4 28 PR w0) aZ Q 20 o := by
    refine E20.stepI fun o hd ho hg hw => ?_
    intro y w listed hsz hls hun hwt hdown D' hRR hinv K hK
    have hiL : 20 < listed.size := by rw [hls, hN]; decide
    have nS : listed.getD 22 false = false := E22.down hdown (j := 20) (by simp) hun
    have f28 : y.eval (Operand.tmp 28) = .int .i64 x5 := E19.postI (Post := (p_ren b node x0 x1 x2 x3 x4 x5 hi b1 b2 b3 b4 PR w0.heap.size)) (a := y) (w := w) D' (hwt 19 (hw 19 (by simp)))
    refine .inl ⟨wanted_none hg, wp_enter (f := 44) (args := #[.int .i64 x5, .int .i64 9007199254740991]) ?_ (H20 w  (hinv.pre nS) ) ?_⟩
    · have h := exec_call2 y.eval (fun args w => by simp [go_sem]) rfl ho (w := w)
      rw [f28] at h
      exact h
    · rintro e w' ⟨rfl, hm⟩
      exact ⟨_, rfl, hK _ _ (fun j oj d _ _ _ h => hstay _ _ _ _ hm h) rfl (hinv.call hiL (by decide) nS hm)⟩
  have s21 : ∀ o, ops[21]? = some o → StepI Try.prog ops (p_ren b node x0 x1 x2 x3 x4 x5 hi b1 b2 b3 b4 PR w0.heap.size) (IS (fun k => k = bz) 22 4 28 PR w0) aZ Q 21 o := by
    refine E21.stepI fun o hd ho hg hw => ?_
    intro y w listed hsz hls hun hwt hdown D' hRR hinv K hK
    have hiL : 21 < listed.size := by rw [hls, hN]; decide
    have nS : listed.getD 22 false = false := E22.down hdown (j := 21) (by simp) hun
    have f9 : y.eval (Operand.tmp 9) = .int .i64 node := E0.postI (Post := (p_ren b node x0 x1 x2 x3 x4 x5 hi b1 b2 b3 b4 PR w0.heap.size)) (a := y) (w := w) D' (hwt 0 (hw 0 (by simp)))
    have f20 : y.eval (Operand.tmp 20) = .agg #[.int .i64 (IntKind.i64.wrap ((1 : Int) + b1)), .int .i64 (IntKind.i64.wrap ((1 : Int) + b2))] := E11.postI (Post := (p_ren b node x0 x1 x2 x3 x4 x5 hi b1 b2 b3 b4 PR w0.heap.size)) (a := y) (w := w) D' (hwt 11 (hw 11 (by simp)))
    have f25 : y.eval (Operand.tmp 25) = .int .i64 b3 := E16.postI (Post := (p_ren b node x0 x1 x2 x3 x4 x5 hi b1 b2 b3 b4 PR w0.heap.size)) (a := y) (w := w) D' (hwt 16 (hw 16 (by simp)))
    have f26 : y.eval (Operand.tmp 26) = .int .i64 hi := E17.postI (Post := (p_ren b node x0 x1 x2 x3 x4 x5 hi b1 b2 b3 b4 PR w0.heap.size)) (a := y) (w := w) D' (hwt 17 (hw 17 (by simp)))
    have f29 : y.eval (Operand.tmp 29) = .int .i64 b4 := E20.postI (Post := (p_ren b node x0 x1 x2 x3 x4 x5 hi b1 b2 b3 b4 PR w0.heap.size)) (a := y) (w := w) D' (hwt 20 (hw 20 (by simp)))
    exact .inl ⟨wanted_none hg, wp_value (ren_bd21 ho (fun _ => rfl) f9 f20 f25 f26 f29) (hK _ _ (fun _ _ _ _ _ _ h => h) (hPRb _) (by rw [hd]; exact hinv.keep hiL (by decide) (by decide) _))⟩
  have s22 : ∀ o, ops[22]? = some o → StepI Try.prog ops (p_ren b node x0 x1 x2 x3 x4 x5 hi b1 b2 b3 b4 PR w0.heap.size) (IS (fun k => k = bz) 22 4 28 PR w0) aZ Q 22 o := by
    refine E22.stepI fun o hd ho hg hw => ?_
    intro y w listed hsz hls hun hwt hdown D' hRR hinv K hK
    have hiL : 22 < listed.size := by rw [hls, hN]; decide
    have f4 : y.eval (Operand.tmp 4) = .pointer (some ⟨bz, 0, none⟩)   := (hRR 4 (not_of (by rw [hds]; decide))).trans bS4
    have q30 : PR w (y.eval (Operand.tmp 30)) := E21.postI (Post := (p_ren b node x0 x1 x2 x3 x4 x5 hi b1 b2 b3 b4 PR w0.heap.size)) (a := y) (w := w) D' (hwt 21 (hw 21 (by simp)))
    obtain ⟨xs, hB0, hx⟩ := hbz
    have hB := hB0.mod (hinv.pre hun) (fun h => h)
    obtain ⟨cs, fv, hn, h1⟩ := hPRf _ _ q30
    refine .inl ⟨wanted_none hg, wp_store_mid (P := Try.prog) 28 _ _ ho bz 0 cs f4 fv (hB.there (by rw [hx, hn]; decide)) (by rw [ren_info, hn]) (by rw [← Array.all_toList]; exact h1) (hK _ _ ?_ trivial ?_)⟩
    · exact fun j oj d _ _ _ h => p_ren_store _ _ _ _ _ _ _ _ _ _ _ _ _ _ _ hPRs j _ w bz xs cs hB (by rw [hx, hn]) hn h
    · rw [hd, put_none]
      refine ⟨(hinv.pre hun).trans (setCells_mod bz cs.toList 0 w) (V := fun k => k = bz) (fun _ _ h => h.elim) (fun k _ e => e), fun h => (by rw [getD_set hiL, if_pos rfl] at h; cases h), fun _ => ⟨bz, cs, f4, hB.whole cs (by rw [hx, hn]), ?_⟩⟩
      rw [fv] at q30
      exact hPRs _ _ _ _ _ q30 hB
  refine region_freeI (Post := (p_ren b node x0 x1 x2 x3 x4 x5 hi b1 b2 b3 b4 PR w0.heap.size)) (Inv := (IS (fun k => k = bz) 22 4 28 PR w0)) mixed (low_of hlow) (fun i o ho => by rw [ha0]; exact dst_of (by rw [hds]; decide) i o ho) (inj_of hnd) ⟨(Mod.refl _ _).drew, fun _ => (Mod.refl _ _).drew, fun h => (by rw [hN] at h; cases h)⟩ ?_ ?_
  · intro i o ho
    have hi : i < 23 := by
      rw [← hN]
      rcases Nat.lt_or_ge i ops.size with h | h
      · exact h
      · rw [Array.getElem?_eq_none h] at ho; cases ho
    clear hend
    by_cases e0 : i = 0
    · subst e0; exact s0 o ho
    by_cases e1 : i = 1
    · subst e1; exact s1 o ho
    by_cases e2 : i = 2
    · subst e2; exact s2 o ho
    by_cases e3 : i = 3
    · subst e3; exact s3 o ho
    by_cases e4 : i = 4
    · subst e4; exact s4 o ho
    by_cases e5 : i = 5
    · subst e5; exact s5 o ho
    by_cases e6 : i = 6
    · subst e6; exact s6 o ho
    by_cases e7 : i = 7
    · subst e7; exact s7 o ho
    by_cases e8 : i = 8
    · subst e8; exact s8 o ho
    by_cases e9 : i = 9
    · subst e9; exact s9 o ho
    by_cases e10 : i = 10
    · subst e10; exact s10 o ho
    by_cases e11 : i = 11
    · subst e11; exact s11 o ho
    by_cases e12 : i = 12
    · subst e12; exact s12 o ho
    by_cases e13 : i = 13
    · subst e13; exact s13 o ho
    by_cases e14 : i = 14
    · subst e14; exact s14 o ho
    by_cases e15 : i = 15
    · subst e15; exact s15 o ho
    by_cases e16 : i = 16
    · subst e16; exact s16 o ho
    by_cases e17 : i = 17
    · subst e17; exact s17 o ho
    by_cases e18 : i = 18
    · subst e18; exact s18 o ho
    by_cases e19 : i = 19
    · subst e19; exact s19 o ho
    by_cases e20 : i = 20
    · subst e20; exact s20 o ho
    by_cases e21 : i = 21
    · subst e21; exact s21 o ho
    by_cases e22 : i = 22
    · subst e22; exact s22 o ho
    omega
  · intro y w listed hsz hdf hls hall hinv hPO hRE
    obtain ⟨z, cells, gz, hBz, hPz⟩ := hinv.post (hall 22 (by rw [hN]; decide))
    have hzb : z = bz := by
      have g1 := (hRE 4 (not_of (by rw [hds]; decide))).trans bS4
      rw [gz] at g1
      simpa only [Value.pointer.injEq, Option.some.injEq, Addr.mk.injEq, and_true] using g1
    subst hzb
    have e : y = puts aZ [(9, .int .i64 node), (10, .pointer (some ⟨b, 1, none⟩)), (11, .pointer (some ⟨b, 1, none⟩)), (12, .int .i64 x1), (13, .int .i64 b1), (14, .int .i64 (IntKind.i64.wrap ((1 : Int) + b1))), (15, .pointer (some ⟨b, 1, none⟩)), (16, .pointer (some ⟨b, 2, none⟩)), (17, .int .i64 x2), (18, .int .i64 b2), (19, .int .i64 (IntKind.i64.wrap ((1 : Int) + b2))), (20, .agg #[.int .i64 (IntKind.i64.wrap ((1 : Int) + b1)), .int .i64 (IntKind.i64.wrap ((1 : Int) + b2))]), (21, .pointer (some ⟨b, 3, none⟩)), (22, .int .i64 x3), (23, .int .i64 hi), (24, .int .i64 (IntKind.i64.wrap (hi + 1))), (25, .int .i64 b3), (26, .int .i64 hi), (27, .pointer (some ⟨b, 5, none⟩)), (28, .int .i64 x5), (29, .int .i64 b4), (30, y.tmps.getD 30 undef)] := by
      refine eq_puts hsz hdf (nodup_of (D := [some 9, some 10, some 11, some 12, some 13, some 14, some 15, some 16, some 17, some 18, some 19, some 20, some 21, some 22, some 23, some 24, some 25, some 26, some 27, some 28, some 29, some 30]) rfl (by decide)) (by rw [ha0]; simp) ?_ ?_
      · intro q hq
        simp only [List.mem_cons, List.not_mem_nil, or_false] at hq
        rcases hq with rfl | rfl | rfl | rfl | rfl | rfl | rfl | rfl | rfl | rfl | rfl | rfl | rfl | rfl | rfl | rfl | rfl | rfl | rfl | rfl | rfl | rfl
        · obtain ⟨o, h1, h2, _⟩ := E0.ex
          exact hPO 0 o _ h1 h2
        · obtain ⟨o, h1, h2, _⟩ := E1.ex
          exact hPO 1 o _ h1 h2
        · obtain ⟨o, h1, h2, _⟩ := E2.ex
          exact hPO 2 o _ h1 h2
        · obtain ⟨o, h1, h2, _⟩ := E3.ex
          exact hPO 3 o _ h1 h2
        · obtain ⟨o, h1, h2, _⟩ := E4.ex
          exact hPO 4 o _ h1 h2
        · obtain ⟨o, h1, h2, _⟩ := E5.ex
          exact hPO 5 o _ h1 h2
        · obtain ⟨o, h1, h2, _⟩ := E6.ex
          exact hPO 6 o _ h1 h2
        · obtain ⟨o, h1, h2, _⟩ := E7.ex
          exact hPO 7 o _ h1 h2
        · obtain ⟨o, h1, h2, _⟩ := E8.ex
          exact hPO 8 o _ h1 h2
        · obtain ⟨o, h1, h2, _⟩ := E9.ex
          exact hPO 9 o _ h1 h2
        · obtain ⟨o, h1, h2, _⟩ := E10.ex
          exact hPO 10 o _ h1 h2
        · obtain ⟨o, h1, h2, _⟩ := E11.ex
          exact hPO 11 o _ h1 h2
        · obtain ⟨o, h1, h2, _⟩ := E12.ex
          exact hPO 12 o _ h1 h2
        · obtain ⟨o, h1, h2, _⟩ := E13.ex
          exact hPO 13 o _ h1 h2
        · obtain ⟨o, h1, h2, _⟩ := E14.ex
          exact hPO 14 o _ h1 h2
        · obtain ⟨o, h1, h2, _⟩ := E15.ex
          exact hPO 15 o _ h1 h2
        · obtain ⟨o, h1, h2, _⟩ := E16.ex
          exact hPO 16 o _ h1 h2
        · obtain ⟨o, h1, h2, _⟩ := E17.ex
          exact hPO 17 o _ h1 h2
        · obtain ⟨o, h1, h2, _⟩ := E18.ex
          exact hPO 18 o _ h1 h2
        · obtain ⟨o, h1, h2, _⟩ := E19.ex
          exact hPO 19 o _ h1 h2
        · obtain ⟨o, h1, h2, _⟩ := E20.ex
          exact hPO 20 o _ h1 h2
        · rfl
      · intro t ht
        exact hRE t (not_of (by rw [hds]; exact not_cont rfl ht))
    rw [e]
    exact hend (fun d => y.tmps.getD d undef) w cells hinv.mod hBz hPz
theorem bring_at (x : Int) (m : Nat) (b : Int) (hb : b = m) (w : World) (h0 : 0 < m) (hm : m ≤ 1152921504606846976) (h : I64 x) : Calls Try.prog 44 #[.int .i64 x, .int .i64 b] w fun e w' => e = .returned (.int .i64 (br x b)) ∧ w' = w := by
  subst hb
  exact bring x m w h0 hm h
set_option maxRecDepth 100000 in
set_option maxHeartbeats 4000000 in
theorem entry_any (x : Ey) (node : Int) (w : World) (hx : EI x) : Calls Try.prog 26 #[.agg (eyc x), .int .i64 node] w fun e w' => e = .returned (.agg (eyc (enE x node))) ∧ Mod (fun _ => False) w w' := by
  obtain ⟨x0, x1, x2, x3, x4, x5⟩ := x
  obtain ⟨_, i1, i2, i3, i4, i5⟩ := hx
  simp only at *
  have hM := ((Mod.refl (fun _ => False) w).alloc (.cells #[.int .i64 x0, .int .i64 x1, .int .i64 x2, .int .i64 x3, .int .i64 x4, .int .i64 x5] 28)).alloc (.cells #[.int .i64 0, .int .i64 0, .int .i64 0, .int .i64 0, .int .i64 0, .int .i64 0] 28)
  have hB := (Bk.new w #[.int .i64 x0, .int .i64 x1, .int .i64 x2, .int .i64 x3, .int .i64 x4, .int .i64 x5] 28).mod ((Mod.refl (fun _ => False) _).alloc (.cells #[.int .i64 0, .int .i64 0, .int .i64 0, .int .i64 0, .int .i64 0, .int .i64 0] 28)) (fun h => h)
  have hB1 := Bk.new (w.alloc (.cells #[.int .i64 x0, .int .i64 x1, .int .i64 x2, .int .i64 x3, .int .i64 x4, .int .i64 x5] 28)) #[.int .i64 0, .int .i64 0, .int .i64 0, .int .i64 0, .int .i64 0, .int .i64 0] 28
  simp only [World.size_alloc] at hB1
  have c := br_lt x4 9007199254740992 (by omega) 9007199254740992 rfl
  have q1 := br_lt x1 1000 (by omega) 1000 rfl
  have q2 := br_lt x2 8 (by omega) 8 rfl
  have hw1 : IntKind.i64.wrap ((1 : Int) + br x1 1000) = 1 + br x1 1000 := by rw [IntKind.wrap_i64]; omega
  have hw2 : IntKind.i64.wrap ((1 : Int) + br x2 8) = 1 + br x2 8 := by rw [IntKind.wrap_i64]; omega
  have hw3 : IntKind.i64.wrap (br x4 9007199254740992 + (1 : Int)) = br x4 9007199254740992 + 1 := by rw [IntKind.wrap_i64]; omega
  have K0 := fun W => bring_at x4 9007199254740992 9007199254740992 rfl W (by omega) (by omega) i4
  have K1 := fun W => bring_at x1 1000 1000 rfl W (by omega) (by omega) i1
  have K2 := fun W => bring_at x2 8 8 rfl W (by omega) (by omega) i2
  have K3 := fun W => bring_at x3 ((br x4 9007199254740992).toNat + 1) (IntKind.i64.wrap (br x4 9007199254740992 + (1 : Int))) (by rw [hw3]; omega) W (by omega) (by omega) i3
  have K4 := fun W => bring_at x5 9007199254740991 9007199254740991 rfl W (by omega) (by omega) i5
  have hres : (.agg (eyc (enE ⟨x0, x1, x2, x3, x4, x5⟩ node)) : Value) = .agg #[.int .i64 node, .int .i64 (IntKind.i64.wrap ((1 : Int) + br x1 1000)), .int .i64 (IntKind.i64.wrap ((1 : Int) + br x2 8)), .int .i64 (br x3 (br x4 9007199254740992 + 1)), .int .i64 (br x4 9007199254740992), .int .i64 (br x5 9007199254740991)] := by rw [hw1, hw2]; rfl
  rw [hres]
  have e3 : br x3 (IntKind.i64.wrap (br x4 9007199254740992 + (1 : Int))) = br x3 (br x4 9007199254740992 + 1) := by rw [hw3]
  rw [e3] at K3
  clear hres hw1 hw2 hw3 e3 q1 q2 c
  go_enter Try.func26, Try.ntmps26
  go_wp2_with (fail)
  refine (K0 _).mono ?_
  rintro e w1 ⟨rfl, rfl⟩
  clear K0
  go_upto_region 2 with fail
  refine ren w.heap.size node x0 x1 x2 x3 x4 x5 (br x4 9007199254740992) (br x1 1000) (br x2 8) (br x3 (br x4 9007199254740992 + 1)) (br x5 9007199254740991) (fun _ v => v = .agg #[.int .i64 node, .int .i64 (IntKind.i64.wrap ((1 : Int) + br x1 1000)), .int .i64 (IntKind.i64.wrap ((1 : Int) + br x2 8)), .int .i64 (br x3 (br x4 9007199254740992 + 1)), .int .i64 (br x4 9007199254740992), .int .i64 (br x5 9007199254740991)]) (w.heap.size + 1) ⟨⟨⟨_, rfl, rfl, rfl, rfl, by decide +kernel⟩⟩, ⟨⟨_, rfl, rfl, rfl, rfl, by decide +kernel⟩⟩, ⟨⟨_, rfl, rfl, rfl, rfl, by decide +kernel⟩⟩, ⟨⟨_, rfl, rfl, rfl, rfl, by decide +kernel⟩⟩, ⟨⟨_, rfl, rfl, rfl, rfl, by decide +kernel⟩⟩, ⟨⟨_, rfl, rfl, rfl, rfl, by decide +kernel⟩⟩, ⟨⟨_, rfl, rfl, rfl, rfl, by decide +kernel⟩⟩, ⟨⟨_, rfl, rfl, rfl, rfl, by decide +kernel⟩⟩, ⟨⟨_, rfl, rfl, rfl, rfl, by decide +kernel⟩⟩, ⟨⟨_, rfl, rfl, rfl, rfl, by decide +kernel⟩⟩, ⟨⟨_, rfl, rfl, rfl, rfl, by decide +kernel⟩⟩, ⟨⟨_, rfl, rfl, rfl, rfl, by decide +kernel⟩⟩, ⟨⟨_, rfl, rfl, rfl, rfl, by decide +kernel⟩⟩, ⟨⟨_, rfl, rfl, rfl, rfl, by decide +kernel⟩⟩, ⟨⟨_, rfl, rfl, rfl, rfl, by decide +kernel⟩⟩, ⟨⟨_, rfl, rfl, rfl, rfl, by decide +kernel⟩⟩, ⟨⟨_, rfl, rfl, rfl, rfl, by decide +kernel⟩⟩, ⟨⟨_, rfl, rfl, rfl, rfl, by decide +kernel⟩⟩, ⟨⟨_, rfl, rfl, rfl, rfl, by decide +kernel⟩⟩, ⟨⟨_, rfl, rfl, rfl, rfl, by decide +kernel⟩⟩, ⟨⟨_, rfl, rfl, rfl, rfl, by decide +kernel⟩⟩, ⟨⟨_, rfl, rfl, rfl, rfl, by decide +kernel⟩⟩, ⟨⟨_, rfl, rfl, rfl, rfl, by decide +kernel⟩⟩⟩ rfl (by decide +kernel) rfl (by decide +kernel) rfl rfl rfl rfl rfl (hB.cellv rfl) (hB.cellv rfl) (hB.cellv rfl) (hB.cellv rfl) (hB.cellv rfl) (hB.cellv rfl) (fun _ _ _ _ h => h) (fun _ _ _ _ _ h _ => h) (fun _ _ h => ⟨_, h, rfl, rfl⟩) (fun _ => rfl) ⟨_, hB1, rfl⟩ (fun W _ => (K1 W).mono fun _ _ h => ⟨h.1, h.2 ▸ Mod.refl _ _⟩) (fun W _ => (K2 W).mono fun _ _ h => ⟨h.1, h.2 ▸ Mod.refl _ _⟩) (fun W _ => (K3 W).mono fun _ _ h => ⟨h.1, h.2 ▸ Mod.refl _ _⟩) (fun W _ => (K4 W).mono fun _ _ h => ⟨h.1, h.2 ▸ Mod.refl _ _⟩) ?_
  intro f w1 cells hm1 hBz hv
  simp only [Value.agg.injEq] at hv
  subst hv
  simp only [puts, Act.put, List.setIfInBounds_toArray, List.set_cons_succ, List.set_cons_zero]
  have hmF : Mod (fun _ => False) w w1 := hM.trans hm1 (V := fun _ => False) (fun _ _ h => h) (fun i hi h => by omega)
  clear hM hB hB1 K1 K2 K3 K4 hm1
  go_wp2
  exact bodyPost_ret (resT infoE Try.underlying28 rfl rfl rfl hBz rfl) rfl ⟨rfl, hmF⟩
theorem rr18_bd3 {o : Oper} {w : World} {ρ : Operand → Value} (ho : o.op = Op.build 23 #[(0, Operand.const (Value.int IntKind.i64 1001)), (1, Operand.tmp 65)]) (hc : ∀ v, ρ (Operand.const v) = v) {a65 : Int} (h65 : ρ (Operand.tmp 65) = .int .i64 a65) : (execOp ρ o).run Try.prog w = .ok (.value (.agg #[.int .i64 1001, .int .i64 a65])) w := by
  simp [execOp, ho, hc, h65, go_sem]
theorem rr18_info : (Try.prog.info? 26).map (·.size) = some 5 := by kernel_rfl
theorem rr18_al {o : Oper} {ρ : Operand → Value} {w : World} (ho : o.op = .alloc 26) : (execOp ρ o).run Try.prog w = .ok (.value (.pointer (some ⟨w.heap.size, 0, none⟩))) (w.alloc (.cells #[.int .i64 0, .int .i64 0, .int .i64 0, .int .i64 0, .slice none 0 0] 26)) := by
  simp [execOp, ho, go_sem]
/-- What is said of a slot. -/
def p_rr18 (nb ab : Nat) (nl nc al ac : Nat) (M n0 : Int) (a0 a1 a2 a3 a4 a5 : Int) (PR : World → Value → Prop) (H0 : Nat) (i : Nat) (v : Value) (_w : World) : Prop :=
  match i with
  | 0 => v = .slice (some ⟨nb, 0, none⟩) nl nc
  | 1 => v = .pointer (some ⟨nb, 0, none⟩)
  | 2 => v = .int .i64 n0
  | 3 => v = .agg #[.int .i64 1001, .int .i64 n0]
  | 4 => v = .int .i64 M
  | 5 => v = .slice (some ⟨ab, 0, none⟩) al ac
  | 6 => v = .pointer (some ⟨ab, 0, none⟩)
  | 7 => v = .agg #[.int .i64 a0, .int .i64 a1, .int .i64 a2, .int .i64 a3, .int .i64 a4, .int .i64 a5]
  | 8 => ∃ v', v = .tuple #[v', .int .i64 0] ∧ PR _w v'
  | 9 => ∃ v', v = .tuple #[v', .int .i64 0] ∧ PR _w v'
  | 10 => PR _w v
  | 11 => v = .int .i64 0
  | 12 => ∃ (z : Nat) (xs : Array Value), v = .pointer (some ⟨z, 0, none⟩) ∧ H0 ≤ z ∧ Bk _w z 26 xs ∧ xs.size = 5
  | 14 => v = .int .i64 0
  | _ => True
theorem p_rr18_stab (nb ab : Nat) (nl nc al ac : Nat) (M n0 : Int) (a0 a1 a2 a3 a4 a5 : Int) (PR : World → Value → Prop) (H0 : Nat) (hPRm : ∀ (w w' : World) (v : Value), Mod (fun _ => False) w w' → PR w v → PR w' v) : ∀ i v w w', Mod (fun _ => False) w w' → (p_rr18 nb ab nl nc al ac M n0 a0 a1 a2 a3 a4 a5 PR H0) i v w → (p_rr18 nb ab nl nc al ac M n0 a0 a1 a2 a3 a4 a5 PR H0) i v w' := by
  intro i v w w' hm h
  unfold p_rr18 at h ⊢
  split at h
  case h_9 => obtain ⟨v', h1, h2⟩ := h; exact ⟨v', h1, hPRm _ _ _ hm h2⟩
  case h_10 => obtain ⟨v', h1, h2⟩ := h; exact ⟨v', h1, hPRm _ _ _ hm h2⟩
  case h_11 => exact hPRm _ _ _ hm h
  case h_13 => obtain ⟨z, xs, h1, h2, h3, h4⟩ := h; exact ⟨z, xs, h1, h2, h3.mod hm (fun h => h), h4⟩
  all_goals exact h
theorem p_rr18_store (nb ab : Nat) (nl nc al ac : Nat) (M n0 : Int) (a0 a1 a2 a3 a4 a5 : Int) (PR : World → Value → Prop) (H0 : Nat) (hPRs : ∀ (w : World) (z : Nat) (xs cs : Array Value) (v : Value), PR w v → Bk w z 26 xs → PR (w.setCells z 0 cs.toList) v) : ∀ i v w z xs (cs : Array Value), Bk w z 26 xs → xs.size = cs.size → cs.size = 5 → (p_rr18 nb ab nl nc al ac M n0 a0 a1 a2 a3 a4 a5 PR H0) i v w → (p_rr18 nb ab nl nc al ac M n0 a0 a1 a2 a3 a4 a5 PR H0) i v (w.setCells z 0 cs.toList) := by
  intro i v w z xs cs hb hsz hn h
  unfold p_rr18 at h ⊢
  split at h
  case h_9 => obtain ⟨v', h1, h2⟩ := h; exact ⟨v', h1, hPRs _ _ _ _ _ h2 hb⟩
  case h_10 => obtain ⟨v', h1, h2⟩ := h; exact ⟨v', h1, hPRs _ _ _ _ _ h2 hb⟩
  case h_11 => exact hPRs _ _ _ _ _ h hb
  case h_13 =>
    obtain ⟨y, ys, h1, h2, h3, h4⟩ := h
    by_cases e : y = z
    · subst e; exact ⟨y, _, h1, h2, hb.whole cs hsz, hn⟩
    · exact ⟨y, ys, h1, h2, h3.mod (setCells_mod z cs.toList 0 w) e, h4⟩
  all_goals exact h
/-- Its operations. -/
structure O_rr18 (ops : Array Oper) : Prop where
  e0 : Is ops 0 (some 63) (Op.move (Operand.tmp 5)) none []
  e1 : Is ops 1 (some 64) (Op.indexAddr 44 (Operand.tmp 63) (Operand.const (Value.int IntKind.i64 0))) none [0]
  e2 : Is ops 2 (some 65) (Op.load 3 (Operand.tmp 64)) none [1]
  e3 : Is ops 3 (some 66) (Op.build 23 #[(0, Operand.const (Value.int IntKind.i64 1001)), (1, Operand.tmp 65)]) none [2]
  e4 : Is ops 4 (some 67) (Op.move (Operand.tmp 0)) none []
  e5 : Is ops 5 (some 68) (Op.move (Operand.tmp 7)) none []
  e6 : Is ops 6 (some 69) (Op.indexAddr 24 (Operand.tmp 68) (Operand.const (Value.int IntKind.i64 0))) none [5]
  e7 : Is ops 7 (some 70) (Op.load 28 (Operand.tmp 69)) none [6]
  e8 : Is ops 8 (some 71) (Op.call { callee := Callee.value (Operand.func 9), args := #[Operand.tmp 66, Operand.tmp 67, Operand.tmp 70], argTypes := #[23, 3, 28] }) none [3, 4, 7]
  e9 : Is ops 9 (some 62) (Op.move (Operand.tmp 71)) none [8]
  e10 : Is ops 10 (some 72) (Op.extract (Operand.tmp 62) 0) none [9]
  e11 : Is ops 11 (some 73) (Op.extract (Operand.tmp 62) 1) none [9]
  e12 : Is ops 12 (some 11) (Op.alloc 26) none []
  e13 : Is ops 13 none (Op.store 26 (Operand.tmp 11) (Operand.tmp 72)) none [0, 1, 2, 3, 4, 5, 6, 7, 8, 9, 10, 12]
  e14 : Is ops 14 (some 12) (Op.assign (Operand.tmp 73)) none [0, 1, 2, 3, 4, 5, 6, 7, 8, 9, 10, 11, 12, 13]
set_option maxRecDepth 100000 in
set_option maxHeartbeats 4000000 in
theorem rr18 {ops : Array Oper} {id : Nat} {aZ : Act} {w0 : World} {Q : Exit → Act → World → Prop} (nb ab : Nat) (nl nc al ac : Nat) (M n0 : Int) (a0 a1 a2 a3 a4 a5 : Int) (PR : World → Value → Prop)
    (E : O_rr18 ops) (hN : ops.size = 15) (hlow : lowB ops = true) (hds : dsts ops = [some 63, some 64, some 65, some 66, some 67, some 68, some 69, some 70, some 71, some 62, some 72, some 73, some 11, none, some 12]) (hnd : injB ops = true) (ha0 : aZ.tmps.size = 185)
    (bS0 : aZ.tmps.getD 0 undef = .int .i64 M)
    (bS5 : aZ.tmps.getD 5 undef = .slice (some ⟨nb, 0, none⟩) nl nc)
    (bS7 : aZ.tmps.getD 7 undef = .slice (some ⟨ab, 0, none⟩) al ac)
    (k_nb_0 : w0.cell? ⟨nb, 0, none⟩ = some (.int .i64 n0))
    (k_ab_0 : w0.cell? ⟨ab, 0, none⟩ = some (.int .i64 a0))
    (k_ab_1 : w0.cell? ⟨ab, 1, none⟩ = some (.int .i64 a1))
    (k_ab_2 : w0.cell? ⟨ab, 2, none⟩ = some (.int .i64 a2))
    (k_ab_3 : w0.cell? ⟨ab, 3, none⟩ = some (.int .i64 a3))
    (k_ab_4 : w0.cell? ⟨ab, 4, none⟩ = some (.int .i64 a4))
    (k_ab_5 : w0.cell? ⟨ab, 5, none⟩ = some (.int .i64 a5))
    (hnl : 0 < nl)
    (hal : 0 < al)
    (hPRm : ∀ (w w' : World) (v : Value), Mod (fun _ => False) w w' → PR w v → PR w' v)
    (hPRs : ∀ (w : World) (z : Nat) (xs cs : Array Value) (v : Value), PR w v → Bk w z 26 xs → PR (w.setCells z 0 cs.toList) v)
    (hPRf : ∀ (w : World) (v : Value), PR w v → ∃ cs : Array Value, v = .agg cs ∧ cs.size = 5 ∧ cs.toList.all (·.oneCell') = true)
    (H8 : ∀ (W : World), Mod (fun _ => False) w0 W → Calls Try.prog 9 #[.agg #[.int .i64 1001, .int .i64 n0], .int .i64 M, .agg #[.int .i64 a0, .int .i64 a1, .int .i64 a2, .int .i64 a3, .int .i64 a4, .int .i64 a5]] W fun e w' => ∃ v', e = .returned (.tuple #[v', .int .i64 0]) ∧ PR w' v' ∧ Mod (fun _ => False) W w')
    (hend : ∀ (f : Nat → Value) (w : World) (z : Nat) (cells : Array Value), Mod (fun _ => False) w0 w → w0.heap.size ≤ z → Bk w z 26 cells → PR w (.agg cells) → Q .normal (puts aZ [(63, .slice (some ⟨nb, 0, none⟩) nl nc), (64, .pointer (some ⟨nb, 0, none⟩)), (65, .int .i64 n0), (66, .agg #[.int .i64 1001, .int .i64 n0]), (67, .int .i64 M), (68, .slice (some ⟨ab, 0, none⟩) al ac), (69, .pointer (some ⟨ab, 0, none⟩)), (70, .agg #[.int .i64 a0, .int .i64 a1, .int .i64 a2, .int .i64 a3, .int .i64 a4, .int .i64 a5]), (71, f 71), (62, f 62), (72, f 72), (73, .int .i64 0), (11, .pointer (some ⟨z, 0, none⟩)), (12, .int .i64 0)]) w) :
    (Code.region id ops true).wp Try.prog Q aZ w0 := by
  obtain ⟨E0, E1, E2, E3, E4, E5, E6, E7, E8, E9, E10, E11, E12, E13, E14⟩ := E
  have hstay : ∀ (i : Nat) (v : Value) (w w1 : World), Mod (fun _ => False) w w1 → (p_rr18 nb ab nl nc al ac M n0 a0 a1 a2 a3 a4 a5 PR w0.heap.size) i v w → (p_rr18 nb ab nl nc al ac M n0 a0 a1 a2 a3 a4 a5 PR w0.heap.size) i v w1 := fun i v w w' hm h => p_rr18_stab _ _ _ _ _ _ _ _ _ _ _ _ _ _ _ _ hPRm i v w w' hm h
  have s0 : ∀ o, ops[0]? = some o → StepI Try.prog ops (p_rr18 nb ab nl nc al ac M n0 a0 a1 a2 a3 a4 a5 PR w0.heap.size) (IS (fun _ => False) 13 11 26 PR w0) aZ Q 0 o := by
    refine E0.stepI fun o hd ho hg hw => ?_
    intro y w listed hsz hls hun hwt hdown D' hRR hinv K hK
    have hiL : 0 < listed.size := by rw [hls, hN]; decide
    have nS : listed.getD 13 false = false := E13.down hdown (j := 0) (by simp) hun
    have f5 : y.eval (Operand.tmp 5) = .slice (some ⟨nb, 0, none⟩) nl nc   := (hRR 5 (not_of (by rw [hds]; decide))).trans bS5
    exact .inl ⟨wanted_none hg, wp_value (ox_move ho f5) (hK _ _ (fun _ _ _ _ _ _ h => h) rfl (by rw [hd]; exact hinv.keep hiL (by decide) (by decide) _))⟩
  have s1 : ∀ o, ops[1]? = some o → StepI Try.prog ops (p_rr18 nb ab nl nc al ac M n0 a0 a1 a2 a3 a4 a5 PR w0.heap.size) (IS (fun _ => False) 13 11 26 PR w0) aZ Q 1 o := by
    refine E1.stepI fun o hd ho hg hw => ?_
    intro y w listed hsz hls hun hwt hdown D' hRR hinv K hK
    have hiL : 1 < listed.size := by rw [hls, hN]; decide
    have nS : listed.getD 13 false = false := E13.down hdown (j := 1) (by simp) hun
    have f63 : y.eval (Operand.tmp 63) = .slice (some ⟨nb, 0, none⟩) nl nc := E0.postI (Post := (p_rr18 nb ab nl nc al ac M n0 a0 a1 a2 a3 a4 a5 PR w0.heap.size)) (a := y) (w := w) D' (hwt 0 (hw 0 (by simp)))
    exact .inl ⟨wanted_none hg, wp_value (ox_index (v := .pointer (some ⟨nb, 0, none⟩)) ho f63 rfl (by simp [go_sem, hnl])) (hK _ _ (fun _ _ _ _ _ _ h => h) rfl (by rw [hd]; exact hinv.keep hiL (by decide) (by decide) _))⟩
  have s2 : ∀ o, ops[2]? = some o → StepI Try.prog ops (p_rr18 nb ab nl nc al ac M n0 a0 a1 a2 a3 a4 a5 PR w0.heap.size) (IS (fun _ => False) 13 11 26 PR w0) aZ Q 2 o := by
    refine E2.stepI fun o hd ho hg hw => ?_
    intro y w listed hsz hls hun hwt hdown D' hRR hinv K hK
    have hiL : 2 < listed.size := by rw [hls, hN]; decide
    have nS : listed.getD 13 false = false := E13.down hdown (j := 2) (by simp) hun
    have f64 : y.eval (Operand.tmp 64) = .pointer (some ⟨nb, 0, none⟩) := E1.postI (Post := (p_rr18 nb ab nl nc al ac M n0 a0 a1 a2 a3 a4 a5 PR w0.heap.size)) (a := y) (w := w) D' (hwt 1 (hw 1 (by simp)))
    have h0 := (hinv.pre nS).cell k_nb_0 (fun h => h)
    exact .inl ⟨wanted_none hg, wp_value (ox_load (v := .int .i64 n0) ho f64 (by simp [go_sem, h0])) (hK _ _ (fun _ _ _ _ _ _ h => h) rfl (by rw [hd]; exact hinv.keep hiL (by decide) (by decide) _))⟩
  have s3 : ∀ o, ops[3]? = some o → StepI Try.prog ops (p_rr18 nb ab nl nc al ac M n0 a0 a1 a2 a3 a4 a5 PR w0.heap.size) (IS (fun _ => False) 13 11 26 PR w0) aZ Q 3 o := by
    refine E3.stepI fun o hd ho hg hw => ?_
    intro y w listed hsz hls hun hwt hdown D' hRR hinv K hK
    have hiL : 3 < listed.size := by rw [hls, hN]; decide
    have nS : listed.getD 13 false = false := E13.down hdown (j := 3) (by simp) hun
    have f65 : y.eval (Operand.tmp 65) = .int .i64 n0 := E2.postI (Post := (p_rr18 nb ab nl nc al ac M n0 a0 a1 a2 a3 a4 a5 PR w0.heap.size)) (a := y) (w := w) D' (hwt 2 (hw 2 (by simp)))
    exact .inl ⟨wanted_none hg, wp_value (rr18_bd3 ho (fun _ => rfl) f65) (hK _ _ (fun _ _ _ _ _ _ h => h) rfl (by rw [hd]; exact hinv.keep hiL (by decide) (by decide) _))⟩
  have s4 : ∀ o, ops[4]? = some o → StepI Try.prog ops (p_rr18 nb ab nl nc al ac M n0 a0 a1 a2 a3 a4 a5 PR w0.heap.size) (IS (fun _ => False) 13 11 26 PR w0) aZ Q 4 o := by
    refine E4.stepI fun o hd ho hg hw => ?_
    intro y w listed hsz hls hun hwt hdown D' hRR hinv K hK
    have hiL : 4 < listed.size := by rw [hls, hN]; decide
    have nS : listed.getD 13 false = false := E13.down hdown (j := 4) (by simp) hun
    have f0 : y.eval (Operand.tmp 0) = .int .i64 M   := (hRR 0 (not_of (by rw [hds]; decide))).trans bS0
    exact .inl ⟨wanted_none hg, wp_value (ox_move ho f0) (hK _ _ (fun _ _ _ _ _ _ h => h) rfl (by rw [hd]; exact hinv.keep hiL (by decide) (by decide) _))⟩
  have s5 : ∀ o, ops[5]? = some o → StepI Try.prog ops (p_rr18 nb ab nl nc al ac M n0 a0 a1 a2 a3 a4 a5 PR w0.heap.size) (IS (fun _ => False) 13 11 26 PR w0) aZ Q 5 o := by
    refine E5.stepI fun o hd ho hg hw => ?_
    intro y w listed hsz hls hun hwt hdown D' hRR hinv K hK
    have hiL : 5 < listed.size := by rw [hls, hN]; decide
    have nS : listed.getD 13 false = false := E13.down hdown (j := 5) (by simp) hun
    have f7 : y.eval (Operand.tmp 7) = .slice (some ⟨ab, 0, none⟩) al ac   := (hRR 7 (not_of (by rw [hds]; decide))).trans bS7
    exact .inl ⟨wanted_none hg, wp_value (ox_move ho f7) (hK _ _ (fun _ _ _ _ _ _ h => h) rfl (by rw [hd]; exact hinv.keep hiL (by decide) (by decide) _))⟩
  have s6 : ∀ o, ops[6]? = some o → StepI Try.prog ops (p_rr18 nb ab nl nc al ac M n0 a0 a1 a2 a3 a4 a5 PR w0.heap.size) (IS (fun _ => False) 13 11 26 PR w0) aZ Q 6 o := by
    refine E6.stepI fun o hd ho hg hw => ?_
    intro y w listed hsz hls hun hwt hdown D' hRR hinv K hK
    have hiL : 6 < listed.size := by rw [hls, hN]; decide
    have nS : listed.getD 13 false = false := E13.down hdown (j := 6) (by simp) hun
    have f68 : y.eval (Operand.tmp 68) = .slice (some ⟨ab, 0, none⟩) al ac := E5.postI (Post := (p_rr18 nb ab nl nc al ac M n0 a0 a1 a2 a3 a4 a5 PR w0.heap.size)) (a := y) (w := w) D' (hwt 5 (hw 5 (by simp)))
    exact .inl ⟨wanted_none hg, wp_value (ox_index (v := .pointer (some ⟨ab, 0, none⟩)) ho f68 rfl (by simp [go_sem, hal])) (hK _ _ (fun _ _ _ _ _ _ h => h) rfl (by rw [hd]; exact hinv.keep hiL (by decide) (by decide) _))⟩
  have s7 : ∀ o, ops[7]? = some o → StepI Try.prog ops (p_rr18 nb ab nl nc al ac M n0 a0 a1 a2 a3 a4 a5 PR w0.heap.size) (IS (fun _ => False) 13 11 26 PR w0) aZ Q 7 o := by
    refine E7.stepI fun o hd ho hg hw => ?_
    intro y w listed hsz hls hun hwt hdown D' hRR hinv K hK
    have hiL : 7 < listed.size := by rw [hls, hN]; decide
    have nS : listed.getD 13 false = false := E13.down hdown (j := 7) (by simp) hun
    have f69 : y.eval (Operand.tmp 69) = .pointer (some ⟨ab, 0, none⟩) := E6.postI (Post := (p_rr18 nb ab nl nc al ac M n0 a0 a1 a2 a3 a4 a5 PR w0.heap.size)) (a := y) (w := w) D' (hwt 6 (hw 6 (by simp)))
    have h0 := (hinv.pre nS).cell k_ab_0 (fun h => h)
    have h1 := (hinv.pre nS).cell k_ab_1 (fun h => h)
    have h2 := (hinv.pre nS).cell k_ab_2 (fun h => h)
    have h3 := (hinv.pre nS).cell k_ab_3 (fun h => h)
    have h4 := (hinv.pre nS).cell k_ab_4 (fun h => h)
    have h5 := (hinv.pre nS).cell k_ab_5 (fun h => h)
    exact .inl ⟨wanted_none hg, wp_value (ox_load (v := .agg #[.int .i64 a0, .int .i64 a1, .int .i64 a2, .int .i64 a3, .int .i64 a4, .int .i64 a5]) ho f69 (by simp [go_sem, h0, h1, h2, h3, h4, h5])) (hK _ _ (fun _ _ _ _ _ _ h => h) rfl (by rw [hd]; exact hinv.keep hiL (by decide) (by decide) _))⟩
  have s8 : ∀ o, ops[8]? = some o → StepI Try.prog ops (p_rr18 nb ab nl nc al ac M n0 a0 a1 a2 a3 a4 a5 PR w0.heap.size) (IS (fun _ => False) 13 11 26 PR w0) aZ Q 8 o := by
    refine E8.stepI fun o hd ho hg hw => ?_
    intro y w listed hsz hls hun hwt hdown D' hRR hinv K hK
    have hiL : 8 < listed.size := by rw [hls, hN]; decide
    have nS : listed.getD 13 false = false := E13.down hdown (j := 8) (by simp) hun
    have f66 : y.eval (Operand.tmp 66) = .agg #[.int .i64 1001, .int .i64 n0] := E3.postI (Post := (p_rr18 nb ab nl nc al ac M n0 a0 a1 a2 a3 a4 a5 PR w0.heap.size)) (a := y) (w := w) D' (hwt 3 (hw 3 (by simp)))
    have f67 : y.eval (Operand.tmp 67) = .int .i64 M := E4.postI (Post := (p_rr18 nb ab nl nc al ac M n0 a0 a1 a2 a3 a4 a5 PR w0.heap.size)) (a := y) (w := w) D' (hwt 4 (hw 4 (by simp)))
    have f70 : y.eval (Operand.tmp 70) = .agg #[.int .i64 a0, .int .i64 a1, .int .i64 a2, .int .i64 a3, .int .i64 a4, .int .i64 a5] := E7.postI (Post := (p_rr18 nb ab nl nc al ac M n0 a0 a1 a2 a3 a4 a5 PR w0.heap.size)) (a := y) (w := w) D' (hwt 7 (hw 7 (by simp)))
    refine .inl ⟨wanted_none hg, wp_enter (f := 9) (args := #[.agg #[.int .i64 1001, .int .i64 n0], .int .i64 M, .agg #[.int .i64 a0, .int .i64 a1, .int .i64 a2, .int .i64 a3, .int .i64 a4, .int .i64 a5]]) ?_ (H8 w  (hinv.pre nS) ) ?_⟩
    · have h := rx_call3 (ρ := y.eval) (fun args w => by simp [go_sem]) rfl ho (w := w)
      rw [f66, f67, f70] at h
      exact h
    · rintro e w' ⟨v', rfl, hpp, hm⟩
      exact ⟨_, rfl, hK _ _ (fun j oj d _ _ _ h => hstay _ _ _ _ hm h) ⟨v', rfl, hpp⟩ (hinv.call hiL (by decide) nS hm)⟩
  have s9 : ∀ o, ops[9]? = some o → StepI Try.prog ops (p_rr18 nb ab nl nc al ac M n0 a0 a1 a2 a3 a4 a5 PR w0.heap.size) (IS (fun _ => False) 13 11 26 PR w0) aZ Q 9 o := by
    refine E9.stepI fun o hd ho hg hw => ?_
    intro y w listed hsz hls hun hwt hdown D' hRR hinv K hK
    have hiL : 9 < listed.size := by rw [hls, hN]; decide
    have nS : listed.getD 13 false = false := E13.down hdown (j := 9) (by simp) hun
    obtain ⟨v', f71, q71⟩ : ∃ v', y.eval (Operand.tmp 71) = .tuple #[v', .int .i64 0] ∧ PR w v' := E8.postI (Post := (p_rr18 nb ab nl nc al ac M n0 a0 a1 a2 a3 a4 a5 PR w0.heap.size)) (a := y) (w := w) D' (hwt 8 (hw 8 (by simp)))
    exact .inl ⟨wanted_none hg, wp_value (ox_move ho f71) (hK _ _ (fun _ _ _ _ _ _ h => h) ⟨v', rfl, q71⟩ (by rw [hd]; exact hinv.keep hiL (by decide) (by decide) _))⟩
  have s10 : ∀ o, ops[10]? = some o → StepI Try.prog ops (p_rr18 nb ab nl nc al ac M n0 a0 a1 a2 a3 a4 a5 PR w0.heap.size) (IS (fun _ => False) 13 11 26 PR w0) aZ Q 10 o := by
    refine E10.stepI fun o hd ho hg hw => ?_
    intro y w listed hsz hls hun hwt hdown D' hRR hinv K hK
    have hiL : 10 < listed.size := by rw [hls, hN]; decide
    have nS : listed.getD 13 false = false := E13.down hdown (j := 10) (by simp) hun
    obtain ⟨v', f62, q62⟩ : ∃ v', y.eval (Operand.tmp 62) = .tuple #[v', .int .i64 0] ∧ PR w v' := E9.postI (Post := (p_rr18 nb ab nl nc al ac M n0 a0 a1 a2 a3 a4 a5 PR w0.heap.size)) (a := y) (w := w) D' (hwt 9 (hw 9 (by simp)))
    exact .inl ⟨wanted_none hg, wp_value (rx_extract ho f62 rfl) (hK _ _ (fun _ _ _ _ _ _ h => h) q62 (by rw [hd]; exact hinv.keep hiL (by decide) (by decide) _))⟩
  have s11 : ∀ o, ops[11]? = some o → StepI Try.prog ops (p_rr18 nb ab nl nc al ac M n0 a0 a1 a2 a3 a4 a5 PR w0.heap.size) (IS (fun _ => False) 13 11 26 PR w0) aZ Q 11 o := by
    refine E11.stepI fun o hd ho hg hw => ?_
    intro y w listed hsz hls hun hwt hdown D' hRR hinv K hK
    have hiL : 11 < listed.size := by rw [hls, hN]; decide
    obtain ⟨v', f62, q62⟩ : ∃ v', y.eval (Operand.tmp 62) = .tuple #[v', .int .i64 0] ∧ PR w v' := E9.postI (Post := (p_rr18 nb ab nl nc al ac M n0 a0 a1 a2 a3 a4 a5 PR w0.heap.size)) (a := y) (w := w) D' (hwt 9 (hw 9 (by simp)))
    exact .inl ⟨wanted_none hg, wp_value (rx_extract ho f62 rfl) (hK _ _ (fun _ _ _ _ _ _ h => h) rfl (by rw [hd]; exact hinv.keep hiL (by decide) (by decide) _))⟩
  have s12 : ∀ o, ops[12]? = some o → StepI Try.prog ops (p_rr18 nb ab nl nc al ac M n0 a0 a1 a2 a3 a4 a5 PR w0.heap.size) (IS (fun _ => False) 13 11 26 PR w0) aZ Q 12 o := by
    refine E12.stepI fun o hd ho hg hw => ?_
    intro y w listed hsz hls hun hwt hdown D' hRR hinv K hK
    have hiL : 12 < listed.size := by rw [hls, hN]; decide
    have nS : listed.getD 13 false = false := E13.down hdown (j := 12) (by simp) hun
    have hA := (Mod.refl (fun _ => False) w).alloc (.cells #[.int .i64 0, .int .i64 0, .int .i64 0, .int .i64 0, .slice none 0 0] 26)
    exact .inl ⟨wanted_none hg, wp_value (rr18_al ho) (hK _ _ (fun j oj d _ _ _ h => hstay _ _ _ _ hA h) ⟨w.heap.size, _, rfl, hinv.mod.size, Bk.new w _ _, rfl⟩ (hinv.call hiL (by decide) nS hA))⟩
  have s13 : ∀ o, ops[13]? = some o → StepI Try.prog ops (p_rr18 nb ab nl nc al ac M n0 a0 a1 a2 a3 a4 a5 PR w0.heap.size) (IS (fun _ => False) 13 11 26 PR w0) aZ Q 13 o := by
    refine E13.stepI fun o hd ho hg hw => ?_
    intro y w listed hsz hls hun hwt hdown D' hRR hinv K hK
    have hiL : 13 < listed.size := by rw [hls, hN]; decide
    obtain ⟨z, xs, f11, hz, hB, hx⟩ : ∃ (z : Nat) (xs : Array Value), y.eval (Operand.tmp 11) = .pointer (some ⟨z, 0, none⟩) ∧ w0.heap.size ≤ z ∧ Bk w z 26 xs ∧ xs.size = 5 := E12.postI (Post := (p_rr18 nb ab nl nc al ac M n0 a0 a1 a2 a3 a4 a5 PR w0.heap.size)) (a := y) (w := w) D' (hwt 12 (hw 12 (by simp)))
    have q72 : PR w (y.eval (Operand.tmp 72)) := E10.postI (Post := (p_rr18 nb ab nl nc al ac M n0 a0 a1 a2 a3 a4 a5 PR w0.heap.size)) (a := y) (w := w) D' (hwt 10 (hw 10 (by simp)))
    obtain ⟨cs, fv, hn, h1⟩ := hPRf _ _ q72
    refine .inl ⟨wanted_none hg, wp_store_mid (P := Try.prog) 26 _ _ ho z 0 cs f11 fv (hB.there (by rw [hx, hn]; decide)) (by rw [rr18_info, hn]) (by rw [← Array.all_toList]; exact h1) (hK _ _ ?_ trivial ?_)⟩
    · exact fun j oj d _ _ _ h => p_rr18_store _ _ _ _ _ _ _ _ _ _ _ _ _ _ _ _ hPRs j _ w z xs cs hB (by rw [hx, hn]) hn h
    · rw [hd, put_none]
      refine ⟨(hinv.pre hun).trans (setCells_mod z cs.toList 0 w) (V := fun _ => False) (fun _ _ h => h) (fun k hk e => by omega), fun h => (by rw [getD_set hiL, if_pos rfl] at h; cases h), fun _ => ⟨z, cs, f11, hB.whole cs (by rw [hx, hn]), ?_⟩⟩
      rw [fv] at q72
      exact hPRs _ _ _ _ _ q72 hB
  have s14 : ∀ o, ops[14]? = some o → StepI Try.prog ops (p_rr18 nb ab nl nc al ac M n0 a0 a1 a2 a3 a4 a5 PR w0.heap.size) (IS (fun _ => False) 13 11 26 PR w0) aZ Q 14 o := by
    refine E14.stepI fun o hd ho hg hw => ?_
    intro y w listed hsz hls hun hwt hdown D' hRR hinv K hK
    have hiL : 14 < listed.size := by rw [hls, hN]; decide
    have f73 : y.eval (Operand.tmp 73) = .int .i64 0 := E11.postI (Post := (p_rr18 nb ab nl nc al ac M n0 a0 a1 a2 a3 a4 a5 PR w0.heap.size)) (a := y) (w := w) D' (hwt 11 (hw 11 (by simp)))
    exact .inl ⟨wanted_none hg, wp_value (rx_assign ho f73) (hK _ _ (fun _ _ _ _ _ _ h => h) rfl (by rw [hd]; exact hinv.keep hiL (by decide) (by decide) _))⟩
  refine region_freeI (Post := (p_rr18 nb ab nl nc al ac M n0 a0 a1 a2 a3 a4 a5 PR w0.heap.size)) (Inv := (IS (fun _ => False) 13 11 26 PR w0)) mixed (low_of hlow) (fun i o ho => by rw [ha0]; exact dst_of (by rw [hds]; decide) i o ho) (inj_of hnd) ⟨(Mod.refl _ _).drew, fun _ => (Mod.refl _ _).drew, fun h => (by rw [hN] at h; cases h)⟩ ?_ ?_
  · intro i o ho
    have hi : i < 15 := by
      rw [← hN]
      rcases Nat.lt_or_ge i ops.size with h | h
      · exact h
      · rw [Array.getElem?_eq_none h] at ho; cases ho
    clear hend
    by_cases e0 : i = 0
    · subst e0; exact s0 o ho
    by_cases e1 : i = 1
    · subst e1; exact s1 o ho
    by_cases e2 : i = 2
    · subst e2; exact s2 o ho
    by_cases e3 : i = 3
    · subst e3; exact s3 o ho
    by_cases e4 : i = 4
    · subst e4; exact s4 o ho
    by_cases e5 : i = 5
    · subst e5; exact s5 o ho
    by_cases e6 : i = 6
    · subst e6; exact s6 o ho
    by_cases e7 : i = 7
    · subst e7; exact s7 o ho
    by_cases e8 : i = 8
    · subst e8; exact s8 o ho
    by_cases e9 : i = 9
    · subst e9; exact s9 o ho
    by_cases e10 : i = 10
    · subst e10; exact s10 o ho
    by_cases e11 : i = 11
    · subst e11; exact s11 o ho
    by_cases e12 : i = 12
    · subst e12; exact s12 o ho
    by_cases e13 : i = 13
    · subst e13; exact s13 o ho
    by_cases e14 : i = 14
    · subst e14; exact s14 o ho
    omega
  · intro y w listed hsz hdf hls hall hinv hPO hRE
    obtain ⟨z, cells, gz, hBz, hPz⟩ := hinv.post (hall 13 (by rw [hN]; decide))
    have hzH : w0.heap.size ≤ z := by
      obtain ⟨o, h1, h2, _⟩ := E12.ex
      obtain ⟨z', xs, g1, g2, _⟩ := hPO 12 o _ h1 h2
      rw [gz] at g1
      simp only [Value.pointer.injEq, Option.some.injEq, Addr.mk.injEq, and_true] at g1
      omega
    have e : y = puts aZ [(63, .slice (some ⟨nb, 0, none⟩) nl nc), (64, .pointer (some ⟨nb, 0, none⟩)), (65, .int .i64 n0), (66, .agg #[.int .i64 1001, .int .i64 n0]), (67, .int .i64 M), (68, .slice (some ⟨ab, 0, none⟩) al ac), (69, .pointer (some ⟨ab, 0, none⟩)), (70, .agg #[.int .i64 a0, .int .i64 a1, .int .i64 a2, .int .i64 a3, .int .i64 a4, .int .i64 a5]), (71, y.tmps.getD 71 undef), (62, y.tmps.getD 62 undef), (72, y.tmps.getD 72 undef), (73, .int .i64 0), (11, .pointer (some ⟨z, 0, none⟩)), (12, .int .i64 0)] := by
      refine eq_puts hsz hdf (nodup_of (D := [some 63, some 64, some 65, some 66, some 67, some 68, some 69, some 70, some 71, some 62, some 72, some 73, some 11, some 12]) rfl (by decide)) (by rw [ha0]; simp) ?_ ?_
      · intro q hq
        simp only [List.mem_cons, List.not_mem_nil, or_false] at hq
        rcases hq with rfl | rfl | rfl | rfl | rfl | rfl | rfl | rfl | rfl | rfl | rfl | rfl | rfl | rfl
        · obtain ⟨o, h1, h2, _⟩ := E0.ex
          exact hPO 0 o _ h1 h2
        · obtain ⟨o, h1, h2, _⟩ := E1.ex
          exact hPO 1 o _ h1 h2
        · obtain ⟨o, h1, h2, _⟩ := E2.ex
          exact hPO 2 o _ h1 h2
        · obtain ⟨o, h1, h2, _⟩ := E3.ex
          exact hPO 3 o _ h1 h2
        · obtain ⟨o, h1, h2, _⟩ := E4.ex
          exact hPO 4 o _ h1 h2
        · obtain ⟨o, h1, h2, _⟩ := E5.ex
          exact hPO 5 o _ h1 h2
        · obtain ⟨o, h1, h2, _⟩ := E6.ex
          exact hPO 6 o _ h1 h2
        · obtain ⟨o, h1, h2, _⟩ := E7.ex
          exact hPO 7 o _ h1 h2
        · rfl
        · rfl
        · rfl
        · obtain ⟨o, h1, h2, _⟩ := E11.ex
          exact hPO 11 o _ h1 h2
        · exact gz
        · obtain ⟨o, h1, h2, _⟩ := E14.ex
          exact hPO 14 o _ h1 h2
      · intro t ht
        exact hRE t (not_of (by rw [hds]; exact not_cont rfl ht))
    rw [e]
    exact hend (fun d => y.tmps.getD d undef) w z cells hinv.mod hzH hBz hPz
theorem rr46_info : (Try.prog.info? 26).map (·.size) = some 5 := by kernel_rfl
/-- What is said of a slot. -/
def p_rr46 (ab off : Nat) (al ac h : Nat) (x0 x1 x2 x3 x4 : Value) (a0 a1 a2 a3 a4 a5 : Int) (PR : World → Value → Prop) (_H0 : Nat) (i : Nat) (v : Value) (_w : World) : Prop :=
  match i with
  | 0 => v = .agg #[x0, x1, x2, x3, x4]
  | 1 => v = .slice (some ⟨ab, off, none⟩) al ac
  | 2 => v = .int .i64 (h : Int)
  | 3 => v = .pointer (some ⟨ab, off + h * 6, none⟩)
  | 4 => v = .agg #[.int .i64 a0, .int .i64 a1, .int .i64 a2, .int .i64 a3, .int .i64 a4, .int .i64 a5]
  | 5 => ∃ v', v = .tuple #[v', .int .i64 0] ∧ PR _w v'
  | 6 => ∃ v', v = .tuple #[v', .int .i64 0] ∧ PR _w v'
  | 7 => PR _w v
  | 8 => v = .int .i64 0
  | 10 => v = .int .i64 0
  | _ => True
theorem p_rr46_stab (ab off : Nat) (al ac h : Nat) (x0 x1 x2 x3 x4 : Value) (a0 a1 a2 a3 a4 a5 : Int) (PR : World → Value → Prop) (H0 : Nat) (hPRm : ∀ (w w' : World) (v : Value), Mod (fun _ => False) w w' → PR w v → PR w' v) : ∀ i v w w', Mod (fun _ => False) w w' → (p_rr46 ab off al ac h x0 x1 x2 x3 x4 a0 a1 a2 a3 a4 a5 PR H0) i v w → (p_rr46 ab off al ac h x0 x1 x2 x3 x4 a0 a1 a2 a3 a4 a5 PR H0) i v w' := by
  intro i v w w' hm h
  unfold p_rr46 at h ⊢
  split at h
  case h_6 => obtain ⟨v', h1, h2⟩ := h; exact ⟨v', h1, hPRm _ _ _ hm h2⟩
  case h_7 => obtain ⟨v', h1, h2⟩ := h; exact ⟨v', h1, hPRm _ _ _ hm h2⟩
  case h_8 => exact hPRm _ _ _ hm h
  all_goals exact h
theorem p_rr46_store (ab off : Nat) (al ac h : Nat) (x0 x1 x2 x3 x4 : Value) (a0 a1 a2 a3 a4 a5 : Int) (PR : World → Value → Prop) (H0 : Nat) (hPRs : ∀ (w : World) (z : Nat) (xs cs : Array Value) (v : Value), PR w v → Bk w z 26 xs → PR (w.setCells z 0 cs.toList) v) : ∀ i v w z xs (cs : Array Value), Bk w z 26 xs → xs.size = cs.size → cs.size = 5 → (p_rr46 ab off al ac h x0 x1 x2 x3 x4 a0 a1 a2 a3 a4 a5 PR H0) i v w → (p_rr46 ab off al ac h x0 x1 x2 x3 x4 a0 a1 a2 a3 a4 a5 PR H0) i v (w.setCells z 0 cs.toList) := by
  intro i v w z xs cs hb hsz hn h
  unfold p_rr46 at h ⊢
  split at h
  case h_6 => obtain ⟨v', h1, h2⟩ := h; exact ⟨v', h1, hPRs _ _ _ _ _ h2 hb⟩
  case h_7 => obtain ⟨v', h1, h2⟩ := h; exact ⟨v', h1, hPRs _ _ _ _ _ h2 hb⟩
  case h_8 => exact hPRs _ _ _ _ _ h hb
  all_goals exact h
/-- Its operations. -/
structure O_rr46 (ops : Array Oper) : Prop where
  e0 : Is ops 0 (some 161) (Op.load 26 (Operand.tmp 11)) none []
  e1 : Is ops 1 (some 162) (Op.move (Operand.tmp 7)) none []
  e2 : Is ops 2 (some 163) (Op.move (Operand.tmp 13)) none []
  e3 : Is ops 3 (some 164) (Op.indexAddr 24 (Operand.tmp 162) (Operand.tmp 163)) none [1, 2]
  e4 : Is ops 4 (some 165) (Op.load 28 (Operand.tmp 164)) none [3]
  e5 : Is ops 5 (some 166) (Op.call { callee := Callee.value (Operand.func 11), args := #[Operand.tmp 161, Operand.tmp 165], argTypes := #[26, 28] }) none [0, 4]
  e6 : Is ops 6 (some 160) (Op.move (Operand.tmp 166)) none [5]
  e7 : Is ops 7 (some 167) (Op.extract (Operand.tmp 160) 0) none [6]
  e8 : Is ops 8 (some 168) (Op.extract (Operand.tmp 160) 1) none [6]
  e9 : Is ops 9 none (Op.store 26 (Operand.tmp 11) (Operand.tmp 167)) none [0, 1, 2, 3, 4, 5, 6, 7]
  e10 : Is ops 10 (some 12) (Op.assign (Operand.tmp 168)) none [0, 1, 2, 3, 4, 5, 6, 7, 8, 9]
set_option maxRecDepth 100000 in
set_option maxHeartbeats 4000000 in
theorem rr46 {ops : Array Oper} {id : Nat} {aZ : Act} {w0 : World} {Q : Exit → Act → World → Prop} (ab off : Nat) (al ac h : Nat) (x0 x1 x2 x3 x4 : Value) (a0 a1 a2 a3 a4 a5 : Int) (PR : World → Value → Prop) (bz : Nat)
    (E : O_rr46 ops) (hN : ops.size = 11) (hlow : lowB ops = true) (hds : dsts ops = [some 161, some 162, some 163, some 164, some 165, some 166, some 160, some 167, some 168, none, some 12]) (hnd : injB ops = true) (ha0 : aZ.tmps.size = 185)
    (bS7 : aZ.tmps.getD 7 undef = .slice (some ⟨ab, off, none⟩) al ac)
    (bS11 : aZ.tmps.getD 11 undef = .pointer (some ⟨bz, 0, none⟩))
    (bS13 : aZ.tmps.getD 13 undef = .int .i64 (h : Int))
    (k_bz_0 : w0.cell? ⟨bz, 0, none⟩ = some (x0))
    (k_bz_1 : w0.cell? ⟨bz, 1, none⟩ = some (x1))
    (k_bz_2 : w0.cell? ⟨bz, 2, none⟩ = some (x2))
    (k_bz_3 : w0.cell? ⟨bz, 3, none⟩ = some (x3))
    (k_bz_4 : w0.cell? ⟨bz, 4, none⟩ = some (x4))
    (k_ab_off_h_6 : w0.cell? ⟨ab, off + h * 6, none⟩ = some (.int .i64 a0))
    (k_ab_off_h_6_1 : w0.cell? ⟨ab, off + h * 6 + 1, none⟩ = some (.int .i64 a1))
    (k_ab_off_h_6_2 : w0.cell? ⟨ab, off + h * 6 + 2, none⟩ = some (.int .i64 a2))
    (k_ab_off_h_6_3 : w0.cell? ⟨ab, off + h * 6 + 3, none⟩ = some (.int .i64 a3))
    (k_ab_off_h_6_4 : w0.cell? ⟨ab, off + h * 6 + 4, none⟩ = some (.int .i64 a4))
    (k_ab_off_h_6_5 : w0.cell? ⟨ab, off + h * 6 + 5, none⟩ = some (.int .i64 a5))
    (hh : (h : Int) < (al : Int))
    (hPRm : ∀ (w w' : World) (v : Value), Mod (fun _ => False) w w' → PR w v → PR w' v)
    (hPRs : ∀ (w : World) (z : Nat) (xs cs : Array Value) (v : Value), PR w v → Bk w z 26 xs → PR (w.setCells z 0 cs.toList) v)
    (hPRf : ∀ (w : World) (v : Value), PR w v → ∃ cs : Array Value, v = .agg cs ∧ cs.size = 5 ∧ cs.toList.all (·.oneCell') = true)
    (hbz : ∃ xs, Bk w0 bz 26 xs ∧ xs.size = 5)
    (H5 : ∀ (W : World), Mod (fun _ => False) w0 W → Calls Try.prog 11 #[.agg #[x0, x1, x2, x3, x4], .agg #[.int .i64 a0, .int .i64 a1, .int .i64 a2, .int .i64 a3, .int .i64 a4, .int .i64 a5]] W fun e w' => ∃ v', e = .returned (.tuple #[v', .int .i64 0]) ∧ PR w' v' ∧ Mod (fun _ => False) W w')
    (hend : ∀ (f : Nat → Value) (w : World) (cells : Array Value), Mod (fun k => k = bz) w0 w → Bk w bz 26 cells → PR w (.agg cells) → Q .normal (puts aZ [(161, .agg #[x0, x1, x2, x3, x4]), (162, .slice (some ⟨ab, off, none⟩) al ac), (163, .int .i64 (h : Int)), (164, .pointer (some ⟨ab, off + h * 6, none⟩)), (165, .agg #[.int .i64 a0, .int .i64 a1, .int .i64 a2, .int .i64 a3, .int .i64 a4, .int .i64 a5]), (166, f 166), (160, f 160), (167, f 167), (168, .int .i64 0), (12, .int .i64 0)]) w) :
    (Code.region id ops true).wp Try.prog Q aZ w0 := by
  obtain ⟨E0, E1, E2, E3, E4, E5, E6, E7, E8, E9, E10⟩ := E
  have hstay : ∀ (i : Nat) (v : Value) (w w1 : World), Mod (fun _ => False) w w1 → (p_rr46 ab off al ac h x0 x1 x2 x3 x4 a0 a1 a2 a3 a4 a5 PR w0.heap.size) i v w → (p_rr46 ab off al ac h x0 x1 x2 x3 x4 a0 a1 a2 a3 a4 a5 PR w0.heap.size) i v w1 := fun i v w w' hm h => p_rr46_stab _ _ _ _ _ _ _ _ _ _ _ _ _ _ _ _ _ _ hPRm i v w w' hm h
  have s0 : ∀ o, ops[0]? = some o → StepI Try.prog ops (p_rr46 ab off al ac h x0 x1 x2 x3 x4 a0 a1 a2 a3 a4 a5 PR w0.heap.size) (IS (fun k => k = bz) 9 11 26 PR w0) aZ Q 0 o := by
    refine E0.stepI fun o hd ho hg hw => ?_
    intro y w listed hsz hls hun hwt hdown D' hRR hinv K hK
    have hiL : 0 < listed.size := by rw [hls, hN]; decide
    have nS : listed.getD 9 false = false := E9.down hdown (j := 0) (by simp) hun
    have f11 : y.eval (Operand.tmp 11) = .pointer (some ⟨bz, 0, none⟩)   := (hRR 11 (not_of (by rw [hds]; decide))).trans bS11
    have h0 := (hinv.pre nS).cell k_bz_0 (fun h => h)
    have h1 := (hinv.pre nS).cell k_bz_1 (fun h => h)
    have h2 := (hinv.pre nS).cell k_bz_2 (fun h => h)
    have h3 := (hinv.pre nS).cell k_bz_3 (fun h => h)
    have h4 := (hinv.pre nS).cell k_bz_4 (fun h => h)
    exact .inl ⟨wanted_none hg, wp_value (ox_load (v := .agg #[x0, x1, x2, x3, x4]) ho f11 (by simp [go_sem, h0, h1, h2, h3, h4])) (hK _ _ (fun _ _ _ _ _ _ h => h) rfl (by rw [hd]; exact hinv.keep hiL (by decide) (by decide) _))⟩
  have s1 : ∀ o, ops[1]? = some o → StepI Try.prog ops (p_rr46 ab off al ac h x0 x1 x2 x3 x4 a0 a1 a2 a3 a4 a5 PR w0.heap.size) (IS (fun k => k = bz) 9 11 26 PR w0) aZ Q 1 o := by
    refine E1.stepI fun o hd ho hg hw => ?_
    intro y w listed hsz hls hun hwt hdown D' hRR hinv K hK
    have hiL : 1 < listed.size := by rw [hls, hN]; decide
    have nS : listed.getD 9 false = false := E9.down hdown (j := 1) (by simp) hun
    have f7 : y.eval (Operand.tmp 7) = .slice (some ⟨ab, off, none⟩) al ac   := (hRR 7 (not_of (by rw [hds]; decide))).trans bS7
    exact .inl ⟨wanted_none hg, wp_value (ox_move ho f7) (hK _ _ (fun _ _ _ _ _ _ h => h) rfl (by rw [hd]; exact hinv.keep hiL (by decide) (by decide) _))⟩
  have s2 : ∀ o, ops[2]? = some o → StepI Try.prog ops (p_rr46 ab off al ac h x0 x1 x2 x3 x4 a0 a1 a2 a3 a4 a5 PR w0.heap.size) (IS (fun k => k = bz) 9 11 26 PR w0) aZ Q 2 o := by
    refine E2.stepI fun o hd ho hg hw => ?_
    intro y w listed hsz hls hun hwt hdown D' hRR hinv K hK
    have hiL : 2 < listed.size := by rw [hls, hN]; decide
    have nS : listed.getD 9 false = false := E9.down hdown (j := 2) (by simp) hun
    have f13 : y.eval (Operand.tmp 13) = .int .i64 (h : Int)   := (hRR 13 (not_of (by rw [hds]; decide))).trans bS13
    exact .inl ⟨wanted_none hg, wp_value (ox_move ho f13) (hK _ _ (fun _ _ _ _ _ _ h => h) rfl (by rw [hd]; exact hinv.keep hiL (by decide) (by decide) _))⟩
  have s3 : ∀ o, ops[3]? = some o → StepI Try.prog ops (p_rr46 ab off al ac h x0 x1 x2 x3 x4 a0 a1 a2 a3 a4 a5 PR w0.heap.size) (IS (fun k => k = bz) 9 11 26 PR w0) aZ Q 3 o := by
    refine E3.stepI fun o hd ho hg hw => ?_
    intro y w listed hsz hls hun hwt hdown D' hRR hinv K hK
    have hiL : 3 < listed.size := by rw [hls, hN]; decide
    have nS : listed.getD 9 false = false := E9.down hdown (j := 3) (by simp) hun
    have f162 : y.eval (Operand.tmp 162) = .slice (some ⟨ab, off, none⟩) al ac := E1.postI (Post := (p_rr46 ab off al ac h x0 x1 x2 x3 x4 a0 a1 a2 a3 a4 a5 PR w0.heap.size)) (a := y) (w := w) D' (hwt 1 (hw 1 (by simp)))
    have f163 : y.eval (Operand.tmp 163) = .int .i64 (h : Int) := E2.postI (Post := (p_rr46 ab off al ac h x0 x1 x2 x3 x4 a0 a1 a2 a3 a4 a5 PR w0.heap.size)) (a := y) (w := w) D' (hwt 2 (hw 2 (by simp)))
    exact .inl ⟨wanted_none hg, wp_value (ox_index (v := .pointer (some ⟨ab, off + h * 6, none⟩)) ho f162 f163 (by simp [go_sem, hh])) (hK _ _ (fun _ _ _ _ _ _ h => h) rfl (by rw [hd]; exact hinv.keep hiL (by decide) (by decide) _))⟩
  have s4 : ∀ o, ops[4]? = some o → StepI Try.prog ops (p_rr46 ab off al ac h x0 x1 x2 x3 x4 a0 a1 a2 a3 a4 a5 PR w0.heap.size) (IS (fun k => k = bz) 9 11 26 PR w0) aZ Q 4 o := by
    refine E4.stepI fun o hd ho hg hw => ?_
    intro y w listed hsz hls hun hwt hdown D' hRR hinv K hK
    have hiL : 4 < listed.size := by rw [hls, hN]; decide
    have nS : listed.getD 9 false = false := E9.down hdown (j := 4) (by simp) hun
    have f164 : y.eval (Operand.tmp 164) = .pointer (some ⟨ab, off + h * 6, none⟩) := E3.postI (Post := (p_rr46 ab off al ac h x0 x1 x2 x3 x4 a0 a1 a2 a3 a4 a5 PR w0.heap.size)) (a := y) (w := w) D' (hwt 3 (hw 3 (by simp)))
    have h0 := (hinv.pre nS).cell k_ab_off_h_6 (fun h => h)
    have h1 := (hinv.pre nS).cell k_ab_off_h_6_1 (fun h => h)
    have h2 := (hinv.pre nS).cell k_ab_off_h_6_2 (fun h => h)
    have h3 := (hinv.pre nS).cell k_ab_off_h_6_3 (fun h => h)
    have h4 := (hinv.pre nS).cell k_ab_off_h_6_4 (fun h => h)
    have h5 := (hinv.pre nS).cell k_ab_off_h_6_5 (fun h => h)
    exact .inl ⟨wanted_none hg, wp_value (ox_load (v := .agg #[.int .i64 a0, .int .i64 a1, .int .i64 a2, .int .i64 a3, .int .i64 a4, .int .i64 a5]) ho f164 (by simp [go_sem, h0, h1, h2, h3, h4, h5])) (hK _ _ (fun _ _ _ _ _ _ h => h) rfl (by rw [hd]; exact hinv.keep hiL (by decide) (by decide) _))⟩
  have s5 : ∀ o, ops[5]? = some o → StepI Try.prog ops (p_rr46 ab off al ac h x0 x1 x2 x3 x4 a0 a1 a2 a3 a4 a5 PR w0.heap.size) (IS (fun k => k = bz) 9 11 26 PR w0) aZ Q 5 o := by
    refine E5.stepI fun o hd ho hg hw => ?_
    intro y w listed hsz hls hun hwt hdown D' hRR hinv K hK
    have hiL : 5 < listed.size := by rw [hls, hN]; decide
    have nS : listed.getD 9 false = false := E9.down hdown (j := 5) (by simp) hun
    have f161 : y.eval (Operand.tmp 161) = .agg #[x0, x1, x2, x3, x4] := E0.postI (Post := (p_rr46 ab off al ac h x0 x1 x2 x3 x4 a0 a1 a2 a3 a4 a5 PR w0.heap.size)) (a := y) (w := w) D' (hwt 0 (hw 0 (by simp)))
    have f165 : y.eval (Operand.tmp 165) = .agg #[.int .i64 a0, .int .i64 a1, .int .i64 a2, .int .i64 a3, .int .i64 a4, .int .i64 a5] := E4.postI (Post := (p_rr46 ab off al ac h x0 x1 x2 x3 x4 a0 a1 a2 a3 a4 a5 PR w0.heap.size)) (a := y) (w := w) D' (hwt 4 (hw 4 (by simp)))
    refine .inl ⟨wanted_none hg, wp_enter (f := 11) (args := #[.agg #[x0, x1, x2, x3, x4], .agg #[.int .i64 a0, .int .i64 a1, .int .i64 a2, .int .i64 a3, .int .i64 a4, .int .i64 a5]]) ?_ (H5 w  (hinv.pre nS) ) ?_⟩
    · have h := exec_call2 y.eval (fun args w => by simp [go_sem]) rfl ho (w := w)
      rw [f161, f165] at h
      exact h
    · rintro e w' ⟨v', rfl, hpp, hm⟩
      exact ⟨_, rfl, hK _ _ (fun j oj d _ _ _ h => hstay _ _ _ _ hm h) ⟨v', rfl, hpp⟩ (hinv.call hiL (by decide) nS hm)⟩
  have s6 : ∀ o, ops[6]? = some o → StepI Try.prog ops (p_rr46 ab off al ac h x0 x1 x2 x3 x4 a0 a1 a2 a3 a4 a5 PR w0.heap.size) (IS (fun k => k = bz) 9 11 26 PR w0) aZ Q 6 o := by
    refine E6.stepI fun o hd ho hg hw => ?_
    intro y w listed hsz hls hun hwt hdown D' hRR hinv K hK
    have hiL : 6 < listed.size := by rw [hls, hN]; decide
    have nS : listed.getD 9 false = false := E9.down hdown (j := 6) (by simp) hun
    obtain ⟨v', f166, q166⟩ : ∃ v', y.eval (Operand.tmp 166) = .tuple #[v', .int .i64 0] ∧ PR w v' := E5.postI (Post := (p_rr46 ab off al ac h x0 x1 x2 x3 x4 a0 a1 a2 a3 a4 a5 PR w0.heap.size)) (a := y) (w := w) D' (hwt 5 (hw 5 (by simp)))
    exact .inl ⟨wanted_none hg, wp_value (ox_move ho f166) (hK _ _ (fun _ _ _ _ _ _ h => h) ⟨v', rfl, q166⟩ (by rw [hd]; exact hinv.keep hiL (by decide) (by decide) _))⟩
  have s7 : ∀ o, ops[7]? = some o → StepI Try.prog ops (p_rr46 ab off al ac h x0 x1 x2 x3 x4 a0 a1 a2 a3 a4 a5 PR w0.heap.size) (IS (fun k => k = bz) 9 11 26 PR w0) aZ Q 7 o := by
    refine E7.stepI fun o hd ho hg hw => ?_
    intro y w listed hsz hls hun hwt hdown D' hRR hinv K hK
    have hiL : 7 < listed.size := by rw [hls, hN]; decide
    have nS : listed.getD 9 false = false := E9.down hdown (j := 7) (by simp) hun
    obtain ⟨v', f160, q160⟩ : ∃ v', y.eval (Operand.tmp 160) = .tuple #[v', .int .i64 0] ∧ PR w v' := E6.postI (Post := (p_rr46 ab off al ac h x0 x1 x2 x3 x4 a0 a1 a2 a3 a4 a5 PR w0.heap.size)) (a := y) (w := w) D' (hwt 6 (hw 6 (by simp)))
    exact .inl ⟨wanted_none hg, wp_value (rx_extract ho f160 rfl) (hK _ _ (fun _ _ _ _ _ _ h => h) q160 (by rw [hd]; exact hinv.keep hiL (by decide) (by decide) _))⟩
  have s8 : ∀ o, ops[8]? = some o → StepI Try.prog ops (p_rr46 ab off al ac h x0 x1 x2 x3 x4 a0 a1 a2 a3 a4 a5 PR w0.heap.size) (IS (fun k => k = bz) 9 11 26 PR w0) aZ Q 8 o := by
    refine E8.stepI fun o hd ho hg hw => ?_
    intro y w listed hsz hls hun hwt hdown D' hRR hinv K hK
    have hiL : 8 < listed.size := by rw [hls, hN]; decide
    obtain ⟨v', f160, q160⟩ : ∃ v', y.eval (Operand.tmp 160) = .tuple #[v', .int .i64 0] ∧ PR w v' := E6.postI (Post := (p_rr46 ab off al ac h x0 x1 x2 x3 x4 a0 a1 a2 a3 a4 a5 PR w0.heap.size)) (a := y) (w := w) D' (hwt 6 (hw 6 (by simp)))
    exact .inl ⟨wanted_none hg, wp_value (rx_extract ho f160 rfl) (hK _ _ (fun _ _ _ _ _ _ h => h) rfl (by rw [hd]; exact hinv.keep hiL (by decide) (by decide) _))⟩
  have s9 : ∀ o, ops[9]? = some o → StepI Try.prog ops (p_rr46 ab off al ac h x0 x1 x2 x3 x4 a0 a1 a2 a3 a4 a5 PR w0.heap.size) (IS (fun k => k = bz) 9 11 26 PR w0) aZ Q 9 o := by
    refine E9.stepI fun o hd ho hg hw => ?_
    intro y w listed hsz hls hun hwt hdown D' hRR hinv K hK
    have hiL : 9 < listed.size := by rw [hls, hN]; decide
    have f11 : y.eval (Operand.tmp 11) = .pointer (some ⟨bz, 0, none⟩)   := (hRR 11 (not_of (by rw [hds]; decide))).trans bS11
    have q167 : PR w (y.eval (Operand.tmp 167)) := E7.postI (Post := (p_rr46 ab off al ac h x0 x1 x2 x3 x4 a0 a1 a2 a3 a4 a5 PR w0.heap.size)) (a := y) (w := w) D' (hwt 7 (hw 7 (by simp)))
    obtain ⟨xs, hB0, hx⟩ := hbz
    have hB := hB0.mod (hinv.pre hun) (fun h => h)
    obtain ⟨cs, fv, hn, h1⟩ := hPRf _ _ q167
    refine .inl ⟨wanted_none hg, wp_store_mid (P := Try.prog) 26 _ _ ho bz 0 cs f11 fv (hB.there (by rw [hx, hn]; decide)) (by rw [rr46_info, hn]) (by rw [← Array.all_toList]; exact h1) (hK _ _ ?_ trivial ?_)⟩
    · exact fun j oj d _ _ _ h => p_rr46_store _ _ _ _ _ _ _ _ _ _ _ _ _ _ _ _ _ _ hPRs j _ w bz xs cs hB (by rw [hx, hn]) hn h
    · rw [hd, put_none]
      refine ⟨(hinv.pre hun).trans (setCells_mod bz cs.toList 0 w) (V := fun k => k = bz) (fun _ _ h => h.elim) (fun k _ e => e), fun h => (by rw [getD_set hiL, if_pos rfl] at h; cases h), fun _ => ⟨bz, cs, f11, hB.whole cs (by rw [hx, hn]), ?_⟩⟩
      rw [fv] at q167
      exact hPRs _ _ _ _ _ q167 hB
  have s10 : ∀ o, ops[10]? = some o → StepI Try.prog ops (p_rr46 ab off al ac h x0 x1 x2 x3 x4 a0 a1 a2 a3 a4 a5 PR w0.heap.size) (IS (fun k => k = bz) 9 11 26 PR w0) aZ Q 10 o := by
    refine E10.stepI fun o hd ho hg hw => ?_
    intro y w listed hsz hls hun hwt hdown D' hRR hinv K hK
    have hiL : 10 < listed.size := by rw [hls, hN]; decide
    have f168 : y.eval (Operand.tmp 168) = .int .i64 0 := E8.postI (Post := (p_rr46 ab off al ac h x0 x1 x2 x3 x4 a0 a1 a2 a3 a4 a5 PR w0.heap.size)) (a := y) (w := w) D' (hwt 8 (hw 8 (by simp)))
    exact .inl ⟨wanted_none hg, wp_value (rx_assign ho f168) (hK _ _ (fun _ _ _ _ _ _ h => h) rfl (by rw [hd]; exact hinv.keep hiL (by decide) (by decide) _))⟩
  refine region_freeI (Post := (p_rr46 ab off al ac h x0 x1 x2 x3 x4 a0 a1 a2 a3 a4 a5 PR w0.heap.size)) (Inv := (IS (fun k => k = bz) 9 11 26 PR w0)) mixed (low_of hlow) (fun i o ho => by rw [ha0]; exact dst_of (by rw [hds]; decide) i o ho) (inj_of hnd) ⟨(Mod.refl _ _).drew, fun _ => (Mod.refl _ _).drew, fun h => (by rw [hN] at h; cases h)⟩ ?_ ?_
  · intro i o ho
    have hi : i < 11 := by
      rw [← hN]
      rcases Nat.lt_or_ge i ops.size with h | h
      · exact h
      · rw [Array.getElem?_eq_none h] at ho; cases ho
    clear hend
    by_cases e0 : i = 0
    · subst e0; exact s0 o ho
    by_cases e1 : i = 1
    · subst e1; exact s1 o ho
    by_cases e2 : i = 2
    · subst e2; exact s2 o ho
    by_cases e3 : i = 3
    · subst e3; exact s3 o ho
    by_cases e4 : i = 4
    · subst e4; exact s4 o ho
    by_cases e5 : i = 5
    · subst e5; exact s5 o ho
    by_cases e6 : i = 6
    · subst e6; exact s6 o ho
    by_cases e7 : i = 7
    · subst e7; exact s7 o ho
    by_cases e8 : i = 8
    · subst e8; exact s8 o ho
    by_cases e9 : i = 9
    · subst e9; exact s9 o ho
    by_cases e10 : i = 10
    · subst e10; exact s10 o ho
    omega
  · intro y w listed hsz hdf hls hall hinv hPO hRE
    obtain ⟨z, cells, gz, hBz, hPz⟩ := hinv.post (hall 9 (by rw [hN]; decide))
    have hzb : z = bz := by
      have g1 := (hRE 11 (not_of (by rw [hds]; decide))).trans bS11
      rw [gz] at g1
      simpa only [Value.pointer.injEq, Option.some.injEq, Addr.mk.injEq, and_true] using g1
    subst hzb
    have e : y = puts aZ [(161, .agg #[x0, x1, x2, x3, x4]), (162, .slice (some ⟨ab, off, none⟩) al ac), (163, .int .i64 (h : Int)), (164, .pointer (some ⟨ab, off + h * 6, none⟩)), (165, .agg #[.int .i64 a0, .int .i64 a1, .int .i64 a2, .int .i64 a3, .int .i64 a4, .int .i64 a5]), (166, y.tmps.getD 166 undef), (160, y.tmps.getD 160 undef), (167, y.tmps.getD 167 undef), (168, .int .i64 0), (12, .int .i64 0)] := by
      refine eq_puts hsz hdf (nodup_of (D := [some 161, some 162, some 163, some 164, some 165, some 166, some 160, some 167, some 168, some 12]) rfl (by decide)) (by rw [ha0]; simp) ?_ ?_
      · intro q hq
        simp only [List.mem_cons, List.not_mem_nil, or_false] at hq
        rcases hq with rfl | rfl | rfl | rfl | rfl | rfl | rfl | rfl | rfl | rfl
        · obtain ⟨o, h1, h2, _⟩ := E0.ex
          exact hPO 0 o _ h1 h2
        · obtain ⟨o, h1, h2, _⟩ := E1.ex
          exact hPO 1 o _ h1 h2
        · obtain ⟨o, h1, h2, _⟩ := E2.ex
          exact hPO 2 o _ h1 h2
        · obtain ⟨o, h1, h2, _⟩ := E3.ex
          exact hPO 3 o _ h1 h2
        · obtain ⟨o, h1, h2, _⟩ := E4.ex
          exact hPO 4 o _ h1 h2
        · rfl
        · rfl
        · rfl
        · obtain ⟨o, h1, h2, _⟩ := E8.ex
          exact hPO 8 o _ h1 h2
        · obtain ⟨o, h1, h2, _⟩ := E10.ex
          exact hPO 10 o _ h1 h2
      · intro t ht
        exact hRE t (not_of (by rw [hds]; exact not_cont rfl ht))
    rw [e]
    exact hend (fun d => y.tmps.getD d undef) w cells hinv.mod hBz hPz
/-- What is said of a slot. -/
def p_rr40 (b cb coff cl cc ab off al ac k : Nat) (a0 a1 a2 a3 a4 a5 c0 c1 c2 c3 c4 c5 : Int) (i : Nat) (v : Value) (_w : World) : Prop :=
  match i with
  | 0 => v = .pointer (some ⟨b, 4, none⟩)
  | 1 => v = .slice (some ⟨cb, coff, none⟩) cl cc
  | 2 => v = .int .i64 (k : Int)
  | 3 => v = .pointer (some ⟨cb, coff + k * 6, none⟩)
  | 4 => v = .agg #[.int .i64 c0, .int .i64 c1, .int .i64 c2, .int .i64 c3, .int .i64 c4, .int .i64 c5]
  | 5 => v = .slice (some ⟨ab, off, none⟩) al ac
  | 6 => v = .int .i64 (k : Int)
  | 7 => v = .pointer (some ⟨ab, off + k * 6, none⟩)
  | 8 => v = .agg #[.int .i64 a0, .int .i64 a1, .int .i64 a2, .int .i64 a3, .int .i64 a4, .int .i64 a5]
  | 9 => v = .bool (!(eyb c0 c1 c2 c3 c4 c5 a0 a1 a2 a3 a4 a5))
  | _ => True
/-- Its operations. -/
structure O_rr40 (ops : Array Oper) : Prop where
  e0 : Is ops 0 (some 131) (Op.fieldAddr 26 (Operand.tmp 11) 3) none []
  e1 : Is ops 1 (some 132) (Op.load 24 (Operand.tmp 131)) none [0]
  e2 : Is ops 2 (some 133) (Op.move (Operand.tmp 17)) none []
  e3 : Is ops 3 (some 134) (Op.indexAddr 24 (Operand.tmp 132) (Operand.tmp 133)) none [1, 2]
  e4 : Is ops 4 (some 135) (Op.load 28 (Operand.tmp 134)) none [3]
  e5 : Is ops 5 (some 136) (Op.move (Operand.tmp 7)) none []
  e6 : Is ops 6 (some 137) (Op.move (Operand.tmp 17)) none []
  e7 : Is ops 7 (some 138) (Op.indexAddr 24 (Operand.tmp 136) (Operand.tmp 137)) none [5, 6]
  e8 : Is ops 8 (some 139) (Op.load 28 (Operand.tmp 138)) none [7]
  e9 : Is ops 9 (some 140) (Op.binOp BinOp.neq 28 (Operand.tmp 135) (Operand.tmp 139) 28) none [4, 8]
set_option maxRecDepth 100000 in
set_option maxHeartbeats 4000000 in
theorem rr40 {ops : Array Oper} {id : Nat} {aZ : Act} {w0 : World} {Q : Exit → Act → World → Prop} (b cb coff cl cc ab off al ac k : Nat) (a0 a1 a2 a3 a4 a5 c0 c1 c2 c3 c4 c5 : Int)
    (E : O_rr40 ops) (hN : ops.size = 10) (hlow : lowB ops = true) (hds : dsts ops = [some 131, some 132, some 133, some 134, some 135, some 136, some 137, some 138, some 139, some 140]) (hnd : injB ops = true) (ha0 : aZ.tmps.size = 185)
    (bS7 : aZ.tmps.getD 7 undef = .slice (some ⟨ab, off, none⟩) al ac)
    (bS11 : aZ.tmps.getD 11 undef = .pointer (some ⟨b, 0, none⟩))
    (bS17 : aZ.tmps.getD 17 undef = .int .i64 (k : Int))
    (k_b_4 : w0.cell? ⟨b, 4, none⟩ = some (.slice (some ⟨cb, coff, none⟩) cl cc))
    (k_cb_coff_k_6 : w0.cell? ⟨cb, coff + k * 6, none⟩ = some (.int .i64 c0))
    (k_cb_coff_k_6_1 : w0.cell? ⟨cb, coff + k * 6 + 1, none⟩ = some (.int .i64 c1))
    (k_cb_coff_k_6_2 : w0.cell? ⟨cb, coff + k * 6 + 2, none⟩ = some (.int .i64 c2))
    (k_cb_coff_k_6_3 : w0.cell? ⟨cb, coff + k * 6 + 3, none⟩ = some (.int .i64 c3))
    (k_cb_coff_k_6_4 : w0.cell? ⟨cb, coff + k * 6 + 4, none⟩ = some (.int .i64 c4))
    (k_cb_coff_k_6_5 : w0.cell? ⟨cb, coff + k * 6 + 5, none⟩ = some (.int .i64 c5))
    (k_ab_off_k_6 : w0.cell? ⟨ab, off + k * 6, none⟩ = some (.int .i64 a0))
    (k_ab_off_k_6_1 : w0.cell? ⟨ab, off + k * 6 + 1, none⟩ = some (.int .i64 a1))
    (k_ab_off_k_6_2 : w0.cell? ⟨ab, off + k * 6 + 2, none⟩ = some (.int .i64 a2))
    (k_ab_off_k_6_3 : w0.cell? ⟨ab, off + k * 6 + 3, none⟩ = some (.int .i64 a3))
    (k_ab_off_k_6_4 : w0.cell? ⟨ab, off + k * 6 + 4, none⟩ = some (.int .i64 a4))
    (k_ab_off_k_6_5 : w0.cell? ⟨ab, off + k * 6 + 5, none⟩ = some (.int .i64 a5))
    (hc : (k : Int) < (cl : Int))
    (ha : (k : Int) < (al : Int))
    (hend : ∀ (_f : Nat → Value) (w : World), Mod (fun _ => False) w0 w → Q .normal (puts aZ [(131, .pointer (some ⟨b, 4, none⟩)), (132, .slice (some ⟨cb, coff, none⟩) cl cc), (133, .int .i64 (k : Int)), (134, .pointer (some ⟨cb, coff + k * 6, none⟩)), (135, .agg #[.int .i64 c0, .int .i64 c1, .int .i64 c2, .int .i64 c3, .int .i64 c4, .int .i64 c5]), (136, .slice (some ⟨ab, off, none⟩) al ac), (137, .int .i64 (k : Int)), (138, .pointer (some ⟨ab, off + k * 6, none⟩)), (139, .agg #[.int .i64 a0, .int .i64 a1, .int .i64 a2, .int .i64 a3, .int .i64 a4, .int .i64 a5]), (140, .bool (!(eyb c0 c1 c2 c3 c4 c5 a0 a1 a2 a3 a4 a5)))]) w) :
    (Code.region id ops true).wp Try.prog Q aZ w0 := by
  obtain ⟨E0, E1, E2, E3, E4, E5, E6, E7, E8, E9⟩ := E
  have hstay : ∀ (i : Nat) (v : Value) (w w1 : World), Mod (fun _ => False) w w1 → (p_rr40 b cb coff cl cc ab off al ac k a0 a1 a2 a3 a4 a5 c0 c1 c2 c3 c4 c5) i v w → (p_rr40 b cb coff cl cc ab off al ac k a0 a1 a2 a3 a4 a5 c0 c1 c2 c3 c4 c5) i v w1 := fun _ _ _ _ _ h => h
  have s0 : ∀ o, ops[0]? = some o → StepI Try.prog ops (p_rr40 b cb coff cl cc ab off al ac k a0 a1 a2 a3 a4 a5 c0 c1 c2 c3 c4 c5) (fun (_ : Array Bool) (_ : Act) (w : World) => Mod (fun _ => False) w0 w) aZ Q 0 o := by
    refine E0.stepI fun o hd ho hg hw => ?_
    intro y w listed hsz hls hun hwt hdown D' hRR hinv K hK
    have f11 : y.eval (Operand.tmp 11) = .pointer (some ⟨b, 0, none⟩)   := (hRR 11 (not_of (by rw [hds]; decide))).trans bS11
    exact .inl ⟨wanted_none hg, wp_value (ox_field (v := .pointer (some ⟨b, 4, none⟩)) ho f11 (by simp [go_sem])) (hK _ _ (fun _ _ _ _ _ _ h => h) rfl hinv)⟩
  have s1 : ∀ o, ops[1]? = some o → StepI Try.prog ops (p_rr40 b cb coff cl cc ab off al ac k a0 a1 a2 a3 a4 a5 c0 c1 c2 c3 c4 c5) (fun (_ : Array Bool) (_ : Act) (w : World) => Mod (fun _ => False) w0 w) aZ Q 1 o := by
    refine E1.stepI fun o hd ho hg hw => ?_
    intro y w listed hsz hls hun hwt hdown D' hRR hinv K hK
    have f131 : y.eval (Operand.tmp 131) = .pointer (some ⟨b, 4, none⟩) := E0.postI (Post := (p_rr40 b cb coff cl cc ab off al ac k a0 a1 a2 a3 a4 a5 c0 c1 c2 c3 c4 c5)) (a := y) (w := w) D' (hwt 0 (hw 0 (by simp)))
    have h0 := hinv.cell k_b_4 (fun h => h)
    exact .inl ⟨wanted_none hg, wp_value (ox_load (v := .slice (some ⟨cb, coff, none⟩) cl cc) ho f131 (by simp [go_sem, h0])) (hK _ _ (fun _ _ _ _ _ _ h => h) rfl hinv)⟩
  have s2 : ∀ o, ops[2]? = some o → StepI Try.prog ops (p_rr40 b cb coff cl cc ab off al ac k a0 a1 a2 a3 a4 a5 c0 c1 c2 c3 c4 c5) (fun (_ : Array Bool) (_ : Act) (w : World) => Mod (fun _ => False) w0 w) aZ Q 2 o := by
    refine E2.stepI fun o hd ho hg hw => ?_
    intro y w listed hsz hls hun hwt hdown D' hRR hinv K hK
    have f17 : y.eval (Operand.tmp 17) = .int .i64 (k : Int)   := (hRR 17 (not_of (by rw [hds]; decide))).trans bS17
    exact .inl ⟨wanted_none hg, wp_value (ox_move ho f17) (hK _ _ (fun _ _ _ _ _ _ h => h) rfl hinv)⟩
  have s3 : ∀ o, ops[3]? = some o → StepI Try.prog ops (p_rr40 b cb coff cl cc ab off al ac k a0 a1 a2 a3 a4 a5 c0 c1 c2 c3 c4 c5) (fun (_ : Array Bool) (_ : Act) (w : World) => Mod (fun _ => False) w0 w) aZ Q 3 o := by
    refine E3.stepI fun o hd ho hg hw => ?_
    intro y w listed hsz hls hun hwt hdown D' hRR hinv K hK
    have f132 : y.eval (Operand.tmp 132) = .slice (some ⟨cb, coff, none⟩) cl cc := E1.postI (Post := (p_rr40 b cb coff cl cc ab off al ac k a0 a1 a2 a3 a4 a5 c0 c1 c2 c3 c4 c5)) (a := y) (w := w) D' (hwt 1 (hw 1 (by simp)))
    have f133 : y.eval (Operand.tmp 133) = .int .i64 (k : Int) := E2.postI (Post := (p_rr40 b cb coff cl cc ab off al ac k a0 a1 a2 a3 a4 a5 c0 c1 c2 c3 c4 c5)) (a := y) (w := w) D' (hwt 2 (hw 2 (by simp)))
    exact .inl ⟨wanted_none hg, wp_value (ox_index (v := .pointer (some ⟨cb, coff + k * 6, none⟩)) ho f132 f133 (by simp [go_sem, hc])) (hK _ _ (fun _ _ _ _ _ _ h => h) rfl hinv)⟩
  have s4 : ∀ o, ops[4]? = some o → StepI Try.prog ops (p_rr40 b cb coff cl cc ab off al ac k a0 a1 a2 a3 a4 a5 c0 c1 c2 c3 c4 c5) (fun (_ : Array Bool) (_ : Act) (w : World) => Mod (fun _ => False) w0 w) aZ Q 4 o := by
    refine E4.stepI fun o hd ho hg hw => ?_
    intro y w listed hsz hls hun hwt hdown D' hRR hinv K hK
    have f134 : y.eval (Operand.tmp 134) = .pointer (some ⟨cb, coff + k * 6, none⟩) := E3.postI (Post := (p_rr40 b cb coff cl cc ab off al ac k a0 a1 a2 a3 a4 a5 c0 c1 c2 c3 c4 c5)) (a := y) (w := w) D' (hwt 3 (hw 3 (by simp)))
    have h0 := hinv.cell k_cb_coff_k_6 (fun h => h)
    have h1 := hinv.cell k_cb_coff_k_6_1 (fun h => h)
    have h2 := hinv.cell k_cb_coff_k_6_2 (fun h => h)
    have h3 := hinv.cell k_cb_coff_k_6_3 (fun h => h)
    have h4 := hinv.cell k_cb_coff_k_6_4 (fun h => h)
    have h5 := hinv.cell k_cb_coff_k_6_5 (fun h => h)
    exact .inl ⟨wanted_none hg, wp_value (ox_load (v := .agg #[.int .i64 c0, .int .i64 c1, .int .i64 c2, .int .i64 c3, .int .i64 c4, .int .i64 c5]) ho f134 (by simp [go_sem, h0, h1, h2, h3, h4, h5])) (hK _ _ (fun _ _ _ _ _ _ h => h) rfl hinv)⟩
  have s5 : ∀ o, ops[5]? = some o → StepI Try.prog ops (p_rr40 b cb coff cl cc ab off al ac k a0 a1 a2 a3 a4 a5 c0 c1 c2 c3 c4 c5) (fun (_ : Array Bool) (_ : Act) (w : World) => Mod (fun _ => False) w0 w) aZ Q 5 o := by
    refine E5.stepI fun o hd ho hg hw => ?_
    intro y w listed hsz hls hun hwt hdown D' hRR hinv K hK
    have f7 : y.eval (Operand.tmp 7) = .slice (some ⟨ab, off, none⟩) al ac   := (hRR 7 (not_of (by rw [hds]; decide))).trans bS7
    exact .inl ⟨wanted_none hg, wp_value (ox_move ho f7) (hK _ _ (fun _ _ _ _ _ _ h => h) rfl hinv)⟩
  have s6 : ∀ o, ops[6]? = some o → StepI Try.prog ops (p_rr40 b cb coff cl cc ab off al ac k a0 a1 a2 a3 a4 a5 c0 c1 c2 c3 c4 c5) (fun (_ : Array Bool) (_ : Act) (w : World) => Mod (fun _ => False) w0 w) aZ Q 6 o := by
    refine E6.stepI fun o hd ho hg hw => ?_
    intro y w listed hsz hls hun hwt hdown D' hRR hinv K hK
    have f17 : y.eval (Operand.tmp 17) = .int .i64 (k : Int)   := (hRR 17 (not_of (by rw [hds]; decide))).trans bS17
    exact .inl ⟨wanted_none hg, wp_value (ox_move ho f17) (hK _ _ (fun _ _ _ _ _ _ h => h) rfl hinv)⟩
  have s7 : ∀ o, ops[7]? = some o → StepI Try.prog ops (p_rr40 b cb coff cl cc ab off al ac k a0 a1 a2 a3 a4 a5 c0 c1 c2 c3 c4 c5) (fun (_ : Array Bool) (_ : Act) (w : World) => Mod (fun _ => False) w0 w) aZ Q 7 o := by
    refine E7.stepI fun o hd ho hg hw => ?_
    intro y w listed hsz hls hun hwt hdown D' hRR hinv K hK
    have f136 : y.eval (Operand.tmp 136) = .slice (some ⟨ab, off, none⟩) al ac := E5.postI (Post := (p_rr40 b cb coff cl cc ab off al ac k a0 a1 a2 a3 a4 a5 c0 c1 c2 c3 c4 c5)) (a := y) (w := w) D' (hwt 5 (hw 5 (by simp)))
    have f137 : y.eval (Operand.tmp 137) = .int .i64 (k : Int) := E6.postI (Post := (p_rr40 b cb coff cl cc ab off al ac k a0 a1 a2 a3 a4 a5 c0 c1 c2 c3 c4 c5)) (a := y) (w := w) D' (hwt 6 (hw 6 (by simp)))
    exact .inl ⟨wanted_none hg, wp_value (ox_index (v := .pointer (some ⟨ab, off + k * 6, none⟩)) ho f136 f137 (by simp [go_sem, ha])) (hK _ _ (fun _ _ _ _ _ _ h => h) rfl hinv)⟩
  have s8 : ∀ o, ops[8]? = some o → StepI Try.prog ops (p_rr40 b cb coff cl cc ab off al ac k a0 a1 a2 a3 a4 a5 c0 c1 c2 c3 c4 c5) (fun (_ : Array Bool) (_ : Act) (w : World) => Mod (fun _ => False) w0 w) aZ Q 8 o := by
    refine E8.stepI fun o hd ho hg hw => ?_
    intro y w listed hsz hls hun hwt hdown D' hRR hinv K hK
    have f138 : y.eval (Operand.tmp 138) = .pointer (some ⟨ab, off + k * 6, none⟩) := E7.postI (Post := (p_rr40 b cb coff cl cc ab off al ac k a0 a1 a2 a3 a4 a5 c0 c1 c2 c3 c4 c5)) (a := y) (w := w) D' (hwt 7 (hw 7 (by simp)))
    have h0 := hinv.cell k_ab_off_k_6 (fun h => h)
    have h1 := hinv.cell k_ab_off_k_6_1 (fun h => h)
    have h2 := hinv.cell k_ab_off_k_6_2 (fun h => h)
    have h3 := hinv.cell k_ab_off_k_6_3 (fun h => h)
    have h4 := hinv.cell k_ab_off_k_6_4 (fun h => h)
    have h5 := hinv.cell k_ab_off_k_6_5 (fun h => h)
    exact .inl ⟨wanted_none hg, wp_value (ox_load (v := .agg #[.int .i64 a0, .int .i64 a1, .int .i64 a2, .int .i64 a3, .int .i64 a4, .int .i64 a5]) ho f138 (by simp [go_sem, h0, h1, h2, h3, h4, h5])) (hK _ _ (fun _ _ _ _ _ _ h => h) rfl hinv)⟩
  have s9 : ∀ o, ops[9]? = some o → StepI Try.prog ops (p_rr40 b cb coff cl cc ab off al ac k a0 a1 a2 a3 a4 a5 c0 c1 c2 c3 c4 c5) (fun (_ : Array Bool) (_ : Act) (w : World) => Mod (fun _ => False) w0 w) aZ Q 9 o := by
    refine E9.stepI fun o hd ho hg hw => ?_
    intro y w listed hsz hls hun hwt hdown D' hRR hinv K hK
    have f135 : y.eval (Operand.tmp 135) = .agg #[.int .i64 c0, .int .i64 c1, .int .i64 c2, .int .i64 c3, .int .i64 c4, .int .i64 c5] := E4.postI (Post := (p_rr40 b cb coff cl cc ab off al ac k a0 a1 a2 a3 a4 a5 c0 c1 c2 c3 c4 c5)) (a := y) (w := w) D' (hwt 4 (hw 4 (by simp)))
    have f139 : y.eval (Operand.tmp 139) = .agg #[.int .i64 a0, .int .i64 a1, .int .i64 a2, .int .i64 a3, .int .i64 a4, .int .i64 a5] := E8.postI (Post := (p_rr40 b cb coff cl cc ab off al ac k a0 a1 a2 a3 a4 a5 c0 c1 c2 c3 c4 c5)) (a := y) (w := w) D' (hwt 8 (hw 8 (by simp)))
    exact .inl ⟨wanted_none hg, wp_value (rx_neqE ho f135 f139) (hK _ _ (fun _ _ _ _ _ _ h => h) rfl hinv)⟩
  refine region_freeI (Post := (p_rr40 b cb coff cl cc ab off al ac k a0 a1 a2 a3 a4 a5 c0 c1 c2 c3 c4 c5)) (Inv := (fun (_ : Array Bool) (_ : Act) (w : World) => Mod (fun _ => False) w0 w)) mixed (low_of hlow) (fun i o ho => by rw [ha0]; exact dst_of (by rw [hds]; decide) i o ho) (inj_of hnd) (Mod.refl _ _).drew ?_ ?_
  · intro i o ho
    have hi : i < 10 := by
      rw [← hN]
      rcases Nat.lt_or_ge i ops.size with h | h
      · exact h
      · rw [Array.getElem?_eq_none h] at ho; cases ho
    clear hend
    by_cases e0 : i = 0
    · subst e0; exact s0 o ho
    by_cases e1 : i = 1
    · subst e1; exact s1 o ho
    by_cases e2 : i = 2
    · subst e2; exact s2 o ho
    by_cases e3 : i = 3
    · subst e3; exact s3 o ho
    by_cases e4 : i = 4
    · subst e4; exact s4 o ho
    by_cases e5 : i = 5
    · subst e5; exact s5 o ho
    by_cases e6 : i = 6
    · subst e6; exact s6 o ho
    by_cases e7 : i = 7
    · subst e7; exact s7 o ho
    by_cases e8 : i = 8
    · subst e8; exact s8 o ho
    by_cases e9 : i = 9
    · subst e9; exact s9 o ho
    omega
  · intro y w listed hsz hdf hls hall hinv hPO hRE
    have e : y = puts aZ [(131, .pointer (some ⟨b, 4, none⟩)), (132, .slice (some ⟨cb, coff, none⟩) cl cc), (133, .int .i64 (k : Int)), (134, .pointer (some ⟨cb, coff + k * 6, none⟩)), (135, .agg #[.int .i64 c0, .int .i64 c1, .int .i64 c2, .int .i64 c3, .int .i64 c4, .int .i64 c5]), (136, .slice (some ⟨ab, off, none⟩) al ac), (137, .int .i64 (k : Int)), (138, .pointer (some ⟨ab, off + k * 6, none⟩)), (139, .agg #[.int .i64 a0, .int .i64 a1, .int .i64 a2, .int .i64 a3, .int .i64 a4, .int .i64 a5]), (140, .bool (!(eyb c0 c1 c2 c3 c4 c5 a0 a1 a2 a3 a4 a5)))] := by
      refine eq_puts hsz hdf (nodup_of (D := [some 131, some 132, some 133, some 134, some 135, some 136, some 137, some 138, some 139, some 140]) rfl (by decide)) (by rw [ha0]; simp) ?_ ?_
      · intro q hq
        simp only [List.mem_cons, List.not_mem_nil, or_false] at hq
        rcases hq with rfl | rfl | rfl | rfl | rfl | rfl | rfl | rfl | rfl | rfl
        · obtain ⟨o, h1, h2, _⟩ := E0.ex
          exact hPO 0 o _ h1 h2
        · obtain ⟨o, h1, h2, _⟩ := E1.ex
          exact hPO 1 o _ h1 h2
        · obtain ⟨o, h1, h2, _⟩ := E2.ex
          exact hPO 2 o _ h1 h2
        · obtain ⟨o, h1, h2, _⟩ := E3.ex
          exact hPO 3 o _ h1 h2
        · obtain ⟨o, h1, h2, _⟩ := E4.ex
          exact hPO 4 o _ h1 h2
        · obtain ⟨o, h1, h2, _⟩ := E5.ex
          exact hPO 5 o _ h1 h2
        · obtain ⟨o, h1, h2, _⟩ := E6.ex
          exact hPO 6 o _ h1 h2
        · obtain ⟨o, h1, h2, _⟩ := E7.ex
          exact hPO 7 o _ h1 h2
        · obtain ⟨o, h1, h2, _⟩ := E8.ex
          exact hPO 8 o _ h1 h2
        · obtain ⟨o, h1, h2, _⟩ := E9.ex
          exact hPO 9 o _ h1 h2
      · intro t ht
        exact hRE t (not_of (by rw [hds]; exact not_cont rfl ht))
    rw [e]
    exact hend (fun d => y.tmps.getD d undef) w hinv
end Go.Proofs.Ytlekmgjjjniomaa
