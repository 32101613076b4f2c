/- Single operations of a statement that draws its order: moves, picks, comparisons, calls, and the laying of bytes. No conditions beyond those in each statement. -/
import Derived.Test.YtmfpllogpjlkpaaFre
import Derived.Laws.MakeOwn
namespace Go.Proofs.Ytmfpllogpjlkpaa
open Go.RowKit
theorem wanted_none {ops : Array Oper} {a : Act} {o : Oper} (h : o.guard = none) : Region.wanted o (yielded ops a.tmps) = true := by simp [Region.wanted, h]
theorem wanted_some {ops : Array Oper} {a : Act} {o og : Oper} {g : Nat} {b : Bool} {d : Tmp} (h : o.guard = some (g, b)) (hg : ops[g]? = some og) (hd : og.dst = some d) (hs : d < a.tmps.size) (hv : a.tmps.getD d undef = .bool b) : Region.wanted o (yielded ops a.tmps) = true := by
  have hv' : a.tmps[d]? = some (.bool b) := by
    simp only [Array.getD_eq_getD_getElem?, hs, Array.getElem?_eq_getElem, Option.getD_some] at hv ⊢
    rw [hv]
  have hy : yielded ops a.tmps g = some b := by simp [yielded, hg, hd, hv']
  simp [Region.wanted, h, hy]
section
variable {P : Program} {o : Oper} {a : Act} {w w' : World} {K : Act → World → Prop} {Q : Exit → Act → World → Prop}
theorem wp_value {v : Value} (h : (execOp a.eval o).run P w = .ok (.value v) w') (k : K (a.put o.dst v) w') : Oper.wp P o a w K Q := by
  unfold Oper.wp
  rw [h]
  exact k
theorem wp_enter {f : FuncId} {args : Array Value} {R : Ending → World → Prop} (h : (execOp a.eval o).run P w = .ok (.enter f args) w) (hc : Calls P f args w R) (k : ∀ e w', R e w' → ∃ v, e = .returned v ∧ K (a.put o.dst v) w') : Oper.wp P o a w K Q := by
  unfold Oper.wp
  rw [h, Oper.upon_enter]
  refine hc.mono ?_
  intro e w' he
  obtain ⟨v, rfl, hk⟩ := k e w' he
  exact hk
theorem wp_move {x : Operand} (ho : o.op = .move x ∨ o.op = .assign x) (k : K (a.put o.dst (a.eval x)) w) : Oper.wp P o a w K Q := by
  refine wp_value ?_ k
  rcases ho with ho | ho <;> simp [execOp, ho]
theorem wp_pick {c x y : Operand} (ho : o.op = .pick c x y) (hc : a.eval c = .bool true) (k : K (a.put o.dst (a.eval x)) w) : Oper.wp P o a w K Q := by
  refine wp_value ?_ k
  simp [execOp, ho, hc, asBool]
end
theorem cf4 (args : Array Value) (w : World) : (callFunc 4 args).run Try.prog w = .ok (.enter 4 args) w := by simp [go_sem]
theorem cf5 (args : Array Value) (w : World) : (callFunc 5 args).run Try.prog w = .ok (.enter 5 args) w := by simp [go_sem]
theorem cf9 (args : Array Value) (w : World) : (callFunc 9 args).run Try.prog w = .ok (.enter 9 args) w := by simp [go_sem]
theorem cf10 (args : Array Value) (w : World) : (callFunc 10 args).run Try.prog w = .ok (.enter 10 args) w := by simp [go_sem]
theorem cf12 (args : Array Value) (w : World) : (callFunc 12 args).run Try.prog w = .ok (.enter 12 args) w := by simp [go_sem]
theorem cf16 (args : Array Value) (w : World) : (callFunc 16 args).run Try.prog w = .ok (.enter 16 args) w := by simp [go_sem]
theorem exec_call0 {o : Oper} {w : World} (ρ : Operand → Value) {f : FuncId} (hcf : ∀ args w, (callFunc f args).run Try.prog w = .ok (.enter f args) w) (hf : ρ (.func f) = .func (.func f) #[] #[]) {ts : Array TypeId} (ho : o.op = .call { callee := .value (.func f), args := #[], argTypes := ts }) : (execOp ρ o).run Try.prog w = .ok (.enter f #[]) w := by
  simp [execOp, ho, resolve, invoke, hf, go_sem, hcf]
theorem exec_call1 {o : Oper} {w : World} (ρ : Operand → Value) {f : FuncId} (hcf : ∀ args w, (callFunc f args).run Try.prog w = .ok (.enter f args) w) (hf : ρ (.func f) = .func (.func f) #[] #[]) {x : Operand} {ts : Array TypeId} (ho : o.op = .call { callee := .value (.func f), args := #[x], argTypes := ts }) : (execOp ρ o).run Try.prog w = .ok (.enter f #[ρ x]) w := by
  simp [execOp, ho, resolve, invoke, hf, go_sem, hcf]
theorem exec_call2 {o : Oper} {w : World} (ρ : Operand → Value) {f : FuncId} (hcf : ∀ args w, (callFunc f args).run Try.prog w = .ok (.enter f args) w) (hf : ρ (.func f) = .func (.func f) #[] #[]) {x y : Operand} {ts : Array TypeId} (ho : o.op = .call { callee := .value (.func f), args := #[x, y], argTypes := ts }) : (execOp ρ o).run Try.prog w = .ok (.enter f #[ρ x, ρ y]) w := by
  simp [execOp, ho, resolve, invoke, hf, go_sem, hcf]
theorem exec_eql24 {o : Oper} {w : World} (ρ : Operand → Value) {x y : Operand} {m n : Int} (ho : o.op = .binOp .eql 24 x y 24) (hx : ρ x = .int .u32 m) (hy : ρ y = .int .u32 n) : (execOp ρ o).run Try.prog w = .ok (.value (.bool (m == n))) w := by
  simp [execOp, ho, hx, hy, go_sem]
theorem exec_eql28 {o : Oper} {w : World} (ρ : Operand → Value) {x y : Operand} {m n : Int} (ho : o.op = .binOp .eql 28 x y 28) (hx : ρ x = .int .i64 m) (hy : ρ y = .int .i64 n) : (execOp ρ o).run Try.prog w = .ok (.value (.bool (m == n))) w := by
  simp [execOp, ho, hx, hy, go_sem]
theorem exec_eql3 {o : Oper} {w : World} (ρ : Operand → Value) {x y : Operand} {m n : Int} (ho : o.op = .binOp .eql 3 x y 3) (hx : ρ x = .int .i64 m) (hy : ρ y = .int .i64 n) : (execOp ρ o).run Try.prog w = .ok (.value (.bool (m == n))) w := by
  simp [execOp, ho, hx, hy, go_sem]
theorem exec_len {o : Oper} {w : World} (ρ : Operand → Value) {x : Operand} {ao : Option Addr} {n c : Nat} (ho : o.op = .call { callee := .builtin .len, args := #[x], argTypes := #[22] }) (hx : ρ x = .slice ao n c) : (execOp ρ o).run Try.prog w = .ok (.value (.int .i64 (n : Int))) w := by
  simp [execOp, ho, hx, resolve, invoke, go_sem]
theorem exec_build1 {o : Oper} {a : Act} {w : World} {c : Int} (ho : o.op = .buildSlice 22 1 #[(0, .const (.int .u8 c))]) : (execOp a.eval o).run Try.prog w = .ok (.value (.slice (some ⟨w.heap.size, 0, none⟩) 1 1)) (w.alloc (.cells #[.int .u8 c] 5)) := by
  simp [execOp, ho, go_sem, Act.eval]
theorem exec_build5 {o : Oper} {a : Act} {w : World} {c d e f g : Int} (ho : o.op = .buildSlice 22 5 #[(0, .const (.int .u8 c)), (1, .const (.int .u8 d)), (2, .const (.int .u8 e)), (3, .const (.int .u8 f)), (4, .const (.int .u8 g))]) : (execOp a.eval o).run Try.prog w = .ok (.value (.slice (some ⟨w.heap.size, 0, none⟩) 5 5)) (w.alloc (.cells #[.int .u8 c, .int .u8 d, .int .u8 e, .int .u8 f, .int .u8 g] 5)) := by
  simp [execOp, ho, go_sem, Act.eval]
theorem exec_make {o : Oper} {w w' : World} (ρ : Operand → Value) {x y : Operand} {v : Value} (ho : o.op = .makeSlice 22 x y) (h : (Instr.makeSlice 22 (ρ x) (ρ y)).run Try.prog w = .ok v w') : (execOp ρ o).run Try.prog w = .ok (.value v) w' := by
  simp [execOp, ho, h, Result.andThen]
theorem exec_convert {o : Oper} {w : World} (ρ : Operand → Value) {x : Operand} {b n c : Nat} {C : Array Value} {f : Nat × Nat} (ho : o.op = .convert 22 22 x) (hx : ρ x = .slice (some ⟨b, 0, none⟩) n c) (hb : w.heap[b]? = some (.cells C 5 f)) :
    (execOp ρ o).run Try.prog w = .ok (.value (.slice (some ⟨b, 0, none⟩) n c)) (w.freeze ⟨b, C.size, none⟩ 1) := by
  have hsh : w.shape? b = some (5, C.size) := by simp [World.shape?, hb]
  simp [execOp, ho, hx, convert, run_underlying Try.underlying22, run_underlying Try.underlying5, markStringish, hsh, Sem.run_bind, Result.andThen]
theorem On.freeze {B : Nat} {w : World} (b k : Nat) (hB : B ≤ b) : On B w (w.freeze ⟨b, k, none⟩ 1) := by
  unfold World.freeze
  rw [if_neg (by decide)]
  refine ⟨⟨rfl, rfl, rfl, by simp, fun q hq hS => ?_⟩, fun q C t f hq => ?_⟩
  · have hne : b ≠ q := by rintro rfl; exact hS hB
    simp [Array.getElem?_modify, hne]
  · by_cases e : b = q
    · subst e
      obtain ⟨lo, hi⟩ := f
      simp [Array.getElem?_modify, hq]
    · exact ⟨f, by simp [Array.getElem?_modify, e, hq]⟩

/-- What an operation of a statement is. -/
structure Is (ops : Array Oper) (i : Nat) (d : Tmp) (op : Op) (g : Option (Nat × Bool)) (ws : List Nat) : Prop where
  ex : ∃ o, ops[i]? = some o ∧ o.dst = some d ∧ o.op = op ∧ o.guard = g ∧ ∀ j ∈ ws, waits o j = true
theorem Is.step {P : Program} {ops : Array Oper} {Post : Nat → Value → World → Prop} {a0 : Act} {w0 : World} {Q : Exit → Act → World → Prop} {i : Nat} {d : Tmp} {op : Op} {g : Option (Nat × Bool)} {ws : List Nat} (E : Is ops i d op g ws)
    (h : ∀ o, o.dst = some d → o.op = op → o.guard = g → (∀ j ∈ ws, waits o j = true) → Step P ops Post a0 w0 Q i o) : ∀ o, ops[i]? = some o → Step P ops Post a0 w0 Q i o := by
  obtain ⟨o', h1, h2, h3, h4, h5⟩ := E.ex
  intro o ho
  rw [h1] at ho
  cases ho
  exact h o' h2 h3 h4 h5
theorem Is.post {ops : Array Oper} {Post : Nat → Value → World → Prop} {a : Act} {w : World} {j : Nat} {d : Tmp} {op : Op} {g : Option (Nat × Bool)} {ws : List Nat} (E : Is ops j d op g ws) {o : Oper}
    (D : ∀ (j : Nat) (oj : Oper) (d : Tmp), waits o j = true → ops[j]? = some oj → oj.dst = some d → Post j (a.tmps.getD d undef) w) (hw : waits o j = true) : Post j (a.tmps.getD d undef) w := by
  obtain ⟨o', h1, h2, _⟩ := E.ex
  exact D j o' d hw h1 h2
theorem Is.wanted {ops : Array Oper} {a : Act} {j : Nat} {d : Tmp} {op : Op} {g : Option (Nat × Bool)} {ws : List Nat} (E : Is ops j d op g ws) {o : Oper} (hg : o.guard = some (j, true)) (hs : d < a.tmps.size) (hv : a.tmps.getD d undef = .bool true) : Region.wanted o (yielded ops a.tmps) = true := by
  obtain ⟨o', h1, h2, _⟩ := E.ex
  exact wanted_some hg h1 h2 hs hv

def lowB (ops : Array Oper) : Bool := (List.range ops.size).all fun i => ((ops[i]?).map fun o => o.after.all fun e => !Region.binds .any e || decide (e.on < i)).getD true
theorem low_of {ops : Array Oper} (h : lowB ops = true) : ∀ (i : Nat) (o : Oper), ops[i]? = some o → ∀ j, waits o j = true → j < i := by
  intro i o ho j hw
  have hi : i < ops.size := by
    rcases Nat.lt_or_ge i ops.size with h | h
    · exact h
    · rw [Array.getElem?_eq_none h] at ho; cases ho
  unfold lowB at h
  rw [List.all_eq_true] at h
  have h1 := h i (List.mem_range.2 hi)
  rw [ho] at h1
  simp only [Option.map_some, Option.getD_some, Array.all_eq_true] at h1
  unfold waits at hw
  rw [Array.any_eq_true] at hw
  obtain ⟨k, hk, hb⟩ := hw
  have := h1 k hk
  simp only [Bool.and_eq_true, beq_iff_eq] at hb
  rw [hb.1, hb.2] at this
  simpa using this
def dsts (ops : Array Oper) : List (Option Tmp) := ops.toList.map (·.dst)
theorem dst_of {ops : Array Oper} {N : Nat} (h : ((dsts ops).all fun d => (d.map fun t => decide (t < N)).getD false) = true) : ∀ (i : Nat) (o : Oper), ops[i]? = some o → ∃ d, o.dst = some d ∧ d < N := by
  intro i o ho
  rw [List.all_eq_true] at h
  have hmem : o.dst ∈ dsts ops := List.mem_map.2 ⟨o, by rw [Array.mem_toList_iff]; exact Array.mem_of_getElem? ho, rfl⟩
  have h1 := h _ hmem
  cases hd : o.dst with
  | none => rw [hd] at h1; simp at h1
  | some d => rw [hd] at h1; exact ⟨d, rfl, by simpa using h1⟩
theorem inj_of {ops : Array Oper} (h : (dsts ops).Nodup) : ∀ (i j : Nat) (oi oj : Oper) (d : Tmp), ops[i]? = some oi → ops[j]? = some oj → oi.dst = some d → oj.dst = some d → i = j := by
  intro i j oi oj d hi hj hdi hdj
  have e1 : (dsts ops)[i]? = some (some d) := by simp [dsts, hi, hdi]
  have e2 : (dsts ops)[j]? = some (some d) := by simp [dsts, hj, hdj]
  have hl : i < (dsts ops).length := by
    rcases Nat.lt_or_ge i (dsts ops).length with h | h
    · exact h
    · rw [List.getElem?_eq_none h] at e1; cases e1
  exact (List.getElem?_inj hl h).1 (e1.trans e2.symm)
theorem not_of {ops : Array Oper} {t : Tmp} (h : (dsts ops).contains (some t) = false) : ∀ (i : Nat) (o : Oper), ops[i]? = some o → o.dst ≠ some t := by
  intro i o ho e
  have hmem : some t ∈ dsts ops := List.mem_map.2 ⟨o, by rw [Array.mem_toList_iff]; exact Array.mem_of_getElem? ho, e⟩
  have : (dsts ops).contains (some t) = true := by simpa using hmem
  rw [h] at this
  cases this
end Go.Proofs.Ytmfpllogpjlkpaa
