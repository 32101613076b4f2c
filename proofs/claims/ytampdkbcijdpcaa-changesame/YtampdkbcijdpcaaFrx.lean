/- A statement that draws its order, walked once: the frame behind it written out; its single operations. Conditions: those of Fre. -/
import Derived.Test.YtampdkbcijdpcaaFre
import Derived.Laws.BitsLemmas
namespace Go.Proofs.Ytampdkbcijdpcaa
open Go.RowKit
theorem mixed : Try.prog.follows .mixedOrders = true := by kernel_rfl
theorem wrap_in {x : Int} (h1 : -9223372036854775808 ≤ x) (h2 : x ≤ 9223372036854775807) : IntKind.i64.wrap x = x := by rw [IntKind.wrap_i64]; omega
/-- Slots filled one behind the other. -/
def puts (a : Act) : List (Nat × Value) → Act
  | [] => a
  | p :: r => puts (a.put (some p.1) p.2) r
theorem puts_size : ∀ (L : List (Nat × Value)) (a : Act), (puts a L).tmps.size = a.tmps.size
  | [], _ => rfl
  | p :: r, a => by rw [puts, puts_size r, put_size]
theorem puts_defers : ∀ (L : List (Nat × Value)) (a : Act), (puts a L).defers = a.defers
  | [], _ => rfl
  | p :: r, a => by rw [puts, puts_defers r]; rfl
theorem puts_other : ∀ (L : List (Nat × Value)) (a : Act) (t : Nat), (∀ p ∈ L, p.1 ≠ t) → (puts a L).tmps.getD t undef = a.tmps.getD t undef
  | [], _, _, _ => rfl
  | p :: r, a, t, h => by
    rw [puts, puts_other r _ t (fun q hq => h q (List.mem_cons_of_mem _ hq)), put_other (h p (List.mem_cons_self ..))]
theorem puts_get : ∀ (L : List (Nat × Value)) (a : Act), (L.map (·.1)).Nodup → ∀ p ∈ L, p.1 < a.tmps.size → (puts a L).tmps.getD p.1 undef = p.2
  | [], _, _, _, h, _ => by cases h
  | q :: r, a, hn, p, hp, hs => by
    rw [List.map_cons, List.nodup_cons] at hn
    rw [puts]
    rcases List.mem_cons.1 hp with rfl | h
    · rw [puts_other r _ _ (fun x hx e => hn.1 (List.mem_map.2 ⟨x, hx, e⟩)), put_same hs]
    · exact puts_get r _ hn.2 p h (by rw [put_size]; exact hs)
theorem eq_puts {a y : Act} {L : List (Nat × Value)} (hsz : y.tmps.size = a.tmps.size) (hdf : y.defers = a.defers) (hn : (L.map (·.1)).Nodup) (hlt : ∀ p ∈ L, p.1 < a.tmps.size) (hv : ∀ p ∈ L, y.tmps.getD p.1 undef = p.2)
    (hr : ∀ t, (∀ p ∈ L, p.1 ≠ t) → y.tmps.getD t undef = a.tmps.getD t undef) : y = puts a L := by
  have ht : y.tmps = (puts a L).tmps := by
    apply Array.ext
    · rw [puts_size, hsz]
    · intro i h1 h2
      have e1 : y.tmps[i] = y.tmps.getD i undef := by simp [h1]
      have e2 : (puts a L).tmps[i] = (puts a L).tmps.getD i undef := by simp [h2]
      rw [e1, e2]
      by_cases hm : ∃ p ∈ L, p.1 = i
      · obtain ⟨p, hp, rfl⟩ := hm
        rw [hv p hp, puts_get L a hn p hp (hlt p hp)]
      · have hm' : ∀ p ∈ L, p.1 ≠ i := fun p hp e => hm ⟨p, hp, e⟩
        rw [hr i hm', puts_other L a i hm']
  have hd : y.defers = (puts a L).defers := by rw [puts_defers, hdf]
  cases y
  cases hq : puts a L
  rw [hq] at ht hd
  simp only at ht hd
  rw [ht, hd]
theorem wanted_yes {ops : Array Oper} {a : Act} {o : Oper} {j : Nat} {g : Bool} {d : Tmp} {op : Op} {gg : Option (Nat × Bool)} {ws : List Nat} (E : Is ops j (some d) op gg ws) (h : o.guard = some (j, g)) (hlt : d < a.tmps.size) (hv : a.tmps.getD d undef = .bool g) : Region.wanted o (yielded ops a.tmps) = true := by
  obtain ⟨oj, h1, h2, _⟩ := E.ex
  rw [wanted_at h h1 h2 hlt hv]
  simp
theorem wanted_no {ops : Array Oper} {a : Act} {o : Oper} {j : Nat} {g : Bool} {d : Tmp} {op : Op} {gg : Option (Nat × Bool)} {ws : List Nat} (E : Is ops j (some d) op gg ws) (h : o.guard = some (j, g)) (hlt : d < a.tmps.size) (hv : a.tmps.getD d undef = .bool (!g)) : Region.wanted o (yielded ops a.tmps) = false := by
  obtain ⟨oj, h1, h2, _⟩ := E.ex
  rw [wanted_at h h1 h2 hlt hv]
  cases g <;> rfl
theorem wanted_none' {ops : Array Oper} {a : Act} {o : Oper} {j : Nat} {g : Bool} {d : Tmp} {op : Op} {gg : Option (Nat × Bool)} {ws : List Nat} (E : Is ops j (some d) op gg ws) (h : o.guard = some (j, g)) (hlt : d < a.tmps.size) (hv : a.tmps.getD d undef = undef) : Region.wanted o (yielded ops a.tmps) = false := by
  obtain ⟨oj, h1, h2, _⟩ := E.ex
  exact wanted_undef h h1 h2 hlt hv
section
variable {o : Oper} {w : World} {ρ : Operand → Value} {x y z : Operand}
theorem ox_move (ho : o.op = .move x) {v : Value} (hx : ρ x = v) : (execOp ρ o).run Try.prog w = .ok (.value v) w := by simp [execOp, ho, hx]
theorem ox_pick (ho : o.op = .pick x y z) {c : Bool} {v : Value} (hx : ρ x = .bool c) (hv : (if c then ρ y else ρ z) = v) : (execOp ρ o).run Try.prog w = .ok (.value v) w := by
  subst hv
  simp only [execOp, ho, hx]
  cases c <;> simp [asBool]
theorem ox_not {t : TypeId} (ho : o.op = .unOp .not t x) {c : Bool} (hx : ρ x = .bool c) : (execOp ρ o).run Try.prog w = .ok (.value (.bool !c)) w := by
  simp [execOp, ho, hx, go_sem]
theorem ox_load {t : TypeId} (ho : o.op = .load t x) {a v : Value} (hx : ρ x = a) (h : (Instr.loadAt t a).run Try.prog w = .ok v w) : (execOp ρ o).run Try.prog w = .ok (.value v) w := by
  simp [execOp, ho, hx, h, Result.andThen]
theorem ox_field {t : TypeId} {f : _} (ho : o.op = .fieldAddr t x f) {a v : Value} (hx : ρ x = a) (h : (Instr.fieldAt t a f).run Try.prog w = .ok v w) : (execOp ρ o).run Try.prog w = .ok (.value v) w := by
  simp [execOp, ho, hx, h, Result.andThen]
theorem ox_index {t : TypeId} (ho : o.op = .indexAddr t x y) {a b v : Value} (hx : ρ x = a) (hy : ρ y = b) (h : (Instr.indexAt t a b).run Try.prog w = .ok v w) : (execOp ρ o).run Try.prog w = .ok (.value v) w := by
  simp [execOp, ho, hx, hy, h, Result.andThen]
end
theorem exec_call0 {o : Oper} {w : World} (ρ : Operand → Value) {f : FuncId} (hcf : ∀ args w, (callFunc f args).run Try.prog w = .ok (.enter f args) w) (hf : ρ (.func f) = .func (.func f) #[] #[]) {ts : Array TypeId} (ho : o.op = .call { callee := .value (.func f), args := #[], argTypes := ts }) : (execOp ρ o).run Try.prog w = .ok (.enter f #[]) w := by
  simp [execOp, ho, resolve, invoke, hf, go_sem, hcf]
theorem exec_call1 {o : Oper} {w : World} (ρ : Operand → Value) {f : FuncId} (hcf : ∀ args w, (callFunc f args).run Try.prog w = .ok (.enter f args) w) (hf : ρ (.func f) = .func (.func f) #[] #[]) {x : Operand} {ts : Array TypeId} (ho : o.op = .call { callee := .value (.func f), args := #[x], argTypes := ts }) : (execOp ρ o).run Try.prog w = .ok (.enter f #[ρ x]) w := by
  simp [execOp, ho, resolve, invoke, hf, go_sem, hcf]
theorem exec_call2 {o : Oper} {w : World} (ρ : Operand → Value) {f : FuncId} (hcf : ∀ args w, (callFunc f args).run Try.prog w = .ok (.enter f args) w) (hf : ρ (.func f) = .func (.func f) #[] #[]) {x y : Operand} {ts : Array TypeId} (ho : o.op = .call { callee := .value (.func f), args := #[x, y], argTypes := ts }) : (execOp ρ o).run Try.prog w = .ok (.enter f #[ρ x, ρ y]) w := by
  simp [execOp, ho, resolve, invoke, hf, go_sem, hcf]
theorem nodup_of {L : List (Nat × Value)} {D : List (Option Tmp)} (h : L.map (fun p => some p.1) = D) (hd : (D.map fun d => d.getD 0).Nodup) : (L.map (·.1)).Nodup := by
  subst h
  simpa [List.map_map, Function.comp_def] using hd
end Go.Proofs.Ytampdkbcijdpcaa
