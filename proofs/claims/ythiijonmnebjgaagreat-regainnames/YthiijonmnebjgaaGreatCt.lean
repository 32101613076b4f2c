/- parcel's map of functions: what stands in it, and what a look into it answers. No conditions. -/
import Derived.Test.YthiijonmnebjgaaGreatCr
import Derived.Carry
import Derived.MapKept
namespace Go.Proofs.YthiijonmnebjgaaGreat
open Go.RowKit
theorem find_none (k : Int) : ∀ (l : List MapEntry) (i : Nat), (∀ e ∈ l, ∃ x, e.key = .int .i64 x ∧ x ≠ k) → Instr.findNow (.int .i64) (.int .i64 k) l i = some none := by
    intro l
    induction l with
    | nil => intro i _; rfl
    | cons e l ih =>
      intro i h
      obtain ⟨x, hx, hne⟩ := h e (by simp)
      rw [Instr.findNow, hx]
      have hb : (k == x) = false := by simp; exact fun e => hne e.symm
      simp only [Instr.sameNow, if_true, hb]
      exact ih (i + 1) (fun e' he => h e' (by simp [he]))
theorem ins_any (w : World) (v : Value) (es : Array MapEntry) (c : Nat) (k : Int) (hf : ∀ e ∈ es.toList, ∃ x, e.key = .int .i64 x ∧ x ≠ k) : (Instr.mapUpdate 98 (.map (some w.heap.size)) (.int .i64 k) v).run Tryz.prog (w.alloc (.map es c)) = .ok () (w.alloc (.map (es.push ⟨.int .i64 k, v, c⟩) (c + 1))) := by
  have hck : ∀ W, (Instr.checkKey false 10000 3 (.int .i64 k)).run Tryz.prog W = .ok () W := fun W => MapKept.run_checkKey Tryz.underlying3 (by simp [MapKept.IsKey]) false 9999
  have hfn := find_none k es.toList 0 hf
  have hfk : ∀ W, (Instr.findKey 3 (.int .i64 k) es.toList).run Tryz.prog W = .ok none W := fun W => by
    unfold Instr.findKey
    simp only [Sem.run_bind, run_underlying Tryz.underlying3, Result.andThen_ok, hfn]
    rfl
  have hb := heap_alloc_new w (.map es c)
  have hst := MapKept.run_setObj_map (P := Tryz.prog) (.map (es.push ⟨.int .i64 k, v, c⟩) (c + 1)) hb
  unfold Instr.mapUpdate
  simp only [Sem.run_bind, run_underlying Tryz.underlying98, Result.andThen_ok, MapKept.run_getObj_map hb, hck, hfk, hst]
  have e : (w.heap.push (.map es c)).setIfInBounds w.heap.size (.map (es.push ⟨.int .i64 k, v, c⟩) (c + 1)) = w.heap.push (.map (es.push ⟨.int .i64 k, v, c⟩) (c + 1)) := by
    apply Array.ext
    · simp
    · intro i h1 h2
      by_cases hi : i = w.heap.size
      · subst hi; simp
      · rw [Array.getElem_setIfInBounds_ne (h := fun e => hi e.symm)]
        · rw [Array.getElem_push_lt, Array.getElem_push_lt]
          simp at h2
          omega
        · simpa using h2
  show Result.ok () _ = Result.ok () _
  congr 1
  unfold World.alloc
  simp only
  rw [e]
/-- What stands in the map. -/
def FM : Array MapEntry := #[⟨.int .i64 1, .func (Fn.func 87) #[] #[], 0⟩, ⟨.int .i64 2, .func (Fn.func 88) #[] #[], 1⟩, ⟨.int .i64 3, .func (Fn.func 89) #[] #[], 2⟩, ⟨.int .i64 4, .func (Fn.func 90) #[] #[], 3⟩, ⟨.int .i64 5, .func (Fn.func 91) #[] #[], 4⟩]
set_option maxRecDepth 100000 in
theorem kinds (w : World) : Calls Tryz.prog 67 #[] w fun e w' => ∃ b, e = .returned (.map (some b)) ∧ w'.heap[b]? = some (.map FM 5) ∧ Mod (fun _ => False) w w' := by
  have h0 := @run_makeMap Tryz.prog
  have h1 : ∀ v, (Instr.mapUpdate 98 (.map (some w.heap.size)) (.int .i64 1) v).run Tryz.prog (w.alloc (.map #[] 0)) = .ok () (w.alloc (.map #[⟨.int .i64 1, v, 0⟩] 1)) := fun v => ins_any w v #[] 0 1 (by simp)
  have h2 : ∀ v, (Instr.mapUpdate 98 (.map (some w.heap.size)) (.int .i64 2) v).run Tryz.prog (w.alloc (.map #[⟨.int .i64 1, .func (Fn.func 87) #[] #[], 0⟩] 1)) = .ok () (w.alloc (.map #[⟨.int .i64 1, .func (Fn.func 87) #[] #[], 0⟩, ⟨.int .i64 2, v, 1⟩] 2)) := fun v => ins_any w v #[⟨.int .i64 1, .func (Fn.func 87) #[] #[], 0⟩] 1 2 (by simp)
  have h3 : ∀ v, (Instr.mapUpdate 98 (.map (some w.heap.size)) (.int .i64 3) v).run Tryz.prog (w.alloc (.map #[⟨.int .i64 1, .func (Fn.func 87) #[] #[], 0⟩, ⟨.int .i64 2, .func (Fn.func 88) #[] #[], 1⟩] 2)) = .ok () (w.alloc (.map #[⟨.int .i64 1, .func (Fn.func 87) #[] #[], 0⟩, ⟨.int .i64 2, .func (Fn.func 88) #[] #[], 1⟩, ⟨.int .i64 3, v, 2⟩] 3)) := fun v => ins_any w v #[⟨.int .i64 1, .func (Fn.func 87) #[] #[], 0⟩, ⟨.int .i64 2, .func (Fn.func 88) #[] #[], 1⟩] 2 3 (by simp)
  have h4 : ∀ v, (Instr.mapUpdate 98 (.map (some w.heap.size)) (.int .i64 4) v).run Tryz.prog (w.alloc (.map #[⟨.int .i64 1, .func (Fn.func 87) #[] #[], 0⟩, ⟨.int .i64 2, .func (Fn.func 88) #[] #[], 1⟩, ⟨.int .i64 3, .func (Fn.func 89) #[] #[], 2⟩] 3)) = .ok () (w.alloc (.map #[⟨.int .i64 1, .func (Fn.func 87) #[] #[], 0⟩, ⟨.int .i64 2, .func (Fn.func 88) #[] #[], 1⟩, ⟨.int .i64 3, .func (Fn.func 89) #[] #[], 2⟩, ⟨.int .i64 4, v, 3⟩] 4)) := fun v => ins_any w v #[⟨.int .i64 1, .func (Fn.func 87) #[] #[], 0⟩, ⟨.int .i64 2, .func (Fn.func 88) #[] #[], 1⟩, ⟨.int .i64 3, .func (Fn.func 89) #[] #[], 2⟩] 3 4 (by simp)
  have h5 : ∀ v, (Instr.mapUpdate 98 (.map (some w.heap.size)) (.int .i64 5) v).run Tryz.prog (w.alloc (.map #[⟨.int .i64 1, .func (Fn.func 87) #[] #[], 0⟩, ⟨.int .i64 2, .func (Fn.func 88) #[] #[], 1⟩, ⟨.int .i64 3, .func (Fn.func 89) #[] #[], 2⟩, ⟨.int .i64 4, .func (Fn.func 90) #[] #[], 3⟩] 4)) = .ok () (w.alloc (.map #[⟨.int .i64 1, .func (Fn.func 87) #[] #[], 0⟩, ⟨.int .i64 2, .func (Fn.func 88) #[] #[], 1⟩, ⟨.int .i64 3, .func (Fn.func 89) #[] #[], 2⟩, ⟨.int .i64 4, .func (Fn.func 90) #[] #[], 3⟩, ⟨.int .i64 5, v, 4⟩] 5)) := fun v => ins_any w v #[⟨.int .i64 1, .func (Fn.func 87) #[] #[], 0⟩, ⟨.int .i64 2, .func (Fn.func 88) #[] #[], 1⟩, ⟨.int .i64 3, .func (Fn.func 89) #[] #[], 2⟩, ⟨.int .i64 4, .func (Fn.func 90) #[] #[], 3⟩] 4 5 (by simp)
  go_enter Tryz.func67, Tryz.ntmps67
  go_wp2
  go_ret
  exact ⟨w.heap.size, rfl, heap_alloc_new w _, (Mod.refl _ w).alloc _⟩
theorem look1 (w : World) (b : Nat) (hb : w.heap[b]? = some (.map FM 5)) : (Instr.lookup 98 (.map (some b)) (.int .i64 1) true).run Tryz.prog w = .ok (.tuple #[.func (Fn.func 87) #[] #[], .bool true]) w := by
  have hck : ∀ W e, (Instr.checkKey e 10000 3 (.int .i64 1)).run Tryz.prog W = .ok () W := fun W e => MapKept.run_checkKey Tryz.underlying3 (by simp [MapKept.IsKey]) e 9999
  have hfk : ∀ W, (Instr.findKey 3 (.int .i64 1) FM.toList).run Tryz.prog W = .ok (some (0, .func (Fn.func 87) #[] #[])) W := fun W => by
    unfold Instr.findKey
    simp only [Sem.run_bind, run_underlying Tryz.underlying3, Result.andThen_ok]
    rfl
  unfold Instr.lookup
  simp only [Sem.run_bind, run_underlying Tryz.underlying98, Result.andThen_ok, MapKept.run_getObj_map hb, Sem.run_pure, hck, hfk]
  rfl
theorem look2 (w : World) (b : Nat) (hb : w.heap[b]? = some (.map FM 5)) : (Instr.lookup 98 (.map (some b)) (.int .i64 2) true).run Tryz.prog w = .ok (.tuple #[.func (Fn.func 88) #[] #[], .bool true]) w := by
  have hck : ∀ W e, (Instr.checkKey e 10000 3 (.int .i64 2)).run Tryz.prog W = .ok () W := fun W e => MapKept.run_checkKey Tryz.underlying3 (by simp [MapKept.IsKey]) e 9999
  have hfk : ∀ W, (Instr.findKey 3 (.int .i64 2) FM.toList).run Tryz.prog W = .ok (some (1, .func (Fn.func 88) #[] #[])) W := fun W => by
    unfold Instr.findKey
    simp only [Sem.run_bind, run_underlying Tryz.underlying3, Result.andThen_ok]
    rfl
  unfold Instr.lookup
  simp only [Sem.run_bind, run_underlying Tryz.underlying98, Result.andThen_ok, MapKept.run_getObj_map hb, Sem.run_pure, hck, hfk]
  rfl
theorem look3 (w : World) (b : Nat) (hb : w.heap[b]? = some (.map FM 5)) : (Instr.lookup 98 (.map (some b)) (.int .i64 3) true).run Tryz.prog w = .ok (.tuple #[.func (Fn.func 89) #[] #[], .bool true]) w := by
  have hck : ∀ W e, (Instr.checkKey e 10000 3 (.int .i64 3)).run Tryz.prog W = .ok () W := fun W e => MapKept.run_checkKey Tryz.underlying3 (by simp [MapKept.IsKey]) e 9999
  have hfk : ∀ W, (Instr.findKey 3 (.int .i64 3) FM.toList).run Tryz.prog W = .ok (some (2, .func (Fn.func 89) #[] #[])) W := fun W => by
    unfold Instr.findKey
    simp only [Sem.run_bind, run_underlying Tryz.underlying3, Result.andThen_ok]
    rfl
  unfold Instr.lookup
  simp only [Sem.run_bind, run_underlying Tryz.underlying98, Result.andThen_ok, MapKept.run_getObj_map hb, Sem.run_pure, hck, hfk]
  rfl
theorem look4 (w : World) (b : Nat) (hb : w.heap[b]? = some (.map FM 5)) : (Instr.lookup 98 (.map (some b)) (.int .i64 4) true).run Tryz.prog w = .ok (.tuple #[.func (Fn.func 90) #[] #[], .bool true]) w := by
  have hck : ∀ W e, (Instr.checkKey e 10000 3 (.int .i64 4)).run Tryz.prog W = .ok () W := fun W e => MapKept.run_checkKey Tryz.underlying3 (by simp [MapKept.IsKey]) e 9999
  have hfk : ∀ W, (Instr.findKey 3 (.int .i64 4) FM.toList).run Tryz.prog W = .ok (some (3, .func (Fn.func 90) #[] #[])) W := fun W => by
    unfold Instr.findKey
    simp only [Sem.run_bind, run_underlying Tryz.underlying3, Result.andThen_ok]
    rfl
  unfold Instr.lookup
  simp only [Sem.run_bind, run_underlying Tryz.underlying98, Result.andThen_ok, MapKept.run_getObj_map hb, Sem.run_pure, hck, hfk]
  rfl
theorem look5 (w : World) (b : Nat) (hb : w.heap[b]? = some (.map FM 5)) : (Instr.lookup 98 (.map (some b)) (.int .i64 5) true).run Tryz.prog w = .ok (.tuple #[.func (Fn.func 91) #[] #[], .bool true]) w := by
  have hck : ∀ W e, (Instr.checkKey e 10000 3 (.int .i64 5)).run Tryz.prog W = .ok () W := fun W e => MapKept.run_checkKey Tryz.underlying3 (by simp [MapKept.IsKey]) e 9999
  have hfk : ∀ W, (Instr.findKey 3 (.int .i64 5) FM.toList).run Tryz.prog W = .ok (some (4, .func (Fn.func 91) #[] #[])) W := fun W => by
    unfold Instr.findKey
    simp only [Sem.run_bind, run_underlying Tryz.underlying3, Result.andThen_ok]
    rfl
  unfold Instr.lookup
  simp only [Sem.run_bind, run_underlying Tryz.underlying98, Result.andThen_ok, MapKept.run_getObj_map hb, Sem.run_pure, hck, hfk]
  rfl
theorem look_none (w : World) (b : Nat) (k : Int) (hk : k < 1 ∨ 5 < k) (hb : w.heap[b]? = some (.map FM 5)) : (Instr.lookup 98 (.map (some b)) (.int .i64 k) true).run Tryz.prog w = .ok (.tuple #[.nilFunc, .bool false]) w := by
  have hck : ∀ W e, (Instr.checkKey e 10000 3 (.int .i64 k)).run Tryz.prog W = .ok () W := fun W e => MapKept.run_checkKey Tryz.underlying3 (by simp [MapKept.IsKey]) e 9999
  have hfn := find_none k FM.toList 0 (by
    intro e he
    simp only [FM, List.mem_cons, List.not_mem_nil, or_false] at he
    rcases he with rfl | rfl | rfl | rfl | rfl <;> exact ⟨_, rfl, by omega⟩)
  have hfk : ∀ W, (Instr.findKey 3 (.int .i64 k) FM.toList).run Tryz.prog W = .ok none W := fun W => by
    unfold Instr.findKey
    simp only [Sem.run_bind, run_underlying Tryz.underlying3, Result.andThen_ok, hfn]
    rfl
  unfold Instr.lookup
  simp only [Sem.run_bind, run_underlying Tryz.underlying98, Result.andThen_ok, MapKept.run_getObj_map hb, Sem.run_pure, hck, hfk]
  simp [go_sem]
end Go.Proofs.YthiijonmnebjgaaGreat
