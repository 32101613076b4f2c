/- A block of any number of cells, known by its row: single cells, ranges, stores. No conditions. -/
import Derived.Test.YtampdkbcijdpcaaMem
import Derived.Deep.MidRow
import Derived.Laws.ResultCell
namespace Go.Proofs.Ytampdkbcijdpcaa
open Go.RowKit
/-- The block b holds the cells xs. -/
structure Bk (w : World) (b : Nat) (t : TypeId) (xs : Array Value) : Prop where
  at' : w.heap[b]? = some (.cells xs t (0, 0))
theorem Bk.cell {w : World} {b : Nat} {t : TypeId} {xs : Array Value} (h : Bk w b t xs) (j : Nat) : w.cell? ⟨b, j, none⟩ = xs[j]? := by simp [World.cell?, h.at']
theorem Bk.cellv {w : World} {b : Nat} {t : TypeId} {xs : Array Value} (h : Bk w b t xs) {j : Nat} {v : Value} (hj : xs[j]? = some v) : w.cell? ⟨b, j, none⟩ = some v := by rw [h.cell, hj]
theorem Bk.frz {w : World} {b : Nat} {t : TypeId} {xs : Array Value} (h : Bk w b t xs) (j : Nat) : w.frozen? ⟨b, j, none⟩ = false := by simp [World.frozen?, h.at']
theorem Bk.mod {S : Nat → Prop} {w w' : World} {b : Nat} {t : TypeId} {xs : Array Value} (h : Bk w b t xs) (hm : Mod S w w') (hb : ¬ S b) : Bk w' b t xs := ⟨hm.obj h.at' hb⟩
theorem Bk.lt {w : World} {b : Nat} {t : TypeId} {xs : Array Value} (h : Bk w b t xs) : b < w.heap.size := lt_of_block h.at'
theorem Bk.new (w : World) (xs : Array Value) (t : TypeId) : Bk (w.alloc (.cells xs t)) w.heap.size t xs := ⟨heap_alloc_new w _⟩
theorem Bk.set {w : World} {b : Nat} {t : TypeId} {xs : Array Value} (h : Bk w b t xs) (j : Nat) (v : Value) : Bk (w.setCell ⟨b, j, none⟩ v) b t (xs.setIfInBounds j v) := ⟨by
  simp [World.setCell, Array.getElem?_modify, h.at']⟩
theorem Bk.other {w : World} {b : Nat} {t : TypeId} {xs : Array Value} (h : Bk w b t xs) (a : Addr) (v : Value) (ha : a.block ≠ b) : Bk (w.setCell a v) b t xs :=
  h.mod ((Mod.refl (fun x => x = a.block) w).setCell a v (.inl rfl)) (fun e => ha e.symm)
/-- Stores one behind the other. -/
def sets' (xs : Array Value) (o : Nat) : List Value → Array Value
  | [] => xs
  | v :: r => sets' (xs.setIfInBounds o v) (o + 1) r
theorem Bk.stores {b : Nat} {t : TypeId} : ∀ (vs : List Value) {w : World} {xs : Array Value} (o : Nat), Bk w b t xs → Bk (w.setCells b o vs) b t (sets' xs o vs)
  | [], _, _, _, h => h
  | v :: r, _, _, o, h => by
    rw [World.setCells, sets']
    exact Bk.stores r (o + 1) (h.set o v)
theorem sets'_size : ∀ (vs : List Value) (xs : Array Value) (o : Nat), (sets' xs o vs).size = xs.size
  | [], _, _ => rfl
  | v :: r, xs, o => by rw [sets', sets'_size r]; simp
theorem sets'_get : ∀ (vs : List Value) (xs : Array Value) (o j : Nat), o + vs.length ≤ xs.size → (sets' xs o vs)[j]? = if o ≤ j ∧ j < o + vs.length then vs[j - o]? else xs[j]?
  | [], xs, o, j, _ => by simp [sets']; intro h1 h2; omega
  | v :: r, xs, o, j, h => by
    simp only [List.length_cons] at h
    rw [sets', sets'_get r _ (o + 1) j (by simp; omega)]
    by_cases e : j = o
    · subst e
      rw [if_neg (by omega), if_pos (by simp)]
      simp [show j < xs.size by omega]
    · by_cases h1 : o + 1 ≤ j ∧ j < o + 1 + r.length
      · rw [if_pos h1, if_pos (by simp; omega)]
        rw [show j - o = (j - (o + 1)) + 1 by omega]
        simp
      · rw [if_neg h1, if_neg (by simp; omega)]
        rw [Array.getElem?_setIfInBounds]
        simp [show ¬ o = j by omega]
theorem sets'_all {xs : Array Value} (vs : List Value) (h : xs.size = vs.length) : sets' xs 0 vs = vs.toArray := by
  apply Array.ext'
  apply List.ext_getElem?
  intro j
  have := sets'_get vs xs 0 j (by omega)
  simp only [Array.getElem?_toList] at this ⊢
  rw [this]
  by_cases hj : j < vs.length
  · rw [if_pos (by omega)]; simp
  · rw [if_neg (by omega)]
    rw [Array.getElem?_eq_none (by omega), List.getElem?_eq_none (by omega)]
theorem Bk.whole {w : World} {b : Nat} {t : TypeId} {xs : Array Value} (h : Bk w b t xs) (vs : Array Value) (hl : xs.size = vs.size) : Bk (w.setCells b 0 vs.toList) b t vs := by
  have := Bk.stores vs.toList 0 h
  rw [sets'_all vs.toList (by simpa using hl)] at this
  simpa using this
theorem setCells_mod (b : Nat) : ∀ (vs : List Value) (o : Nat) (w : World), Mod (fun x => x = b) w (w.setCells b o vs)
  | [], _, w => Mod.refl _ w
  | v :: r, o, w => by
    rw [World.setCells]
    exact ((Mod.refl (fun x => x = b) w).setCell ⟨b, o, none⟩ v (.inl rfl)).trans (setCells_mod b r (o + 1) _) (fun _ _ h => h) (fun _ _ h => h)
theorem Bk.there {w : World} {b : Nat} {t : TypeId} {xs : Array Value} (h : Bk w b t xs) {o n : Nat} (hn : o + n ≤ xs.size) : w.there b o n := fun j hj => by
  refine ⟨?_, h.frz _⟩
  rw [h.cell, Array.getElem?_eq_getElem (by omega)]
  rfl
theorem Bk.range {w : World} {b : Nat} {t : TypeId} {xs : Array Value} (h : Bk w b t xs) (o : Nat) (cs : List Value) (hc : ∀ j v, cs[j]? = some v → xs[o + j]? = some v) : w.rangeAt b o cs := fun j v hv => by
  rw [h.cell, hc j v hv]
theorem Bk.row {w : World} {b : Nat} {t : TypeId} {xs : Array Value} (h : Bk w b t xs) : w.rangeAt b 0 xs.toList := h.range 0 _ fun j v hv => by simpa using hv
/-- A row stored whole, and loaded whole, as one step of a list of operations. -/
theorem wpList_store_row {ops : Array Oper} {rest : List Oper} {op : Oper} {a : Act} {w : World} {Q : Exit → Act → World → Prop} {t : TypeId} {n : Nat} (hi : (Try.prog.info? t).map (·.size) = some n) (hgd : op.guard = none) (hdt : op.dst = none) (x y : Operand) (ho : op.op = .store t x y)
    (b : Nat) (cells : Array Value) (hx : a.eval x = .pointer (some ⟨b, 0, none⟩)) (hy : a.eval y = .agg cells) {t' : TypeId} {xs : Array Value} (hB : Bk w b t' xs) (hxs : xs.size = n) (hcs : cells.size = n) (h1 : cells.toList.all (·.oneCell') = true)
    (h : ∀ w', Bk w' b t' cells → Mod (fun k => k = b) w w' → wpList Try.prog ops Q rest a w') : wpList Try.prog ops Q (op :: rest) a w :=
  wpList_store_mid (P := Try.prog) hgd t x y ho b 0 cells hx hy (hB.there (by omega)) (by rw [hi, hcs]) (by rw [← Array.all_toList]; exact h1) (by rw [hdt]; exact h _ (hB.whole cells (by omega)) (setCells_mod b cells.toList 0 w))
theorem wpList_load_row {ops : Array Oper} {rest : List Oper} {op : Oper} {a : Act} {w : World} {Q : Exit → Act → World → Prop} {t : TypeId} {n : Nat} {d : TypeDesc} (hi : (Try.prog.info? t).map (·.size) = some n) (hu : Try.prog.underlying t = some d) (hd : d.isRow = true) (hgd : op.guard = none) (x : Operand) (ho : op.op = .load t x)
    (b : Nat) (hx : a.eval x = .pointer (some ⟨b, 0, none⟩)) {t' : TypeId} {xs : Array Value} (hB : Bk w b t' xs) (hxs : xs.size = n)
    (h : wpList Try.prog ops Q rest (a.put op.dst (.agg xs)) w) : wpList Try.prog ops Q (op :: rest) a w := by
  have := wpList_load_mid (P := Try.prog) (ops := ops) (rest := rest) (Q := Q) hgd t x ho b 0 hx xs.toList d hB.row hu hd (by rw [hi]; simp [hxs])
  simp only [Array.toArray_toList] at this
  exact this h
theorem results_cell1 {fn : Func} {p : Tmp} {ty : TypeId} (h : fn.results = #[.cell p ty]) (tmps : Array Value) (P : Program) (w : World) :
    (results fn tmps).run P w = ((asAddr (tmps.getD p undef)).run P w).andThen fun a w₁ => (loadVar ty a).run P w₁ := by
  simp only [results, h]
  simp [Sem.run_bind, Result.andThen]
end Go.Proofs.Ytampdkbcijdpcaa
