/- What is said of memory here: a slice of bytes that reads as a list, a writer and a reader that hold bytes, and which blocks a call may turn. No conditions; definitions and small laws on them. -/
import Derived.Test.YtampdkbcijdpcaaChecked
import Derived.WalkKit
import Derived.WalkSmall
import Derived.Deep.AppendLies
import Derived.Deep.Draws
namespace Go.Proofs.Ytampdkbcijdpcaa
open Go.RowKit

/-- Bytes as cells. -/
def U (l : List Int) : List Value := l.map (Value.int .u8)
theorem U_len (l : List Int) : (U l).length = l.length := by simp [U]
theorem U_app (l m : List Int) : U (l ++ m) = U l ++ U m := by simp [U]
theorem U_get (l : List Int) (j : Nat) (h : j < l.length) : (U l)[j]? = some (.int .u8 (l.getD j 0)) := by
  simp [U, h]
theorem U_one (l : List Int) : ∀ u ∈ U l, u.oneCell' = true := by
  intro u hu
  obtain ⟨_, _, rfl⟩ := List.mem_map.1 hu
  rfl

/-- Which blocks may have turned. -/
structure Mod (S : Nat → Prop) (w w' : World) : Prop where
  os : w'.os = w.os
  tape : w'.tape = w.tape
  output : w'.output = w.output
  size : w.heap.size ≤ w'.heap.size
  block : ∀ k, k < w.heap.size → ¬ S k → w'.heap[k]? = w.heap[k]?

theorem Mod.refl (S : Nat → Prop) (w : World) : Mod S w w := ⟨rfl, rfl, rfl, Nat.le_refl _, fun _ _ _ => rfl⟩
theorem Mod.trans {S T V : Nat → Prop} {a b c : World} (h : Mod S a b) (k : Mod T b c) (hS : ∀ i, i < a.heap.size → S i → V i) (hT : ∀ i, i < a.heap.size → T i → V i) : Mod V a c :=
  ⟨k.os.trans h.os, k.tape.trans h.tape, k.output.trans h.output, Nat.le_trans h.size k.size, fun i hi hv =>
    (k.block i (Nat.lt_of_lt_of_le hi h.size) (fun ht => hv (hT i hi ht))).trans (h.block i hi (fun hs => hv (hS i hi hs)))⟩
theorem Mod.mono {S T : Nat → Prop} {a b : World} (h : Mod S a b) (hS : ∀ i, i < a.heap.size → S i → T i) : Mod T a b :=
  ⟨h.os, h.tape, h.output, h.size, fun i hi hv => h.block i hi (fun hs => hv (hS i hi hs))⟩
theorem Mod.drewN {S : Nat → Prop} {a w : World} (h : Mod S a w) (n : Nat) : Mod S a (w.drewN n) := ⟨h.os, h.tape, h.output, h.size, h.block⟩
theorem Mod.drew {S : Nat → Prop} {a w : World} (h : Mod S a w) : Mod S a w.drew := ⟨h.os, h.tape, h.output, h.size, h.block⟩
theorem Mod.alloc {S : Nat → Prop} {a w : World} (h : Mod S a w) (o : Obj) : Mod S a (w.alloc o) :=
  ⟨h.os, h.tape, h.output, by simp; have := h.size; omega, fun k hk hS => (Below.heap_alloc w o k (by have := h.size; omega)).trans (h.block k hk hS)⟩
theorem Mod.setCell {S : Nat → Prop} {a w : World} (h : Mod S a w) (p : Addr) (u : Value) (hp : S p.block ∨ a.heap.size ≤ p.block) : Mod S a (w.setCell p u) :=
  ⟨h.os, h.tape, h.output, by simp [World.setCell]; exact h.size, fun k hk hS => (Below.heap_setCell _ _ _ _ (by rintro rfl; rcases hp with hp | hp; exact hS hp; omega)).trans (h.block k hk hS)⟩
theorem Mod.grown {S : Nat → Prop} {a w w' : World} {row : Option Nat} (h : Mod S a w) (hg : w.grownBy w' row) (hr : ∀ k, row = some k → k < a.heap.size → S k) : Mod S a w' :=
  ⟨hg.os.trans h.os, hg.tape.trans h.tape, hg.output.trans h.output, Nat.le_trans h.size hg.size, fun k hk hS =>
    (hg.block k (Nat.lt_of_lt_of_le hk h.size) (fun e => hS (hr k e.symm hk))).trans (h.block k hk hS)⟩
theorem Mod.below {S : Nat → Prop} {w w' : World} (h : Mod S w w') (B : Nat) (hB : B ≤ w.heap.size) (hS : ∀ k, S k → B ≤ k) : Below B w w' :=
  ⟨h.os, h.tape, h.output, h.size, fun k hk => h.block k (by omega) (fun hs => by have := hS k hs; omega)⟩
theorem Mod.cell {S : Nat → Prop} {w w' : World} (h : Mod S w w') {p : Addr} {v : Value} (hc : w.cell? p = some v) (hp : ¬ S p.block) : w'.cell? p = some v :=
  (World.cell?_of_block (h.block p.block (World.block_lt_of_cell? w p hc) hp)).trans hc
theorem Mod.obj {S : Nat → Prop} {w w' : World} (h : Mod S w w') {p : Nat} {o : Obj} (hc : w.heap[p]? = some o) (hp : ¬ S p) : w'.heap[p]? = some o :=
  (h.block p (lt_of_block hc) hp).trans hc

/-- A slice that reads as the bytes l. -/
structure Sl (w : World) (v : Value) (l : List Int) : Prop where
  form : ∃ ao cap, v = .slice ao l.length cap ∧ l.length ≤ cap ∧ cap ≤ maxLen ∧ (ao = none → cap = 0) ∧
    (l ≠ [] → ∃ b off, ao = some ⟨b, off, none⟩ ∧ ∀ j, j < l.length → w.cell? ⟨b, off + j, none⟩ = some (.int .u8 (l.getD j 0)))
  rng : ∀ c ∈ l, 0 ≤ c ∧ c ≤ 255

theorem Sl.mod {S : Nat → Prop} {w w' : World} {v : Value} {l : List Int} (h : Sl w v l) (hm : Mod S w w') (hv : ∀ g, v.ownBlock = some g → ¬ S g) : Sl w' v l := by
  obtain ⟨ao, cap, rfl, h1, h2, h3, h4⟩ := h.form
  refine ⟨⟨ao, cap, rfl, h1, h2, h3, fun hl => ?_⟩, h.rng⟩
  obtain ⟨b, off, rfl, hc⟩ := h4 hl
  exact ⟨b, off, rfl, fun j hj => hm.cell (hc j hj) (hv b rfl)⟩

theorem Sl.mod2 {S : Nat → Prop} {w w' : World} {v : Value} {l : List Int} (h : Sl w v l) (hm : Mod S w w') (hv : l ≠ [] → ∀ g, v.ownBlock = some g → ¬ S g) : Sl w' v l := by
  obtain ⟨ao, cap, rfl, h1, h2, h3, h4⟩ := h.form
  refine ⟨⟨ao, cap, rfl, h1, h2, h3, fun hl => ?_⟩, h.rng⟩
  obtain ⟨b, off, rfl, hc⟩ := h4 hl
  exact ⟨b, off, rfl, fun j hj => hm.cell (hc j hj) (hv hl b rfl)⟩
theorem Sl.lt {w : World} {v : Value} {l : List Int} (h : Sl w v l) (hl : l ≠ []) : ∀ g, v.ownBlock = some g → g < w.heap.size := by
  obtain ⟨ao, cap, rfl, _, _, _, h4⟩ := h.form
  obtain ⟨b, off, rfl, hc⟩ := h4 hl
  intro g hg
  simp only [Value.ownBlock, Option.some.injEq] at hg
  subst hg
  have h0 : 0 < l.length := by cases l with | nil => exact absurd rfl hl | cons _ _ => simp
  exact World.block_lt_of_cell? w _ (hc 0 h0)

/-- A slice that the call itself has made. -/
def Own (w : World) (v : Value) (l : List Int) : Prop := w.ownsRow 0 5 1 v l.length (U l)

theorem Own.sl {w : World} {v : Value} {l : List Int} (h : Own w v l) (hr : ∀ c ∈ l, 0 ≤ c ∧ c ≤ 255) : Sl w v l := by
  refine ⟨?_, hr⟩
  rcases h.2 with ⟨rfl, h0⟩ | ⟨g, cap, cur, rfl, hb, hg, hn, hcm, hcs, ht⟩
  · exact ⟨none, 0, by rw [h0], by omega, by simp [maxLen], fun _ => rfl, fun hl => absurd (List.eq_nil_of_length_eq_zero h0) hl⟩
  · refine ⟨some ⟨g, 0, none⟩, cap, rfl, hn, hcm, (by intro h; cases h), fun _ => ⟨g, 0, rfl, fun j hj => ?_⟩⟩
    have := World.ownsRow.cellAt h j (by omega)
    rw [Nat.zero_add, this]
    exact U_get l j hj

theorem Own.mod {S : Nat → Prop} {w w' : World} {v : Value} {l : List Int} (h : Own w v l) (hm : Mod S w w') (hv : ∀ g, v.ownBlock = some g → ¬ S g) : Own w' v l := by
  obtain ⟨h1, h2⟩ := h
  refine ⟨h1, ?_⟩
  rcases h2 with h2 | ⟨g, cap, cur, rfl, hb, hg, r⟩
  · exact Or.inl h2
  · exact Or.inr ⟨g, cap, cur, rfl, hb, hm.obj hg (hv g rfl), r⟩

theorem Own.nil (w : World) : Own w (.slice none 0 0) [] := World.ownsRow_nil _ _ _ _

theorem Own.lt {w : World} {v : Value} {l : List Int} (h : Own w v l) : ∀ g, v.ownBlock = some g → g < w.heap.size := fun g hg => (World.ownsRow.lt h g hg).2

theorem Own.shape {w : World} {v : Value} {l : List Int} (h : Own w v l) : ∃ ao cap, v = .slice ao l.length cap := by
  rcases h.2 with ⟨rfl, h0⟩ | ⟨g, cap, cur, rfl, _⟩
  · exact ⟨none, 0, by rw [h0]⟩
  · exact ⟨_, cap, rfl⟩

/-- Its block holds bytes. -/
theorem Own.kind {w : World} {v : Value} {l : List Int} (h : Own w v l) {g : Nat} (hg : v.ownBlock = some g) : ∃ cur, w.heap[g]? = some (.cells cur 5 (0, 0)) := by
  rcases h.2 with ⟨rfl, _⟩ | ⟨g', cap, cur, rfl, hb, hh, _⟩
  · simp [Value.ownBlock] at hg
  · simp only [Value.ownBlock, Option.some.injEq] at hg
    subst hg
    exact ⟨cur, hh⟩

/-- What is behind an append: the old block, or a new one. -/
def Fr (w : World) (v v' : Value) : Prop := ∀ g, v'.ownBlock = some g → v.ownBlock = some g ∨ w.heap.size ≤ g
theorem Fr.refl (w : World) (v : Value) : Fr w v v := fun _ h => .inl h
theorem Fr.trans {w w1 : World} {v v1 v2 : Value} (h : Fr w v v1) (k : Fr w1 v1 v2) (hs : w.heap.size ≤ w1.heap.size) : Fr w v v2 := fun g hg => by
  rcases k g hg with h1 | h1
  · exact h g h1
  · exact .inr (by omega)

/-- A writer at block p that has written l. -/
structure Wr (w : World) (p : Nat) (v : Value) (l : List Int) : Prop where
  blk : w.heap[p]? = some (.cells #[.bool true, v] 9999 (0, 0))
  own : Own w v l
  rng : ∀ c ∈ l, 0 ≤ c ∧ c ≤ 255

theorem Wr.mod {S : Nat → Prop} {w w' : World} {p : Nat} {v : Value} {l : List Int} (h : Wr w p v l) (hm : Mod S w w') (hp : ¬ S p) (hv : ∀ g, v.ownBlock = some g → ¬ S g) : Wr w' p v l :=
  ⟨hm.obj h.blk hp, h.own.mod hm hv, h.rng⟩
theorem Wr.c0 {w : World} {p : Nat} {v : Value} {l : List Int} (h : Wr w p v l) : w.cell? ⟨p, 0, none⟩ = some (.bool true) := by simp [World.cell?, h.blk]
theorem Wr.c1 {w : World} {p : Nat} {v : Value} {l : List Int} (h : Wr w p v l) : w.cell? ⟨p, 1, none⟩ = some v := by simp [World.cell?, h.blk]
theorem Wr.f1 {w : World} {p : Nat} {v : Value} {l : List Int} (h : Wr w p v l) : w.frozen? ⟨p, 1, none⟩ = false := by simp [World.frozen?, h.blk]
theorem Wr.ne {w : World} {p : Nat} {v : Value} {l : List Int} (h : Wr w p v l) : v.ownBlock ≠ some p := fun e => by
  obtain ⟨cur, hc⟩ := h.own.kind e
  rw [h.blk] at hc
  simp at hc

/-- A reader at block p that has l left. -/
structure Rd (w : World) (p : Nat) (v : Value) (l : List Int) : Prop where
  blk : w.heap[p]? = some (.cells #[.bool true, v] 9999 (0, 0))
  sl : Sl w v l
  ne : v.ownBlock ≠ some p

theorem Rd.mod {S : Nat → Prop} {w w' : World} {p : Nat} {v : Value} {l : List Int} (h : Rd w p v l) (hm : Mod S w w') (hp : ¬ S p) (hv : ∀ g, v.ownBlock = some g → ¬ S g) : Rd w' p v l :=
  ⟨hm.obj h.blk hp, h.sl.mod hm hv, h.ne⟩
theorem Rd.mod2 {S : Nat → Prop} {w w' : World} {p : Nat} {v : Value} {l : List Int} (h : Rd w p v l) (hm : Mod S w w') (hp : ¬ S p) (hv : l ≠ [] → ∀ g, v.ownBlock = some g → ¬ S g) : Rd w' p v l :=
  ⟨hm.obj h.blk hp, h.sl.mod2 hm hv, h.ne⟩
theorem Rd.c0 {w : World} {p : Nat} {v : Value} {l : List Int} (h : Rd w p v l) : w.cell? ⟨p, 0, none⟩ = some (.bool true) := by simp [World.cell?, h.blk]
theorem Rd.c1 {w : World} {p : Nat} {v : Value} {l : List Int} (h : Rd w p v l) : w.cell? ⟨p, 1, none⟩ = some v := by simp [World.cell?, h.blk]
theorem Rd.f1 {w : World} {p : Nat} {v : Value} {l : List Int} (h : Rd w p v l) : w.frozen? ⟨p, 1, none⟩ = false := by simp [World.frozen?, h.blk]

/-- A block of two cells behind a store into the second one. -/
theorem two_setCell {w : World} {b : Nat} {x v u : Value} {t : TypeId} (h : w.heap[b]? = some (.cells #[x, v] t (0, 0))) : (w.setCell ⟨b, 1, none⟩ u).heap[b]? = some (.cells #[x, u] t (0, 0)) := by
  simp [World.setCell, Array.getElem?_modify, h]

theorem rng_app {l m : List Int} (h : ∀ c ∈ l, 0 ≤ c ∧ c ≤ 255) (k : ∀ c ∈ m, 0 ≤ c ∧ c ≤ 255) : ∀ c ∈ l ++ m, 0 ≤ c ∧ c ≤ 255 := fun c hc => by
  rcases List.mem_append.1 hc with hc | hc
  · exact h c hc
  · exact k c hc

/-- A writer behind an append of news and the store of what came of it. -/
theorem Wr.stored {w w1 : World} {p : Nat} {v v' : Value} {l m : List Int} (h : Wr w p v l) (hm : Mod (fun k => v.ownBlock = some k) w w1) (ho : Own w1 v' (l ++ m)) (hr : ∀ c ∈ m, 0 ≤ c ∧ c ≤ 255) (hf : Fr w v v') :
    Wr (w1.setCell ⟨p, 1, none⟩ v') p v' (l ++ m) ∧ Mod (fun k => k = p ∨ v.ownBlock = some k) w (w1.setCell ⟨p, 1, none⟩ v') := by
  have hb := hm.obj h.blk h.ne
  have hlt := lt_of_block h.blk
  have hne : ∀ g, v'.ownBlock = some g → g ≠ p := fun g hg e => by
    rcases hf g hg with h1 | h1
    · exact h.ne (e ▸ h1)
    · omega
  refine ⟨⟨two_setCell hb, ?_, rng_app h.rng hr⟩, ?_⟩
  · exact ho.mod ((Mod.refl (fun k => k = p) w1).setCell _ _ (.inl rfl)) hne
  · exact (hm.mono fun i _ hi => .inr hi).setCell _ _ (.inl (.inl rfl))
/-- Bytes that were just laid. -/
theorem Own.lit (w : World) (l : List Int) (hm : l.length ≤ maxLen) : Own (w.alloc (.cells (U l).toArray 5)) (.slice (some ⟨w.heap.size, 0, none⟩) l.length l.length) l :=
  ⟨by simp [U], .inr ⟨w.heap.size, l.length, (U l).toArray, rfl, Nat.zero_le _, heap_alloc_new w _, Nat.le_refl _, hm, by simp [U], by rw [Nat.mul_one, List.take_of_length_le (by simp [U])]⟩⟩
theorem Sl.lit (w : World) (l : List Int) (hm : l.length ≤ maxLen) (hr : ∀ c ∈ l, 0 ≤ c ∧ c ≤ 255) : Sl (w.alloc (.cells (U l).toArray 5)) (.slice (some ⟨w.heap.size, 0, none⟩) l.length l.length) l := (Own.lit w l hm).sl hr
theorem Own.form {w : World} {v : Value} {l : List Int} (h : Own w v l) (hl : 0 < l.length) : ∃ g cap, v = .slice (some ⟨g, 0, none⟩) l.length cap ∧ l.length ≤ cap ∧ cap ≤ maxLen := by
  rcases h.2 with ⟨_, h0⟩ | ⟨g, cap, cur, rfl, _, _, hn, hcm, _⟩
  · omega
  · exact ⟨g, cap, rfl, hn, hcm⟩
/-- A slice cut at its end. -/
theorem Sl.take {w : World} {b off cap : Nat} {l : List Int} (h : Sl w (.slice (some ⟨b, off, none⟩) l.length cap) l) (n : Nat) (hn : n ≤ l.length) : Sl w (.slice (some ⟨b, off, none⟩) n cap) (l.take n) := by
  obtain ⟨ao, cap', e, h1, h2, h3, h4⟩ := h.form
  simp only [Value.slice.injEq, true_and] at e
  obtain ⟨rfl, rfl⟩ := e
  have hl : (l.take n).length = n := by simp; omega
  refine ⟨⟨_, _, by rw [hl], by omega, h2, h3, fun hne => ?_⟩, fun c hc => h.rng c (List.mem_of_mem_take hc)⟩
  obtain ⟨b', off', e, hc⟩ := h4 (by intro e; rw [e] at hne; simp at hne)
  refine ⟨b', off', e, fun j hj => ?_⟩
  rw [hl] at hj
  rw [hc j (by omega)]
  simp [hj]
end Go.Proofs.Ytampdkbcijdpcaa
