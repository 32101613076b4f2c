/- What is said of memory here: which blocks a call may turn; a cell, and the document's, in a block of its own. No conditions; definitions and small laws on them. -/
import Derived.Test.YtkpocogobcefpaaChecked
import Derived.WalkKit
import Derived.WalkSmall
import Derived.Deep.AppendLies
import Derived.Deep.Draws
namespace Go.Proofs.Ytkpocogobcefpaa
open Go.RowKit
/-- Which blocks may have turned. -/
structure Mod (S : Nat → Prop) (w w' : World) : Prop where
  os : w'.os = w.os
  tape : w'.tape = w.tape
  output : w'.output = w.output
  size : w.heap.size ≤ w'.heap.size
  block : ∀ k, k < w.heap.size → ¬ S k → w'.heap[k]? = w.heap[k]?

theorem Mod.refl (S : Nat → Prop) (w : World) : Mod S w w := ⟨rfl, rfl, rfl, Nat.le_refl _, fun _ _ _ => rfl⟩
theorem Mod.trans {S T V : Nat → Prop} {a b c : World} (h : Mod S a b) (k : Mod T b c) (hS : ∀ i, i < a.heap.size → S i → V i) (hT : ∀ i, i < a.heap.size → T i → V i) : Mod V a c :=
  ⟨k.os.trans h.os, k.tape.trans h.tape, k.output.trans h.output, Nat.le_trans h.size k.size, fun i hi hv =>
    (k.block i (Nat.lt_of_lt_of_le hi h.size) (fun ht => hv (hT i hi ht))).trans (h.block i hi (fun hs => hv (hS i hi hs)))⟩
theorem Mod.mono {S T : Nat → Prop} {a b : World} (h : Mod S a b) (hS : ∀ i, i < a.heap.size → S i → T i) : Mod T a b :=
  ⟨h.os, h.tape, h.output, h.size, fun i hi hv => h.block i hi (fun hs => hv (hS i hi hs))⟩
theorem Mod.drewN {S : Nat → Prop} {a w : World} (h : Mod S a w) (n : Nat) : Mod S a (w.drewN n) := ⟨h.os, h.tape, h.output, h.size, h.block⟩
theorem Mod.drew {S : Nat → Prop} {a w : World} (h : Mod S a w) : Mod S a w.drew := ⟨h.os, h.tape, h.output, h.size, h.block⟩
theorem Mod.alloc {S : Nat → Prop} {a w : World} (h : Mod S a w) (o : Obj) : Mod S a (w.alloc o) :=
  ⟨h.os, h.tape, h.output, by simp; have := h.size; omega, fun k hk hS => (Below.heap_alloc w o k (by have := h.size; omega)).trans (h.block k hk hS)⟩
theorem Mod.setCell {S : Nat → Prop} {a w : World} (h : Mod S a w) (p : Addr) (u : Value) (hp : S p.block ∨ a.heap.size ≤ p.block) : Mod S a (w.setCell p u) :=
  ⟨h.os, h.tape, h.output, by simp [World.setCell]; exact h.size, fun k hk hS => (Below.heap_setCell _ _ _ _ (by rintro rfl; rcases hp with hp | hp; exact hS hp; omega)).trans (h.block k hk hS)⟩
theorem Mod.grown {S : Nat → Prop} {a w w' : World} {row : Option Nat} (h : Mod S a w) (hg : w.grownBy w' row) (hr : ∀ k, row = some k → k < a.heap.size → S k) : Mod S a w' :=
  ⟨hg.os.trans h.os, hg.tape.trans h.tape, hg.output.trans h.output, Nat.le_trans h.size hg.size, fun k hk hS =>
    (hg.block k (Nat.lt_of_lt_of_le hk h.size) (fun e => hS (hr k e.symm hk))).trans (h.block k hk hS)⟩
theorem Mod.below {S : Nat → Prop} {w w' : World} (h : Mod S w w') (B : Nat) (hB : B ≤ w.heap.size) (hS : ∀ k, S k → B ≤ k) : Below B w w' :=
  ⟨h.os, h.tape, h.output, h.size, fun k hk => h.block k (by omega) (fun hs => by have := hS k hs; omega)⟩
theorem Mod.cell {S : Nat → Prop} {w w' : World} (h : Mod S w w') {p : Addr} {v : Value} (hc : w.cell? p = some v) (hp : ¬ S p.block) : w'.cell? p = some v :=
  (World.cell?_of_block (h.block p.block (World.block_lt_of_cell? w p hc) hp)).trans hc
theorem Mod.obj {S : Nat → Prop} {w w' : World} (h : Mod S w w') {p : Nat} {o : Obj} (hc : w.heap[p]? = some o) (hp : ¬ S p) : w'.heap[p]? = some o :=
  (h.block p (lt_of_block hc) hp).trans hc
theorem Mod.free {S : Nat → Prop} {a b : World} (h : Mod (fun _ => False) a b) : Mod S a b := h.mono (fun _ _ h => h.elim)
/-- Both: nothing that was there is turned. -/
theorem Mod.and {a b c : World} (h : Mod (fun _ => False) a b) (k : Mod (fun _ => False) b c) : Mod (fun _ => False) a c := h.trans k (fun _ _ h => h) (fun _ _ h => h)

/-- The program's cell at block p: k is kept, and so it stands. -/
structure Cl (w : World) (p : Nat) (k s : Int) : Prop where
  blk : w.heap[p]? = some (.cells #[.int .i64 k, .int .i64 s] 41 (0, 0))
theorem Cl.mod {S : Nat → Prop} {w w' : World} {p : Nat} {k s : Int} (h : Cl w p k s) (hm : Mod S w w') (hp : ¬ S p) : Cl w' p k s := ⟨hm.obj h.blk hp⟩
theorem Cl.c0 {w : World} {p : Nat} {k s : Int} (h : Cl w p k s) : w.cell? ⟨p, 0, none⟩ = some (.int .i64 k) := by simp [World.cell?, h.blk]
theorem Cl.c1 {w : World} {p : Nat} {k s : Int} (h : Cl w p k s) : w.cell? ⟨p, 1, none⟩ = some (.int .i64 s) := by simp [World.cell?, h.blk]
theorem Cl.f {w : World} {p : Nat} {k s : Int} (h : Cl w p k s) (j : Nat) : w.frozen? ⟨p, j, none⟩ = false := by simp [World.frozen?, h.blk]
theorem Cl.lt {w : World} {p : Nat} {k s : Int} (h : Cl w p k s) : p < w.heap.size := lt_of_block h.blk
theorem Cl.new (w : World) (k s : Int) : Cl (w.alloc (.cells #[.int .i64 k, .int .i64 s] 41)) w.heap.size k s := ⟨heap_alloc_new w _⟩

/-- The document's cell at block p. -/
structure Dc (w : World) (p : Nat) (k : Int) (dn ar bh : Bool) : Prop where
  blk : w.heap[p]? = some (.cells #[.int .i64 k, .bool dn, .bool ar, .bool bh] 36 (0, 0))
theorem Dc.mod {S : Nat → Prop} {w w' : World} {p : Nat} {k : Int} {a b c : Bool} (h : Dc w p k a b c) (hm : Mod S w w') (hp : ¬ S p) : Dc w' p k a b c := ⟨hm.obj h.blk hp⟩
theorem Dc.c0 {w : World} {p : Nat} {k : Int} {a b c : Bool} (h : Dc w p k a b c) : w.cell? ⟨p, 0, none⟩ = some (.int .i64 k) := by simp [World.cell?, h.blk]
theorem Dc.c1 {w : World} {p : Nat} {k : Int} {a b c : Bool} (h : Dc w p k a b c) : w.cell? ⟨p, 1, none⟩ = some (.bool a) := by simp [World.cell?, h.blk]
theorem Dc.c2 {w : World} {p : Nat} {k : Int} {a b c : Bool} (h : Dc w p k a b c) : w.cell? ⟨p, 2, none⟩ = some (.bool b) := by simp [World.cell?, h.blk]
theorem Dc.c3 {w : World} {p : Nat} {k : Int} {a b c : Bool} (h : Dc w p k a b c) : w.cell? ⟨p, 3, none⟩ = some (.bool c) := by simp [World.cell?, h.blk]
theorem Dc.f {w : World} {p : Nat} {k : Int} {a b c : Bool} (h : Dc w p k a b c) (j : Nat) : w.frozen? ⟨p, j, none⟩ = false := by simp [World.frozen?, h.blk]
theorem Dc.lt {w : World} {p : Nat} {k : Int} {a b c : Bool} (h : Dc w p k a b c) : p < w.heap.size := lt_of_block h.blk
end Go.Proofs.Ytkpocogobcefpaa
