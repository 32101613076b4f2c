/- What is said of memory here: a slice of ints that reads as a list, which blocks a call may turn; timers in a map of their own, and the document's. No conditions; definitions and small laws on them. -/
import Derived.Test.YtkbncndinfimnaaChecked
import Derived.WalkKit
import Derived.WalkSmall
import Derived.Deep.AppendLies
import Derived.Deep.Draws
import Derived.Maps.OwnSet
namespace Go.Proofs.Ytkbncndinfimnaa
open Go.RowKit

/-- Ints as cells. -/
def U (l : List Int) : List Value := l.map (Value.int .i64)
theorem U_len (l : List Int) : (U l).length = l.length := by simp [U]
theorem U_app (l m : List Int) : U (l ++ m) = U l ++ U m := by simp [U]
theorem U_get (l : List Int) (j : Nat) (h : j < l.length) : (U l)[j]? = some (.int .i64 (l.getD j 0)) := by
  simp [U, h]
theorem U_one (l : List Int) : ∀ u ∈ U l, u.oneCell' = true := by
  intro u hu
  obtain ⟨_, _, rfl⟩ := List.mem_map.1 hu
  rfl

/-- Which blocks may have turned. -/
structure Mod (S : Nat → Prop) (w w' : World) : Prop where
  os : w'.os = w.os
  tape : w'.tape = w.tape
  output : w'.output = w.output
  size : w.heap.size ≤ w'.heap.size
  block : ∀ k, k < w.heap.size → ¬ S k → w'.heap[k]? = w.heap[k]?

theorem Mod.refl (S : Nat → Prop) (w : World) : Mod S w w := ⟨rfl, rfl, rfl, Nat.le_refl _, fun _ _ _ => rfl⟩
theorem Mod.trans {S T V : Nat → Prop} {a b c : World} (h : Mod S a b) (k : Mod T b c) (hS : ∀ i, i < a.heap.size → S i → V i) (hT : ∀ i, i < a.heap.size → T i → V i) : Mod V a c :=
  ⟨k.os.trans h.os, k.tape.trans h.tape, k.output.trans h.output, Nat.le_trans h.size k.size, fun i hi hv =>
    (k.block i (Nat.lt_of_lt_of_le hi h.size) (fun ht => hv (hT i hi ht))).trans (h.block i hi (fun hs => hv (hS i hi hs)))⟩
theorem Mod.mono {S T : Nat → Prop} {a b : World} (h : Mod S a b) (hS : ∀ i, i < a.heap.size → S i → T i) : Mod T a b :=
  ⟨h.os, h.tape, h.output, h.size, fun i hi hv => h.block i hi (fun hs => hv (hS i hi hs))⟩
theorem Mod.drewN {S : Nat → Prop} {a w : World} (h : Mod S a w) (n : Nat) : Mod S a (w.drewN n) := ⟨h.os, h.tape, h.output, h.size, h.block⟩
theorem Mod.drew {S : Nat → Prop} {a w : World} (h : Mod S a w) : Mod S a w.drew := ⟨h.os, h.tape, h.output, h.size, h.block⟩
theorem Mod.alloc {S : Nat → Prop} {a w : World} (h : Mod S a w) (o : Obj) : Mod S a (w.alloc o) :=
  ⟨h.os, h.tape, h.output, by simp; have := h.size; omega, fun k hk hS => (Below.heap_alloc w o k (by have := h.size; omega)).trans (h.block k hk hS)⟩
theorem Mod.setCell {S : Nat → Prop} {a w : World} (h : Mod S a w) (p : Addr) (u : Value) (hp : S p.block ∨ a.heap.size ≤ p.block) : Mod S a (w.setCell p u) :=
  ⟨h.os, h.tape, h.output, by simp [World.setCell]; exact h.size, fun k hk hS => (Below.heap_setCell _ _ _ _ (by rintro rfl; rcases hp with hp | hp; exact hS hp; omega)).trans (h.block k hk hS)⟩
theorem Mod.grown {S : Nat → Prop} {a w w' : World} {row : Option Nat} (h : Mod S a w) (hg : w.grownBy w' row) (hr : ∀ k, row = some k → k < a.heap.size → S k) : Mod S a w' :=
  ⟨hg.os.trans h.os, hg.tape.trans h.tape, hg.output.trans h.output, Nat.le_trans h.size hg.size, fun k hk hS =>
    (hg.block k (Nat.lt_of_lt_of_le hk h.size) (fun e => hS (hr k e.symm hk))).trans (h.block k hk hS)⟩
theorem Mod.below {S : Nat → Prop} {w w' : World} (h : Mod S w w') (B : Nat) (hB : B ≤ w.heap.size) (hS : ∀ k, S k → B ≤ k) : Below B w w' :=
  ⟨h.os, h.tape, h.output, h.size, fun k hk => h.block k (by omega) (fun hs => by have := hS k hs; omega)⟩
theorem Mod.cell {S : Nat → Prop} {w w' : World} (h : Mod S w w') {p : Addr} {v : Value} (hc : w.cell? p = some v) (hp : ¬ S p.block) : w'.cell? p = some v :=
  (World.cell?_of_block (h.block p.block (World.block_lt_of_cell? w p hc) hp)).trans hc
theorem Mod.obj {S : Nat → Prop} {w w' : World} (h : Mod S w w') {p : Nat} {o : Obj} (hc : w.heap[p]? = some o) (hp : ¬ S p) : w'.heap[p]? = some o :=
  (h.block p (lt_of_block hc) hp).trans hc

/-- A slice that reads as the ints l. -/
def Sl (w : World) (v : Value) (l : List Int) : Prop :=
  ∃ ao cap, v = .slice ao l.length cap ∧ l.length ≤ cap ∧ cap ≤ maxLen ∧ (ao = none → cap = 0) ∧
    (l ≠ [] → ∃ b off, ao = some ⟨b, off, none⟩ ∧ ∀ j, j < l.length → w.cell? ⟨b, off + j, none⟩ = some (.int .i64 (l.getD j 0)))

theorem Sl.mod2 {S : Nat → Prop} {w w' : World} {v : Value} {l : List Int} (h : Sl w v l) (hm : Mod S w w') (hv : l ≠ [] → ∀ g, v.ownBlock = some g → ¬ S g) : Sl w' v l := by
  obtain ⟨ao, cap, rfl, h1, h2, h3, h4⟩ := h
  refine ⟨ao, cap, rfl, h1, h2, h3, fun hl => ?_⟩
  obtain ⟨b, off, rfl, hc⟩ := h4 hl
  exact ⟨b, off, rfl, fun j hj => hm.cell (hc j hj) (hv hl b rfl)⟩
theorem Sl.mod {S : Nat → Prop} {w w' : World} {v : Value} {l : List Int} (h : Sl w v l) (hm : Mod S w w') (hv : ∀ g, v.ownBlock = some g → ¬ S g) : Sl w' v l := h.mod2 hm fun _ => hv
theorem Sl.lt {w : World} {v : Value} {l : List Int} (h : Sl w v l) (hl : l ≠ []) : ∀ g, v.ownBlock = some g → g < w.heap.size := by
  obtain ⟨ao, cap, rfl, _, _, _, h4⟩ := h
  obtain ⟨b, off, rfl, hc⟩ := h4 hl
  intro g hg
  simp only [Value.ownBlock, Option.some.injEq] at hg
  subst hg
  have h0 : 0 < l.length := by cases l with | nil => exact absurd rfl hl | cons _ _ => simp
  exact World.block_lt_of_cell? w _ (hc 0 h0)

/-- A slice that the call itself has made. -/
def Own (w : World) (v : Value) (l : List Int) : Prop := w.ownsRow 0 3 1 v l.length (U l)

theorem Own.sl {w : World} {v : Value} {l : List Int} (h : Own w v l) : Sl w v l := by
  rcases h.2 with ⟨rfl, h0⟩ | ⟨g, cap, cur, rfl, hb, hg, hn, hcm, hcs, ht⟩
  · exact ⟨none, 0, by rw [h0], by omega, by simp [maxLen], fun _ => rfl, fun hl => absurd (List.eq_nil_of_length_eq_zero h0) hl⟩
  · refine ⟨some ⟨g, 0, none⟩, cap, rfl, hn, hcm, (by intro h; cases h), fun _ => ⟨g, 0, rfl, fun j hj => ?_⟩⟩
    have := World.ownsRow.cellAt h j (by omega)
    rw [Nat.zero_add, this]
    exact U_get l j hj
theorem Own.mod {S : Nat → Prop} {w w' : World} {v : Value} {l : List Int} (h : Own w v l) (hm : Mod S w w') (hv : ∀ g, v.ownBlock = some g → ¬ S g) : Own w' v l := by
  obtain ⟨h1, h2⟩ := h
  refine ⟨h1, ?_⟩
  rcases h2 with h2 | ⟨g, cap, cur, rfl, hb, hg, r⟩
  · exact Or.inl h2
  · exact Or.inr ⟨g, cap, cur, rfl, hb, hm.obj hg (hv g rfl), r⟩

theorem Own.nil (w : World) : Own w (.slice none 0 0) [] := World.ownsRow_nil _ _ _ _

theorem Own.lt {w : World} {v : Value} {l : List Int} (h : Own w v l) : ∀ g, v.ownBlock = some g → g < w.heap.size := fun g hg => (World.ownsRow.lt h g hg).2

theorem Own.shape {w : World} {v : Value} {l : List Int} (h : Own w v l) : ∃ ao cap, v = .slice ao l.length cap := by
  rcases h.2 with ⟨rfl, h0⟩ | ⟨g, cap, cur, rfl, _⟩
  · exact ⟨none, 0, by rw [h0]⟩
  · exact ⟨_, cap, rfl⟩

/-- Its block holds ints. -/
theorem Own.kind {w : World} {v : Value} {l : List Int} (h : Own w v l) {g : Nat} (hg : v.ownBlock = some g) : ∃ cur, w.heap[g]? = some (.cells cur 3 (0, 0)) := by
  rcases h.2 with ⟨rfl, _⟩ | ⟨g', cap, cur, rfl, hb, hh, _⟩
  · simp [Value.ownBlock] at hg
  · simp only [Value.ownBlock, Option.some.injEq] at hg
    subst hg
    exact ⟨cur, hh⟩

/-- What is behind an append: the old block, or a new one. -/
def Fr (w : World) (v v' : Value) : Prop := ∀ g, v'.ownBlock = some g → v.ownBlock = some g ∨ w.heap.size ≤ g
theorem Fr.refl (w : World) (v : Value) : Fr w v v := fun _ h => .inl h
theorem Fr.trans {w w1 : World} {v v1 v2 : Value} (h : Fr w v v1) (k : Fr w1 v1 v2) (hs : w.heap.size ≤ w1.heap.size) : Fr w v v2 := fun g hg => by
  rcases k g hg with h1 | h1
  · exact h g h1
  · exact .inr (by omega)

/-- Ints that were just laid. -/
theorem Own.lit (w : World) (l : List Int) (hm : l.length ≤ maxLen) : Own (w.alloc (.cells (U l).toArray 3)) (.slice (some ⟨w.heap.size, 0, none⟩) l.length l.length) l :=
  ⟨by simp [U], .inr ⟨w.heap.size, l.length, (U l).toArray, rfl, Nat.zero_le _, heap_alloc_new w _, Nat.le_refl _, hm, by simp [U], by rw [Nat.mul_one, List.take_of_length_le (by simp [U])]⟩⟩
theorem Own.alloc {w : World} {v : Value} {l : List Int} (h : Own w v l) (o : Obj) : Own (w.alloc o) v l := h.mod ((Mod.refl (fun _ => False) w).alloc o) fun _ _ h => h
/-- New: in blocks that were not there. -/
def New (w : World) (v : Value) : Prop := ∀ g, v.ownBlock = some g → w.heap.size ≤ g
theorem Mod.none {S : Nat → Prop} {a b : World} (h : Mod (fun _ => False) a b) : Mod S a b := h.mono fun _ _ h => h.elim
theorem Mod.and {a b c : World} (h : Mod (fun _ => False) a b) (k : Mod (fun _ => False) b c) : Mod (fun _ => False) a c := h.trans k (fun _ _ h => h) (fun _ _ h => h)
theorem Mod.turned {S : Nat → Prop} {a w w' : World} {b : Nat} (h : Mod S a w) (ht : w.mapTurned w' b) (hb : S b ∨ a.heap.size ≤ b) : Mod S a w' :=
  h.grown ht.grown (fun k hk hlt => by cases hk; rcases hb with h | h; exact h; omega)

open Go.Maps Go.WideShapes

theorem mem_insert {H : Type} {p x : Lit × DataW H} : ∀ {l : List (Lit × DataW H)}, p ∈ DataW.insert x l → p = x ∨ p ∈ l
  | [], h => by simp [DataW.insert] at h; exact .inl h
  | y :: r, h => by
    unfold DataW.insert at h
    split at h
    · simpa using h
    · rcases List.mem_cons.1 h with h | h
      · exact .inr (by simp [h])
      · rcases mem_insert h with h | h
        · exact .inl h
        · exact .inr (by simp [h])
theorem nodup_le : ∀ (n : Nat) (K : List Nat), K.Nodup → (∀ k ∈ K, k < n) → K.length ≤ n
  | 0, K, _, h => by
    cases K with
    | nil => simp
    | cons a r => exact absurd (h a (by simp)) (by omega)
  | n + 1, K, hd, h => by
    have := nodup_le n (K.erase n) (hd.erase n) (fun k hk => by
      have := (hd.mem_erase_iff).1 hk
      have := h k this.2
      omega)
    rw [List.length_erase] at this
    split at this <;> omega
/-- The keys of a map are kinds below n. -/
def Low (n : Nat) (D : DataW Unit) : Prop := ∃ es, D = .map es ∧ ∀ p ∈ es, ∃ k : Nat, k < n ∧ p.1 = .int .i64 k
theorem Low.zero (n : Nat) : Low n (.map []) := ⟨[], rfl, by simp⟩
theorem Low.put {n : Nat} {D : DataW Unit} (h : Low n D) {k : Nat} (hk : k < n) (d : DataW Unit) : Low n (D.put (.int .i64 k) d) := by
  obtain ⟨es, rfl, h⟩ := h
  refine ⟨_, rfl, fun p hp => ?_⟩
  rcases mem_insert hp with rfl | hp
  · exact ⟨k, hk, rfl⟩
  · exact h p (List.mem_filter.1 hp).1
theorem Low.del {n : Nat} {D : DataW Unit} (h : Low n D) (kl : Lit) : Low n (D.del kl) := by
  obtain ⟨es, rfl, h⟩ := h
  exact ⟨_, rfl, fun p hp => h p (List.mem_filter.1 hp).1⟩
theorem Low.size {n : Nat} {D : DataW Unit} (h : Low n D) (ht : Tidy D) : Maps.size D ≤ n := by
  obtain ⟨es, rfl, h⟩ := h
  obtain ⟨es', e, hp⟩ := ht
  cases e
  have := nodup_le n (es.map fun p => match p.1 with | .int _ k => k.toNat | _ => 0) (by
    rw [List.Nodup, List.pairwise_map]
    refine hp.imp_of_mem fun {a b} ha hb hne => ?_
    obtain ⟨k, _, ek⟩ := h a ha
    obtain ⟨j, _, ej⟩ := h b hb
    rw [ek, ej] at hne ⊢
    intro e
    apply hne
    simp at e
    rw [e]) (by
    intro k hk
    obtain ⟨p, hp, rfl⟩ := List.mem_map.1 hk
    obtain ⟨k, hk, e⟩ := h p hp
    rw [e]
    simpa using hk)
  simpa [Maps.size] using this
theorem law3 : Keyed Try.prog 3 := int_keyed Try.underlying3
/-- A map of timers has at most n entries. -/
theorem owns_low {w : World} {B m n : Nat} {D : DataW Unit} (h : w.ownsMap Try.prog 3 (plainElem Try.prog 3) B m D) (hl : Low n D) : w.ownsMap Try.prog 3 (plainElem Try.prog 3) B n D := by
  have hs := hl.size (h.tidy law3)
  obtain ⟨es, clock, hb, F, _, rfl⟩ := h
  exact ⟨es, clock, hb, F, by simpa [Maps.size, length_sorted] using hs, rfl⟩
theorem owns_mod {S : Nat → Prop} {w w' : World} {b n : Nat} {D : DataW Unit} (h : w.ownsMap Try.prog 3 (plainElem Try.prog 3) b n D) (hm : Mod S w w') (hb : ¬ S b) : w'.ownsMap Try.prog 3 (plainElem Try.prog 3) b n D := by
  obtain ⟨es, clock, hk, r⟩ := h
  exact ⟨es, clock, hm.obj hk hb, r⟩
theorem zero3 (w : World) : (zeroValue 3).run Try.prog w = .ok (.int .i64 0) w := by kernel_rfl
/-- An int. -/
def I64 (n : Int) : Prop := -9223372036854775808 ≤ n ∧ n ≤ 9223372036854775807
theorem wf_of {n : Int} (h : I64 n) : (Lit.int .i64 n).wf = true := WalkArith.wf_i64 (by unfold I64 at h; omega)
theorem key3 {k : Int} (h : I64 k) : keyOf Try.prog 3 (.int .i64 k) = some (.int .i64 k) := keyOf_int_mk Try.underlying3 (wf_of h)

/-- A map that holds the ticks f, of kinds below n. -/
structure Mp (w : World) (B n : Nat) (f : Int → Int) : Prop where
  own : ∃ D, w.ownsMap Try.prog 3 (plainElem (H := Unit) Try.prog 3) B n D ∧ Low n D ∧ ∀ k : Int, I64 k → D.atKey (.int .i64 k) (.lit (.int .i64 0)) = .lit (.int .i64 (f k))
theorem Mp.mod {S : Nat → Prop} {w w' : World} {B n : Nat} {f : Int → Int} (h : Mp w B n f) (hm : Mod S w w') (hp : ¬ S B) : Mp w' B n f := by
  obtain ⟨D, h1, h2, h3⟩ := h.own
  exact ⟨D, owns_mod h1 hm hp, h2, h3⟩
theorem Mp.new (w : World) (n : Nat) : Mp (w.alloc (.map #[] 0)) w.heap.size n (fun _ => 0) := ⟨_, (World.ownsMap_made w Try.prog 3 _).mono (Nat.zero_le n), Low.zero n, fun k _ => by simp [DataW.atKey]⟩
theorem Mp.lt {w : World} {B n : Nat} {f : Int → Int} (h : Mp w B n f) : B < w.heap.size := by
  obtain ⟨D, h1, _⟩ := h.own
  exact h1.lt
/-- One timer's ticks put in. -/
def upd (f : Int → Int) (k t : Int) : Int → Int := fun i => if i = k then t else f i
theorem upd_same (f : Int → Int) (k t : Int) : upd f k t k = t := by simp [upd]
theorem upd_self {f : Int → Int} {k t : Int} (h : f k = t) : upd f k t = f := by
  funext i
  unfold upd
  split
  · rename_i e; rw [e, h]
  · rfl
theorem Mp.look {w : World} {B n : Nat} {f : Int → Int} (h : Mp w B n f) {k : Int} (hk : I64 k) : (Instr.lookup 48 (.map (some B)) (.int .i64 k) false).run Try.prog w = .ok (.int .i64 (f k)) w := by
  obtain ⟨D, h1, _, h3⟩ := h.own
  obtain ⟨c, hrun, hat, _⟩ := h1.lookup_int law3 Try.underlying48 Try.underlying3 (zero3 _) (key3 hk)
  rw [h3 k hk] at hat
  simp at hat
  rw [hrun, hat]
theorem i64_nat {k n : Nat} (hk : k < n) (hn : n ≤ 16) : I64 (k : Int) := by unfold I64; omega
theorem Mp.store {w : World} {B n : Nat} {f : Int → Int} (h : Mp w B n f) {k : Nat} (hk : k < n) (hn : n ≤ 16) {t : Int} (ht : I64 t) :
    ∃ w', (Instr.mapUpdate 48 (.map (some B)) (.int .i64 k) (.int .i64 t)).run Try.prog w = .ok () w' ∧ Mp w' B n (upd f k t) ∧ w.mapTurned w' B := by
  obtain ⟨D, h1, h2, h3⟩ := h.own
  obtain ⟨w', hrun, r1, r2⟩ := h1.store (d := .lit (.int .i64 t)) (ps := []) law3 Try.underlying48 (by simp only [maxLen]; omega) (key3 (i64_nat hk hn)) (plainElem_int Try.underlying3 (wf_of ht))
  refine ⟨w', hrun, ⟨_, owns_low r1 (h2.put hk _), h2.put hk _, fun i hi => ?_⟩, r2⟩
  by_cases e : i = k
  · subst e
    rw [atKey_put_same h1.isMap (law3.key (key3 hi)), upd_same]
  · rw [atKey_put_other (fun e' => e (by simpa using e')), h3 i hi]
    simp [upd, e]
theorem Mp.drop {w : World} {B n : Nat} {f : Int → Int} (h : Mp w B n f) {k : Int} (hk : I64 k) (ty : TypeId) :
    ∃ w', (Builtin.delete_ #[48, 3] ty #[.map (some B), .int .i64 k]).run Try.prog w = .ok (.tuple #[]) w' ∧ Mp w' B n (upd f k 0) ∧ w.mapTurned w' B := by
  obtain ⟨D, h1, h2, h3⟩ := h.own
  obtain ⟨w', hrun, r1, r2⟩ := h1.drop law3 Try.underlying48 (key3 hk) ty
  refine ⟨w', hrun, ⟨_, r1, h2.del _, fun i hi => ?_⟩, r2⟩
  by_cases e : i = k
  · subst e
    rw [atKey_del_same, upd_same]
  · rw [atKey_del_other (fun e' => e (by simpa using e')), h3 i hi]
    simp [upd, e]

/-- n timers at block p, their map at block B; f: the ticks that are left. -/
structure Al (w : World) (p B n : Nat) (f : Int → Int) : Prop where
  blk : w.heap[p]? = some (.cells #[.int .i64 n, .map (some B)] 50 (0, 0))
  map : Mp w B n f
theorem Al.mod {S : Nat → Prop} {w w' : World} {p B n : Nat} {f : Int → Int} (h : Al w p B n f) (hm : Mod S w w') (hp : ¬ S p) (hB : ¬ S B) : Al w' p B n f := ⟨hm.obj h.blk hp, h.map.mod hm hB⟩
theorem Al.c0 {w : World} {p B n : Nat} {f : Int → Int} (h : Al w p B n f) : w.cell? ⟨p, 0, none⟩ = some (.int .i64 n) := by simp [World.cell?, h.blk]
theorem Al.c1 {w : World} {p B n : Nat} {f : Int → Int} (h : Al w p B n f) : w.cell? ⟨p, 1, none⟩ = some (.map (some B)) := by simp [World.cell?, h.blk]
theorem Al.lt {w : World} {p B n : Nat} {f : Int → Int} (h : Al w p B n f) : p < w.heap.size := lt_of_block h.blk
theorem Al.ne {w : World} {p B n : Nat} {f : Int → Int} (h : Al w p B n f) : ¬ p = B := by
  rintro rfl
  obtain ⟨D, ⟨es, clock, hb, _⟩, _⟩ := h.map.own
  rw [h.blk] at hb
  simp at hb
/-- The map turned, the timers stand so. -/
theorem Al.turned {w w' : World} {p B n : Nat} {f g : Int → Int} (h : Al w p B n f) (ht : w.mapTurned w' B) (hg : Mp w' B n g) : Al w' p B n g :=
  ⟨((Mod.refl (fun i => i = B) w).turned ht (.inl rfl)).obj h.blk h.ne, hg⟩
/-- How timers are. -/
structure Ok (n : Nat) (f : Int → Int) : Prop where
  one : 1 ≤ n
  num : n ≤ 16
  rng : ∀ k, 0 ≤ f k ∧ f k ≤ 10000
  out : ∀ k, f k ≠ 0 → 0 ≤ k ∧ k < n
end Go.Proofs.Ytkbncndinfimnaa
