/- What is said of memory here: a slice of bytes that reads as a list, a writer and a reader that hold bytes, and which blocks a call may turn. No conditions; definitions and small laws on them. Plain mathematics of numbers as bytes: how a number is written in seven bits a byte and in so many bytes, how it is read, and that these go together. No conditions beyond those in each statement; nothing of the program is named. -/
import Derived.Test.YtajhpnfpjickbaaChecked
import Derived.WalkKit
import Derived.WalkSmall
import Derived.Deep.AppendLies
import Derived.Deep.Draws
namespace Go.Proofs.Ytajhpnfpjickbaa
open Go.RowKit

/-- Bytes as cells. -/
def U (l : List Int) : List Value := l.map (Value.int .u8)
theorem U_len (l : List Int) : (U l).length = l.length := by simp [U]
theorem U_app (l m : List Int) : U (l ++ m) = U l ++ U m := by simp [U]
theorem U_get (l : List Int) (j : Nat) (h : j < l.length) : (U l)[j]? = some (.int .u8 (l.getD j 0)) := by
  simp [U, h]
theorem U_one (l : List Int) : ∀ u ∈ U l, u.oneCell' = true := by
  intro u hu
  obtain ⟨_, _, rfl⟩ := List.mem_map.1 hu
  rfl

/-- Which blocks may have turned. -/
structure Mod (S : Nat → Prop) (w w' : World) : Prop where
  os : w'.os = w.os
  tape : w'.tape = w.tape
  output : w'.output = w.output
  size : w.heap.size ≤ w'.heap.size
  block : ∀ k, k < w.heap.size → ¬ S k → w'.heap[k]? = w.heap[k]?

theorem Mod.refl (S : Nat → Prop) (w : World) : Mod S w w := ⟨rfl, rfl, rfl, Nat.le_refl _, fun _ _ _ => rfl⟩
theorem Mod.trans {S T V : Nat → Prop} {a b c : World} (h : Mod S a b) (k : Mod T b c) (hS : ∀ i, i < a.heap.size → S i → V i) (hT : ∀ i, i < a.heap.size → T i → V i) : Mod V a c :=
  ⟨k.os.trans h.os, k.tape.trans h.tape, k.output.trans h.output, Nat.le_trans h.size k.size, fun i hi hv =>
    (k.block i (Nat.lt_of_lt_of_le hi h.size) (fun ht => hv (hT i hi ht))).trans (h.block i hi (fun hs => hv (hS i hi hs)))⟩
theorem Mod.mono {S T : Nat → Prop} {a b : World} (h : Mod S a b) (hS : ∀ i, i < a.heap.size → S i → T i) : Mod T a b :=
  ⟨h.os, h.tape, h.output, h.size, fun i hi hv => h.block i hi (fun hs => hv (hS i hi hs))⟩
theorem Mod.drewN {S : Nat → Prop} {a w : World} (h : Mod S a w) (n : Nat) : Mod S a (w.drewN n) := ⟨h.os, h.tape, h.output, h.size, h.block⟩
theorem Mod.drew {S : Nat → Prop} {a w : World} (h : Mod S a w) : Mod S a w.drew := ⟨h.os, h.tape, h.output, h.size, h.block⟩
theorem Mod.alloc {S : Nat → Prop} {a w : World} (h : Mod S a w) (o : Obj) : Mod S a (w.alloc o) :=
  ⟨h.os, h.tape, h.output, by simp; have := h.size; omega, fun k hk hS => (Below.heap_alloc w o k (by have := h.size; omega)).trans (h.block k hk hS)⟩
theorem Mod.setCell {S : Nat → Prop} {a w : World} (h : Mod S a w) (p : Addr) (u : Value) (hp : S p.block ∨ a.heap.size ≤ p.block) : Mod S a (w.setCell p u) :=
  ⟨h.os, h.tape, h.output, by simp [World.setCell]; exact h.size, fun k hk hS => (Below.heap_setCell _ _ _ _ (by rintro rfl; rcases hp with hp | hp; exact hS hp; omega)).trans (h.block k hk hS)⟩
theorem Mod.grown {S : Nat → Prop} {a w w' : World} {row : Option Nat} (h : Mod S a w) (hg : w.grownBy w' row) (hr : ∀ k, row = some k → k < a.heap.size → S k) : Mod S a w' :=
  ⟨hg.os.trans h.os, hg.tape.trans h.tape, hg.output.trans h.output, Nat.le_trans h.size hg.size, fun k hk hS =>
    (hg.block k (Nat.lt_of_lt_of_le hk h.size) (fun e => hS (hr k e.symm hk))).trans (h.block k hk hS)⟩
theorem Mod.below {S : Nat → Prop} {w w' : World} (h : Mod S w w') (B : Nat) (hB : B ≤ w.heap.size) (hS : ∀ k, S k → B ≤ k) : Below B w w' :=
  ⟨h.os, h.tape, h.output, h.size, fun k hk => h.block k (by omega) (fun hs => by have := hS k hs; omega)⟩
theorem Mod.cell {S : Nat → Prop} {w w' : World} (h : Mod S w w') {p : Addr} {v : Value} (hc : w.cell? p = some v) (hp : ¬ S p.block) : w'.cell? p = some v :=
  (World.cell?_of_block (h.block p.block (World.block_lt_of_cell? w p hc) hp)).trans hc
theorem Mod.obj {S : Nat → Prop} {w w' : World} (h : Mod S w w') {p : Nat} {o : Obj} (hc : w.heap[p]? = some o) (hp : ¬ S p) : w'.heap[p]? = some o :=
  (h.block p (lt_of_block hc) hp).trans hc

/-- A slice that reads as the bytes l. -/
structure Sl (w : World) (v : Value) (l : List Int) : Prop where
  form : ∃ ao cap, v = .slice ao l.length cap ∧ l.length ≤ cap ∧ cap ≤ maxLen ∧ (ao = none → cap = 0) ∧
    (l ≠ [] → ∃ b off, ao = some ⟨b, off, none⟩ ∧ ∀ j, j < l.length → w.cell? ⟨b, off + j, none⟩ = some (.int .u8 (l.getD j 0)))
  rng : ∀ c ∈ l, 0 ≤ c ∧ c ≤ 255

theorem Sl.mod {S : Nat → Prop} {w w' : World} {v : Value} {l : List Int} (h : Sl w v l) (hm : Mod S w w') (hv : ∀ g, v.ownBlock = some g → ¬ S g) : Sl w' v l := by
  obtain ⟨ao, cap, rfl, h1, h2, h3, h4⟩ := h.form
  refine ⟨⟨ao, cap, rfl, h1, h2, h3, fun hl => ?_⟩, h.rng⟩
  obtain ⟨b, off, rfl, hc⟩ := h4 hl
  exact ⟨b, off, rfl, fun j hj => hm.cell (hc j hj) (hv b rfl)⟩

theorem Sl.mod2 {S : Nat → Prop} {w w' : World} {v : Value} {l : List Int} (h : Sl w v l) (hm : Mod S w w') (hv : l ≠ [] → ∀ g, v.ownBlock = some g → ¬ S g) : Sl w' v l := by
  obtain ⟨ao, cap, rfl, h1, h2, h3, h4⟩ := h.form
  refine ⟨⟨ao, cap, rfl, h1, h2, h3, fun hl => ?_⟩, h.rng⟩
  obtain ⟨b, off, rfl, hc⟩ := h4 hl
  exact ⟨b, off, rfl, fun j hj => hm.cell (hc j hj) (hv hl b rfl)⟩
theorem Sl.lt {w : World} {v : Value} {l : List Int} (h : Sl w v l) (hl : l ≠ []) : ∀ g, v.ownBlock = some g → g < w.heap.size := by
  obtain ⟨ao, cap, rfl, _, _, _, h4⟩ := h.form
  obtain ⟨b, off, rfl, hc⟩ := h4 hl
  intro g hg
  simp only [Value.ownBlock, Option.some.injEq] at hg
  subst hg
  have h0 : 0 < l.length := by cases l with | nil => exact absurd rfl hl | cons _ _ => simp
  exact World.block_lt_of_cell? w _ (hc 0 h0)

/-- A slice that the call itself has made. -/
def Own (w : World) (v : Value) (l : List Int) : Prop := w.ownsRow 0 5 1 v l.length (U l)

theorem Own.sl {w : World} {v : Value} {l : List Int} (h : Own w v l) (hr : ∀ c ∈ l, 0 ≤ c ∧ c ≤ 255) : Sl w v l := by
  refine ⟨?_, hr⟩
  rcases h.2 with ⟨rfl, h0⟩ | ⟨g, cap, cur, rfl, hb, hg, hn, hcm, hcs, ht⟩
  · exact ⟨none, 0, by rw [h0], by omega, by simp [maxLen], fun _ => rfl, fun hl => absurd (List.eq_nil_of_length_eq_zero h0) hl⟩
  · refine ⟨some ⟨g, 0, none⟩, cap, rfl, hn, hcm, (by intro h; cases h), fun _ => ⟨g, 0, rfl, fun j hj => ?_⟩⟩
    have := World.ownsRow.cellAt h j (by omega)
    rw [Nat.zero_add, this]
    exact U_get l j hj

theorem Own.mod {S : Nat → Prop} {w w' : World} {v : Value} {l : List Int} (h : Own w v l) (hm : Mod S w w') (hv : ∀ g, v.ownBlock = some g → ¬ S g) : Own w' v l := by
  obtain ⟨h1, h2⟩ := h
  refine ⟨h1, ?_⟩
  rcases h2 with h2 | ⟨g, cap, cur, rfl, hb, hg, r⟩
  · exact Or.inl h2
  · exact Or.inr ⟨g, cap, cur, rfl, hb, hm.obj hg (hv g rfl), r⟩

theorem Own.nil (w : World) : Own w (.slice none 0 0) [] := World.ownsRow_nil _ _ _ _

theorem Own.lt {w : World} {v : Value} {l : List Int} (h : Own w v l) : ∀ g, v.ownBlock = some g → g < w.heap.size := fun g hg => (World.ownsRow.lt h g hg).2

theorem Own.shape {w : World} {v : Value} {l : List Int} (h : Own w v l) : ∃ ao cap, v = .slice ao l.length cap := by
  rcases h.2 with ⟨rfl, h0⟩ | ⟨g, cap, cur, rfl, _⟩
  · exact ⟨none, 0, by rw [h0]⟩
  · exact ⟨_, cap, rfl⟩

/-- Its block holds bytes. -/
theorem Own.kind {w : World} {v : Value} {l : List Int} (h : Own w v l) {g : Nat} (hg : v.ownBlock = some g) : ∃ cur, w.heap[g]? = some (.cells cur 5 (0, 0)) := by
  rcases h.2 with ⟨rfl, _⟩ | ⟨g', cap, cur, rfl, hb, hh, _⟩
  · simp [Value.ownBlock] at hg
  · simp only [Value.ownBlock, Option.some.injEq] at hg
    subst hg
    exact ⟨cur, hh⟩

/-- What is behind an append: the old block, or a new one. -/
def Fr (w : World) (v v' : Value) : Prop := ∀ g, v'.ownBlock = some g → v.ownBlock = some g ∨ w.heap.size ≤ g
theorem Fr.refl (w : World) (v : Value) : Fr w v v := fun _ h => .inl h
theorem Fr.trans {w w1 : World} {v v1 v2 : Value} (h : Fr w v v1) (k : Fr w1 v1 v2) (hs : w.heap.size ≤ w1.heap.size) : Fr w v v2 := fun g hg => by
  rcases k g hg with h1 | h1
  · exact h g h1
  · exact .inr (by omega)

/-- A writer at block p that has written l. -/
structure Wr (w : World) (p : Nat) (v : Value) (l : List Int) : Prop where
  blk : w.heap[p]? = some (.cells #[.bool true, v] 125 (0, 0))
  own : Own w v l
  rng : ∀ c ∈ l, 0 ≤ c ∧ c ≤ 255

theorem Wr.mod {S : Nat → Prop} {w w' : World} {p : Nat} {v : Value} {l : List Int} (h : Wr w p v l) (hm : Mod S w w') (hp : ¬ S p) (hv : ∀ g, v.ownBlock = some g → ¬ S g) : Wr w' p v l :=
  ⟨hm.obj h.blk hp, h.own.mod hm hv, h.rng⟩
theorem Wr.c0 {w : World} {p : Nat} {v : Value} {l : List Int} (h : Wr w p v l) : w.cell? ⟨p, 0, none⟩ = some (.bool true) := by simp [World.cell?, h.blk]
theorem Wr.c1 {w : World} {p : Nat} {v : Value} {l : List Int} (h : Wr w p v l) : w.cell? ⟨p, 1, none⟩ = some v := by simp [World.cell?, h.blk]
theorem Wr.f1 {w : World} {p : Nat} {v : Value} {l : List Int} (h : Wr w p v l) : w.frozen? ⟨p, 1, none⟩ = false := by simp [World.frozen?, h.blk]
theorem Wr.ne {w : World} {p : Nat} {v : Value} {l : List Int} (h : Wr w p v l) : v.ownBlock ≠ some p := fun e => by
  obtain ⟨cur, hc⟩ := h.own.kind e
  rw [h.blk] at hc
  simp at hc

/-- A reader at block p that has l left. -/
structure Rd (w : World) (p : Nat) (v : Value) (l : List Int) : Prop where
  blk : w.heap[p]? = some (.cells #[.bool true, v] 129 (0, 0))
  sl : Sl w v l
  ne : v.ownBlock ≠ some p

theorem Rd.mod {S : Nat → Prop} {w w' : World} {p : Nat} {v : Value} {l : List Int} (h : Rd w p v l) (hm : Mod S w w') (hp : ¬ S p) (hv : ∀ g, v.ownBlock = some g → ¬ S g) : Rd w' p v l :=
  ⟨hm.obj h.blk hp, h.sl.mod hm hv, h.ne⟩
theorem Rd.mod2 {S : Nat → Prop} {w w' : World} {p : Nat} {v : Value} {l : List Int} (h : Rd w p v l) (hm : Mod S w w') (hp : ¬ S p) (hv : l ≠ [] → ∀ g, v.ownBlock = some g → ¬ S g) : Rd w' p v l :=
  ⟨hm.obj h.blk hp, h.sl.mod2 hm hv, h.ne⟩
theorem Rd.c0 {w : World} {p : Nat} {v : Value} {l : List Int} (h : Rd w p v l) : w.cell? ⟨p, 0, none⟩ = some (.bool true) := by simp [World.cell?, h.blk]
theorem Rd.c1 {w : World} {p : Nat} {v : Value} {l : List Int} (h : Rd w p v l) : w.cell? ⟨p, 1, none⟩ = some v := by simp [World.cell?, h.blk]
theorem Rd.f1 {w : World} {p : Nat} {v : Value} {l : List Int} (h : Rd w p v l) : w.frozen? ⟨p, 1, none⟩ = false := by simp [World.frozen?, h.blk]

/-- A block of two cells behind a store into the second one. -/
theorem two_setCell {w : World} {b : Nat} {x v u : Value} {t : TypeId} (h : w.heap[b]? = some (.cells #[x, v] t (0, 0))) : (w.setCell ⟨b, 1, none⟩ u).heap[b]? = some (.cells #[x, u] t (0, 0)) := by
  simp [World.setCell, Array.getElem?_modify, h]

theorem rng_app {l m : List Int} (h : ∀ c ∈ l, 0 ≤ c ∧ c ≤ 255) (k : ∀ c ∈ m, 0 ≤ c ∧ c ≤ 255) : ∀ c ∈ l ++ m, 0 ≤ c ∧ c ≤ 255 := fun c hc => by
  rcases List.mem_append.1 hc with hc | hc
  · exact h c hc
  · exact k c hc

/-- A writer behind an append of news and the store of what came of it. -/
theorem Wr.stored {w w1 : World} {p : Nat} {v v' : Value} {l m : List Int} (h : Wr w p v l) (hm : Mod (fun k => v.ownBlock = some k) w w1) (ho : Own w1 v' (l ++ m)) (hr : ∀ c ∈ m, 0 ≤ c ∧ c ≤ 255) (hf : Fr w v v') :
    Wr (w1.setCell ⟨p, 1, none⟩ v') p v' (l ++ m) ∧ Mod (fun k => k = p ∨ v.ownBlock = some k) w (w1.setCell ⟨p, 1, none⟩ v') := by
  have hb := hm.obj h.blk h.ne
  have hlt := lt_of_block h.blk
  have hne : ∀ g, v'.ownBlock = some g → g ≠ p := fun g hg e => by
    rcases hf g hg with h1 | h1
    · exact h.ne (e ▸ h1)
    · omega
  refine ⟨⟨two_setCell hb, ?_, rng_app h.rng hr⟩, ?_⟩
  · exact ho.mod ((Mod.refl (fun k => k = p) w1).setCell _ _ (.inl rfl)) hne
  · exact (hm.mono fun i _ hi => .inr hi).setCell _ _ (.inl (.inl rfl))
/-- Bytes that were just laid. -/
theorem Own.lit (w : World) (l : List Int) (hm : l.length ≤ maxLen) : Own (w.alloc (.cells (U l).toArray 5)) (.slice (some ⟨w.heap.size, 0, none⟩) l.length l.length) l :=
  ⟨by simp [U], .inr ⟨w.heap.size, l.length, (U l).toArray, rfl, Nat.zero_le _, heap_alloc_new w _, Nat.le_refl _, hm, by simp [U], by rw [Nat.mul_one, List.take_of_length_le (by simp [U])]⟩⟩
theorem Sl.lit (w : World) (l : List Int) (hm : l.length ≤ maxLen) (hr : ∀ c ∈ l, 0 ≤ c ∧ c ≤ 255) : Sl (w.alloc (.cells (U l).toArray 5)) (.slice (some ⟨w.heap.size, 0, none⟩) l.length l.length) l := (Own.lit w l hm).sl hr
theorem Own.form {w : World} {v : Value} {l : List Int} (h : Own w v l) (hl : 0 < l.length) : ∃ g cap, v = .slice (some ⟨g, 0, none⟩) l.length cap ∧ l.length ≤ cap ∧ cap ≤ maxLen := by
  rcases h.2 with ⟨_, h0⟩ | ⟨g, cap, cur, rfl, _, _, hn, hcm, _⟩
  · omega
  · exact ⟨g, cap, rfl, hn, hcm⟩
/-- A slice cut at its end. -/
theorem Sl.take {w : World} {b off cap : Nat} {l : List Int} (h : Sl w (.slice (some ⟨b, off, none⟩) l.length cap) l) (n : Nat) (hn : n ≤ l.length) : Sl w (.slice (some ⟨b, off, none⟩) n cap) (l.take n) := by
  obtain ⟨ao, cap', e, h1, h2, h3, h4⟩ := h.form
  simp only [Value.slice.injEq, true_and] at e
  obtain ⟨rfl, rfl⟩ := e
  have hl : (l.take n).length = n := by simp; omega
  refine ⟨⟨_, _, by rw [hl], by omega, h2, h3, fun hne => ?_⟩, fun c hc => h.rng c (List.mem_of_mem_take hc)⟩
  obtain ⟨b', off', e, hc⟩ := h4 (by intro e; rw [e] at hne; simp at hne)
  refine ⟨b', off', e, fun j hj => ?_⟩
  rw [hl] at hj
  rw [hc j (by omega)]
  simp [hj]
end Go.Proofs.Ytajhpnfpjickbaa
namespace Go.Proofs.Ytajhpnfpjickbaa

/-- A number in seven bits a byte, in at most f bytes. -/
def encF : Nat → Nat → List Int
  | 0, _ => []
  | f + 1, x => if 128 ≤ x then ((x % 128 + 128 : Nat) : Int) :: encF f (x / 128) else [(x : Int)]
def enc (x : Nat) : List Int := encF 8 x

theorem encF_rng : ∀ f x, ∀ c ∈ encF f x, 0 ≤ c ∧ c ≤ 255
  | 0, _ => by simp [encF]
  | f + 1, x => by
    intro c hc
    unfold encF at hc
    split at hc
    · rcases List.mem_cons.1 hc with rfl | hc
      · omega
      · exact encF_rng f _ c hc
    · simp only [List.mem_singleton] at hc
      subst hc
      omega
theorem enc_rng (x : Nat) : ∀ c ∈ enc x, 0 ≤ c ∧ c ≤ 255 := encF_rng 8 x
theorem encF_len : ∀ f x, (encF f x).length ≤ f
  | 0, _ => by simp [encF]
  | f + 1, x => by
    unfold encF
    split
    · have := encF_len f (x / 128); simp; omega
    · simp
theorem enc_len (x : Nat) : (enc x).length ≤ 8 := encF_len 8 x

theorem pow_step {f y : Nat} (hy : 128 ≤ y) (h : y < 128 ^ f) : ∃ g, f = g + 1 ∧ y / 128 < 128 ^ g ∧ 0 < g := by
  cases f with
  | zero => simp at h; omega
  | succ g =>
    rw [Nat.pow_succ] at h
    refine ⟨g, rfl, by omega, ?_⟩
    cases g with
    | zero => simp at h; omega
    | succ _ => omega

theorem mask127_u64 {y : Int} (h0 : 0 ≤ y) (h1 : y < 18446744073709551616) : bits .and .u64 y 127 = y % 128 :=
  bits_mask .u64 64 (by decide) (fun n h0 h1 => by rw [IntKind.wrap_u64]; omega) 7 (by decide) y h0 (by omega)
theorem or128_u64 {y : Int} (h0 : 0 ≤ y) (h1 : y < 128) : bits .or .u64 y 128 = y + 128 := by
  obtain ⟨n, rfl⟩ := Int.eq_ofNat_of_zero_le h0
  have hn : n < 128 := by omega
  have h := bits_or_u64_nat n 128 (by omega) (by omega)
  have h2 : n ||| 128 = n + 128 := by
    have : ∀ k : Fin 128, k.val ||| 128 = k.val + 128 := by decide
    exact this ⟨n, hn⟩
  rw [h2] at h
  simpa using h

/-- The number at the front of bytes: the number, how many bytes it has, the error; s: what the first i bytes come to. -/
def num (s i : Nat) : List Int → Int × Int × Int
  | [] => (0, 0, 3)
  | c :: r =>
    if c < 128 then (if 0 < i ∧ c = 0 then (0, 0, 4) else if 9007199254740991 < s + (c.toNat % 128) * 128 ^ i then (0, 0, 4) else (((s + (c.toNat % 128) * 128 ^ i : Nat) : Int), ((i + 1 : Nat) : Int), 0))
    else if i = 7 then (0, 0, 4) else num (s + (c.toNat % 128) * 128 ^ i) (i + 1) r
theorem mask127_u8 {y : Int} (h0 : 0 ≤ y) (h1 : y ≤ 255) : bits .and .u8 y 127 = y % 128 :=
  bits_mask .u8 8 (by decide) wraps_u8 7 (by decide) y h0 (by omega)
theorem and128_u8 {y : Int} (h0 : 0 ≤ y) (h1 : y ≤ 255) : bits .and .u8 y 128 = if y < 128 then 0 else 128 := by
  obtain ⟨n, rfl⟩ := Int.eq_ofNat_of_zero_le h0
  have hn : n < 256 := by omega
  have h := bits_nat .u8 8 (by decide) wraps_u8 n 128 (by omega) (by omega)
  have h2 : ∀ k : Fin 256, k.val &&& 128 = if k.val < 128 then 0 else 128 := by decide +kernel
  have h3 := h2 ⟨n, hn⟩
  simp only at h3
  have h4 := h.1
  rw [h3] at h4
  rw [show ((128 : Nat) : Int) = (128 : Int) from rfl] at h4
  rw [h4]
  by_cases hc : n < 128
  · rw [if_pos hc, if_pos (by omega)]; rfl
  · rw [if_neg hc, if_neg (by omega)]; rfl
theorem or_shift {x k : Nat} {c : Int} (hx : x < 128 ^ k) (hk : k ≤ 7) (h0 : 0 ≤ c) (h1 : c < 128) : bits .or .u64 (x : Int) (IntKind.u64.wrap (c * 2 ^ (7 * k))) = ((x + c.toNat * 128 ^ k : Nat) : Int) := by
  obtain ⟨n, rfl⟩ := Int.eq_ofNat_of_zero_le h0
  have hp : (2 : Int) ^ (7 * k) = ((128 ^ k : Nat) : Int) := by rw [Int.pow_mul]; simp
  rw [hp, Int.toNat_natCast]
  have hk8 : 128 ^ k ≤ 128 ^ 7 := Nat.pow_le_pow_right (by omega) hk
  have hle : n * 128 ^ k ≤ 127 * 128 ^ 7 := Nat.mul_le_mul (by omega) hk8
  have hm : IntKind.u64.wrap ((n : Int) * ((128 ^ k : Nat) : Int)) = ((n * 128 ^ k : Nat) : Int) := by
    rw [IntKind.wrap_u64, ← Int.natCast_mul]
    exact Int.emod_eq_of_lt (by omega) (by omega)
  rw [hm, bits_or_u64_nat _ _ (by omega) (by omega)]
  congr 1
  rw [Nat.or_comm, show (128 : Nat) ^ k = 2 ^ (7 * k) from by rw [Nat.pow_mul]]
  rw [← Nat.mul_comm (2 ^ (7 * k)) n, ← Nat.two_pow_add_eq_or_of_lt (by rw [show (2 : Nat) ^ (7 * k) = 128 ^ k from by rw [Nat.pow_mul]]; exact hx), Nat.add_comm]
theorem drop_cons {l : List Int} {k : Nat} (hk : k < l.length) : l.drop k = l.getD k 0 :: l.drop (k + 1) := by
  rw [List.drop_eq_getElem_cons hk]
  simp [hk]
theorem getD_mem {l : List Int} {k : Nat} (hk : k < l.length) : l.getD k 0 ∈ l := by
  simp [hk]
theorem acc_lt {x k : Nat} {c : Int} (hx : x < 128 ^ k) (h0 : 0 ≤ c) (h1 : c < 128) : x + c.toNat * 128 ^ k < 128 ^ (k + 1) := by
  have : c.toNat * 128 ^ k ≤ 127 * 128 ^ k := Nat.mul_le_mul_right _ (by omega)
  rw [Nat.pow_succ]
  omega
theorem num_size : ∀ (l : List Int) (s i : Nat), 0 ≤ (num s i l).2.1 ∧ ((num s i l).2.1 = 0 ∨ ((i : Int) + 1 ≤ (num s i l).2.1 ∧ (num s i l).2.1 ≤ i + l.length))
  | [], s, i => by simp [num]
  | c :: r, s, i => by
    unfold num
    split
    · split
      · simp
      · split
        · simp
        · simp; omega
    · split
      · simp
      · have := num_size r (s + (c.toNat % 128) * 128 ^ i) (i + 1)
        simp only [List.length_cons]
        omega
theorem num_val : ∀ (l : List Int) (s i : Nat), ((num s i l).2.2 = 0 ∧ 0 ≤ (num s i l).1 ∧ (num s i l).1 ≤ 9007199254740991 ∧ (i : Int) + 1 ≤ (num s i l).2.1) ∨ (((num s i l).2.2 = 3 ∨ (num s i l).2.2 = 4) ∧ (num s i l).1 = 0 ∧ (num s i l).2.1 = 0)
  | [], s, i => by simp [num]
  | c :: r, s, i => by
    unfold num
    split
    · split
      · simp
      · split
        · simp
        · refine .inl ⟨rfl, ?_, ?_, ?_⟩ <;> dsimp only <;> omega
    · split
      · simp
      · have := num_val r (s + (c.toNat % 128) * 128 ^ i) (i + 1)
        omega

/-- A number in so many bytes, the highest first. -/
def fx (l : List Int) : Nat := l.foldl (fun s c => s * 256 + c.toNat) 0
theorem fx_snoc (l : List Int) (c : Int) : fx (l ++ [c]) = fx l * 256 + c.toNat := by simp [fx]
theorem fx_take {l : List Int} {k : Nat} (hk : k < l.length) : fx (l.take (k + 1)) = fx (l.take k) * 256 + (l.getD k 0).toNat := by
  rw [List.take_succ_eq_append_getElem hk, fx_snoc]
  simp [hk]
theorem fx_lt (l : List Int) (hr : ∀ c ∈ l, 0 ≤ c ∧ c ≤ 255) : ∀ k, k ≤ l.length → fx (l.take k) < 256 ^ k
  | 0, _ => by simp [fx]
  | k + 1, h => by
    have h1 := fx_lt l hr k (by omega)
    have h2 := hr _ (getD_mem (l := l) (k := k) (by omega))
    rw [fx_take (by omega), Nat.pow_succ]
    omega
theorem or256 {x : Nat} {c : Int} (hx : x < 72057594037927936) (h0 : 0 ≤ c) (h1 : c ≤ 255) : bits .or .u64 ((x : Int) * 256) c = ((x * 256 + c.toNat : Nat) : Int) := by
  obtain ⟨n, rfl⟩ := Int.eq_ofNat_of_zero_le h0
  rw [show (x : Int) * 256 = ((x * 256 : Nat) : Int) from by omega, bits_or_u64_nat _ _ (by omega) (by omega), Int.toNat_natCast]
  congr 1
  rw [Nat.mul_comm x 256]
  exact (Nat.two_pow_add_eq_or_of_lt (i := 8) (b := n) (by omega) x).symm
theorem and_max (a : Int) : 0 ≤ bits .and .i64 a 9007199254740991 ∧ bits .and .i64 a 9007199254740991 ≤ 9007199254740991 := by
  have h : bits .and .i64 a 9007199254740991 = IntKind.i64.wrap (((BitVec.ofInt 64 a).toNat &&& 9007199254740991 : Nat) : Int) := by
    rfl
  have h2 : (BitVec.ofInt 64 a).toNat &&& 9007199254740991 ≤ 9007199254740991 := Nat.and_le_right
  rw [h, IntKind.wrap_i64]
  omega
theorem encF_pos (f x : Nat) (hf : 0 < f) : 0 < (encF f x).length := by
  cases f with
  | zero => omega
  | succ f => unfold encF; split <;> simp
theorem encF_mono : ∀ f x y, x ≤ y → (encF f x).length ≤ (encF f y).length
  | 0, x, y, _ => by simp [encF]
  | f + 1, x, y, h => by
    unfold encF
    by_cases hx : 128 ≤ x
    · rw [if_pos hx, if_pos (by omega)]
      have := encF_mono f (x / 128) (y / 128) (by omega)
      simp; omega
    · rw [if_neg hx]
      split <;> simp
theorem encF_free : ∀ f x y, x < 128 ^ f → y < 128 ^ f → encF f x = (encF f y).take (encF f x).length → x = y
  | 0, x, y, hx, hy, _ => by simp at hx hy; omega
  | f + 1, x, y, hx, hy, h => by
    unfold encF at h
    rw [Nat.pow_succ] at hx hy
    by_cases h1 : 128 ≤ x <;> by_cases h2 : 128 ≤ y
    · simp only [if_pos h1, if_pos h2, List.length_cons, List.take_succ_cons, List.cons.injEq] at h
      have := encF_free f (x / 128) (y / 128) (by omega) (by omega) h.2
      have := h.1
      omega
    · simp only [if_pos h1, if_neg h2, List.length_cons, List.take_succ_cons, List.cons.injEq] at h
      have := h.1
      omega
    · simp only [if_neg h1, if_pos h2, List.length_cons, List.length_nil, List.take_succ_cons, List.cons.injEq] at h
      have := h.1
      omega
    · simp only [if_neg h1, if_neg h2, List.length_cons, List.length_nil, List.take_succ_cons, List.cons.injEq] at h
      have := h.1
      omega
theorem div_max {X : Int} {n : Nat} (h0 : 0 ≤ X) (h : X ≤ 9007199254740991) : 0 ≤ X / 2 ^ n ∧ X / 2 ^ n ≤ 9007199254740991 := by
  have hp : (0 : Int) < 2 ^ n := Int.pow_pos (by omega)
  exact ⟨Int.ediv_nonneg h0 (by omega), Int.le_trans (Int.ediv_le_self _ h0) h⟩
end Go.Proofs.Ytajhpnfpjickbaa
