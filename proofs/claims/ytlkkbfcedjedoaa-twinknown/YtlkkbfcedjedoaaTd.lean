/- Twins in memory: a map of pointers by small numbers, and a twin with its lanes, its senders and their sieves. No conditions; definitions and small laws on them. -/
import Derived.Test.YtlkkbfcedjedoaaTc
import Derived.Test.YtlkkbfcedjedoaaTs
import Derived.Maps.OwnSet
namespace Go.Proofs.Ytlkkbfcedjedoaa
open Go.RowKit
open Go.Maps Go.WideShapes
theorem mem_insert {H : Type} {p x : Lit × DataW H} : ∀ {l : List (Lit × DataW H)}, p ∈ DataW.insert x l → p = x ∨ p ∈ l
  | [], h => by simp [DataW.insert] at h; exact .inl h
  | y :: r, h => by
    unfold DataW.insert at h
    split at h
    · simpa using h
    · rcases List.mem_cons.1 h with h | h
      · exact .inr (by simp [h])
      · rcases mem_insert h with h | h
        · exact .inl h
        · exact .inr (by simp [h])
theorem nodup_le : ∀ (n : Nat) (K : List Nat), K.Nodup → (∀ k ∈ K, k < n) → K.length ≤ n
  | 0, K, _, h => by
    cases K with
    | nil => simp
    | cons a r => exact absurd (h a (by simp)) (by omega)
  | n + 1, K, hd, h => by
    have := nodup_le n (K.erase n) (hd.erase n) (fun k hk => by
      have := (hd.mem_erase_iff).1 hk
      have := h k this.2
      omega)
    rw [List.length_erase] at this
    split at this <;> omega
/-- The keys of a map are kinds below n. -/
def Low (n : Nat) (D : DataW Unit) : Prop := ∃ es, D = .map es ∧ ∀ p ∈ es, ∃ k : Nat, k < n ∧ p.1 = .int .i64 k
theorem Low.zero (n : Nat) : Low n (.map []) := ⟨[], rfl, by simp⟩
theorem Low.put {n : Nat} {D : DataW Unit} (h : Low n D) {k : Nat} (hk : k < n) (d : DataW Unit) : Low n (D.put (.int .i64 k) d) := by
  obtain ⟨es, rfl, h⟩ := h
  refine ⟨_, rfl, fun p hp => ?_⟩
  rcases mem_insert hp with rfl | hp
  · exact ⟨k, hk, rfl⟩
  · exact h p (List.mem_filter.1 hp).1
theorem Low.del {n : Nat} {D : DataW Unit} (h : Low n D) (kl : Lit) : Low n (D.del kl) := by
  obtain ⟨es, rfl, h⟩ := h
  exact ⟨_, rfl, fun p hp => h p (List.mem_filter.1 hp).1⟩
theorem Low.size {n : Nat} {D : DataW Unit} (h : Low n D) (ht : Tidy D) : Maps.size D ≤ n := by
  obtain ⟨es, rfl, h⟩ := h
  obtain ⟨es', e, hp⟩ := ht
  cases e
  have := nodup_le n (es.map fun p => match p.1 with | .int _ k => k.toNat | _ => 0) (by
    rw [List.Nodup, List.pairwise_map]
    refine hp.imp_of_mem fun {a b} ha hb hne => ?_
    obtain ⟨k, _, ek⟩ := h a ha
    obtain ⟨j, _, ej⟩ := h b hb
    rw [ek, ej] at hne ⊢
    intro e
    apply hne
    simp at e
    rw [e]) (by
    intro k hk
    obtain ⟨p, hp, rfl⟩ := List.mem_map.1 hk
    obtain ⟨k, hk, e⟩ := h p hp
    rw [e]
    simpa using hk)
  simpa [Maps.size] using this
theorem Mod.turned {S : Nat → Prop} {a w w' : World} {b : Nat} (h : Mod S a w) (ht : w.mapTurned w' b) (hb : S b ∨ a.heap.size ≤ b) : Mod S a w' :=
  h.grown ht.grown (fun k hk hlt => by cases hk; rcases hb with h | h; exact h; omega)
/-- An int. -/
def I64 (n : Int) : Prop := -9223372036854775808 ≤ n ∧ n ≤ 9223372036854775807
theorem wf_of {n : Int} (h : I64 n) : (Lit.int .i64 n).wf = true := WalkArith.wf_i64 (by unfold I64 at h; omega)
theorem lawInt : Keyed Try.prog 3 := int_keyed Try.underlying3
theorem keyInt {k : Int} (h : I64 k) : keyOf Try.prog 3 (.int .i64 k) = some (.int .i64 k) := keyOf_int_mk Try.underlying3 (wf_of h)
/-- How a pointer to a block reads. -/
def ptrE (v : Value) : Option (DataW Unit × List MemPlace) := match v with
  | .pointer none => some (.lit (.int .i64 (-1)), [])
  | .pointer (some ⟨b, 0, none⟩) => some (.lit (.int .i64 (b : Int)), [])
  | _ => none
/-- A pointer to a block, or none. -/
def ptr (o : Option Nat) : Value := .pointer (o.map fun b => ⟨b, 0, none⟩)
def pnum (o : Option Nat) : Int := match o with | none => -1 | some b => (b : Int)
theorem ptrE_ptr (o : Option Nat) : ptrE (ptr o) = some (.lit (.int .i64 (pnum o)), []) := by cases o <;> rfl
theorem ptrE_inv {v : Value} {o : Option Nat} {ps : List MemPlace} (h : ptrE v = some (.lit (.int .i64 (pnum o)), ps)) : v = ptr o := by
  unfold ptrE at h
  split at h
  · cases o with
    | none => rfl
    | some b => simp [pnum] at h
  · rename_i b
    cases o with
    | none => simp [pnum] at h
    | some c =>
      simp [pnum] at h
      have e : b = c := by omega
      subst e
      rfl
  · cases h
theorem zeroSn (w : World) : (zeroValue 120).run Try.prog w = .ok (.pointer none) w := by kernel_rfl
theorem owns_mod {S : Nat → Prop} {w w' : World} {b n : Nat} {D : DataW Unit} (h : w.ownsMap Try.prog 3 ptrE b n D) (hm : Mod S w w') (hb : ¬ S b) : w'.ownsMap Try.prog 3 ptrE b n D := by
  obtain ⟨es, clock, hk, r⟩ := h
  exact ⟨es, clock, hm.obj hk hb, r⟩
theorem owns_low {w : World} {B m n : Nat} {D : DataW Unit} (h : w.ownsMap Try.prog 3 ptrE B m D) (hl : Low n D) : w.ownsMap Try.prog 3 ptrE B n D := by
  have hs := hl.size (h.tidy lawInt)
  obtain ⟨es, clock, hb, F, _, rfl⟩ := h
  exact ⟨es, clock, hb, F, by simpa [Maps.size, length_sorted] using hs, rfl⟩
/-- A map of pointers by numbers below 9. -/
def Mq (w : World) (B : Nat) (f : Int → Option Nat) : Prop := ∃ D, w.ownsMap Try.prog 3 ptrE B 9 D ∧ Low 9 D ∧ ∀ k : Int, I64 k → D.atKey (.int .i64 k) (.lit (.int .i64 (-1))) = .lit (.int .i64 (pnum (f k)))
theorem Mq.mod {S : Nat → Prop} {w w' : World} {B : Nat} {f : Int → Option Nat} (h : Mq w B f) (hm : Mod S w w') (hp : ¬ S B) : Mq w' B f := by
  obtain ⟨D, h1, h2, h3⟩ := h
  exact ⟨D, owns_mod h1 hm hp, h2, h3⟩
theorem Mq.new (w : World) : Mq (w.alloc (.map #[] 0)) w.heap.size (fun _ => none) := ⟨_, (World.ownsMap_made w Try.prog 3 _).mono (Nat.zero_le 9), Low.zero 9, fun k _ => by simp [DataW.atKey, pnum]⟩
theorem Mq.kind {w : World} {B : Nat} {f : Int → Option Nat} (h : Mq w B f) : ∃ es clock, w.heap[B]? = some (.map es clock) := by
  obtain ⟨D, ⟨es, clock, hb, _⟩, _⟩ := h
  exact ⟨es, clock, hb⟩
theorem Mq.lt {w : World} {B : Nat} {f : Int → Option Nat} (h : Mq w B f) : B < w.heap.size := by
  obtain ⟨es, clock, hb⟩ := h.kind
  exact lt_of_block hb
theorem Mq.look {w : World} {B : Nat} {f : Int → Option Nat} (h : Mq w B f) {k : Int} (hk : I64 k) : (Instr.lookup 70 (.map (some B)) (.int .i64 k) false).run Try.prog w = .ok (ptr (f k)) w := by
  obtain ⟨D, h1, _, h3⟩ := h
  obtain ⟨c, ps, hrun, hat⟩ := h1.lookup lawInt Try.underlying70 (zeroSn _) (zd := .lit (.int .i64 (-1))) (zp := []) rfl (keyInt hk)
  rw [h3 k hk] at hat
  rw [hrun, ptrE_inv hat]
/-- One put in. -/
def updq {α : Type} (f : Int → α) (k : Int) (q : α) : Int → α := fun i => if i = k then q else f i
theorem Mq.store {w : World} {B : Nat} {f : Int → Option Nat} (h : Mq w B f) {k : Int} (hk : 0 ≤ k) (hk8 : k ≤ 8) (q : Nat) :
    ∃ w', (Instr.mapUpdate 70 (.map (some B)) (.int .i64 k) (.pointer (some ⟨q, 0, none⟩))).run Try.prog w = .ok () w' ∧ Mq w' B (updq f k (some q)) ∧ w.mapTurned w' B := by
  obtain ⟨D, h1, h2, h3⟩ := h
  have hi : I64 k := by unfold I64; omega
  obtain ⟨n, rfl⟩ := Int.eq_ofNat_of_zero_le hk
  obtain ⟨w', hrun, r1, r2⟩ := h1.store (d := .lit (.int .i64 (q : Int))) (ps := []) lawInt Try.underlying70 (by simp only [maxLen]; omega) (keyInt hi) (val := .pointer (some ⟨q, 0, none⟩)) rfl
  refine ⟨w', hrun, ⟨_, owns_low r1 (h2.put (k := n) (by omega) _), h2.put (by omega) _, fun i hi' => ?_⟩, r2⟩
  by_cases e : i = n
  · subst e
    rw [atKey_put_same h1.isMap (lawInt.key (keyInt hi'))]
    simp [updq, pnum]
  · rw [atKey_put_other (fun e' => e (by simpa using e')), h3 i hi']
    simp [updq, e]
/-- A twin's own numbers. -/
structure Tn where
  nd : Int
  lf : Int
  ac : Bool
  c : Nat → Int
  f : Nat → Bool
  sz : Nat
  se : Nat
  la : Nat
def Tn.cells (a : Tn) (B : Nat) : Array Value := #[.int .i64 a.nd, .int .i64 a.lf, .bool a.ac, .int .i64 (a.c 0), .bool (a.f 0), .int .i64 (a.c 1), .bool (a.f 1), .int .i64 (a.c 2), .bool (a.f 2), .int .i64 a.sz, .int .i64 a.se, .int .i64 a.la, .map (some B)]
/-- What a twin knows of a sender: its life, the greatest number, what was fresh. -/
structure Kw where
  lf : Int
  t : Int
  F : Int → Bool
/-- A twin at block p, in the blocks X. -/
structure Tw (w : World) (p : Nat) (X : Nat → Prop) (a : Tn) (K : Int → Option Kw) : Prop where
  ex : ∃ (B : Nat) (Q : Int → Nat × Nat), Bk w p 72 (a.cells B) ∧ X p ∧ X B ∧ Mq w B (fun k => (K k).map fun _ => (Q k).1) ∧
    (∀ k z, K k = some z → Bk w (Q k).1 123 #[.int .i64 z.lf, .pointer (some ⟨(Q k).2, 0, none⟩)] ∧ Sv w (Q k).2 z.t z.F ∧ X (Q k).1 ∧ X (Q k).2) ∧
    (∀ k j z z', K k = some z → K j = some z' → k ≠ j → (Q k).1 ≠ (Q j).1 ∧ (Q k).2 ≠ (Q j).2)
  lt : ∀ b, X b → b < w.heap.size
theorem Tw.mod {S X : Nat → Prop} {w w' : World} {p : Nat} {a : Tn} {K : Int → Option Kw} (h : Tw w p X a K) (hm : Mod S w w') (hX : ∀ b, X b → ¬ S b) : Tw w' p X a K := by
  obtain ⟨⟨B, Q, h1, h2, h3, h4, h5, h6⟩, h7⟩ := h
  refine ⟨⟨B, Q, h1.mod hm (hX _ h2), h2, h3, h4.mod hm (hX _ h3), fun k z hz => ?_, h6⟩, fun b hb => Nat.lt_of_lt_of_le (h7 b hb) hm.size⟩
  obtain ⟨a1, a2, a3, a4⟩ := h5 k z hz
  exact ⟨a1.mod hm (hX _ a3), a2.mod hm (hX _ a4), a3, a4⟩
/-- Blocks that were there, or are new. -/
def Gone (w : World) (X X' : Nat → Prop) : Prop := ∀ b, X' b → X b ∨ w.heap.size ≤ b
theorem Gone.refl (w : World) (X : Nat → Prop) : Gone w X X := fun _ h => .inl h
theorem Gone.trans {w w1 : World} {X Y Z : Nat → Prop} (h : Gone w X Y) (k : Gone w1 Y Z) (hs : w.heap.size ≤ w1.heap.size) : Gone w X Z := fun b hb => by
  rcases k b hb with h1 | h1
  · exact h b h1
  · exact .inr (by omega)
/-- What holds of a twin's numbers. -/
structure OkT (N : Nat) (a : Tn) : Prop where
  nd : 1 ≤ a.nd ∧ a.nd ≤ 8
  lf : 1 ≤ a.lf ∧ a.lf ≤ 9007199254740991
  sz : 1 ≤ a.sz ∧ a.sz ≤ 3
  la : a.la < a.sz
  c : ∀ k, 0 ≤ a.c k ∧ a.c k ≤ N
  se : a.se ≤ N
  well : ∃ k, k < a.sz ∧ a.f k = false
end Go.Proofs.Ytlkkbfcedjedoaa
