/- A map of joins by senders; a gathering in memory; New, isNone, isCounter, mayBe. Conditions: numbers of an int. -/
import Derived.Test.YtmfdgbdcbfppcaaDa
import Derived.Maps.OwnSet
import Derived.Maps.RangeWalk
import Derived.DeepKeys4
import Derived.MapViews
import Derived.OpenShut
namespace Go.Proofs.Ytmfdgbdcbfppcaa
open Go.RowKit Go.Maps Go.WideShapes
theorem wf_of {n : Int} (h : I64 n) : (Lit.int .i64 n).wf = true := WalkArith.wf_i64 (by unfold I64 at h; omega)
theorem lawI : Keyed Try.prog 3 := int_keyed Try.underlying3
/-- What a number is in the map's datum. -/
def kl (k : Int) : Lit := .int .i64 k
theorem kl_of {k : Int} (h : I64 k) : keyOf Try.prog 3 (.int .i64 k) = some (kl k) := keyOf_int_mk Try.underlying3 (wf_of h)
theorem kl_inj {a b : Int} (h : kl a = kl b) : a = b := by simpa [kl] using h
theorem kl_key {a : Int} (ha : I64 a) : WideAt.IsKeyLit (kl a) := lawI.key (kl_of ha)
def hE (v : Value) : Option (DataW Value × List MemPlace) := some (.held v, [])
theorem owns_mod {S : Nat → Prop} {w w' : World} {b n : Nat} {D : DataW Value} (h : w.ownsMap Try.prog 3 hE b n D) (hm : Mod S w w') (hb : ¬ S b) : w'.ownsMap Try.prog 3 hE b n D := by
  obtain ⟨es, clock, hk, r⟩ := h
  exact ⟨es, clock, hm.obj hk hb, r⟩
theorem Mod.turned {S : Nat → Prop} {a w w' : World} {b : Nat} (h : Mod S a w) (ht : w.mapTurned w' b) (hb : S b ∨ a.heap.size ≤ b) : Mod S a w' :=
  h.grown ht.grown (fun k hk hlt => by cases hk; rcases hb with h | h; exact h; omega)
theorem Bk.new2 (w : World) (o : Obj) (xs : Array Value) (t : TypeId) : Bk ((w.alloc o).alloc (.cells xs t)) (w.heap.size + 1) t xs := by
  have := Bk.new (w.alloc o) xs t
  rwa [show (w.alloc o).heap.size = w.heap.size + 1 by simp] at this
theorem mem_insert {H : Type} {p x : Lit × DataW H} : ∀ {l : List (Lit × DataW H)}, p ∈ DataW.insert x l → p = x ∨ p ∈ l
  | [], h => by simp [DataW.insert] at h; exact .inl h
  | y :: r, h => by
    unfold DataW.insert at h
    split at h
    · simpa using h
    · rcases List.mem_cons.1 h with h | h
      · exact .inr (by simp [h])
      · rcases mem_insert h with h | h
        · exact .inl h
        · exact .inr (by simp [h])
theorem nodup_le : ∀ (n : Nat) (K : List Nat), K.Nodup → (∀ k ∈ K, k < n) → K.length ≤ n
  | 0, K, _, h => by
    cases K with
    | nil => simp
    | cons a r => exact absurd (h a (by simp)) (by omega)
  | n + 1, K, hd, h => by
    have := nodup_le n (K.erase n) (hd.erase n) (fun k hk => by
      have := (hd.mem_erase_iff).1 hk
      have := h k this.2
      omega)
    rw [List.length_erase] at this
    split at this <;> omega
/-- The keys of a map are kinds below n. -/
def Low (n : Nat) (D : DataW Value) : Prop := ∃ es, D = .map es ∧ ∀ p ∈ es, ∃ k : Nat, k < n ∧ p.1 = .int .i64 k
theorem Low.zero (n : Nat) : Low n (.map []) := ⟨[], rfl, by simp⟩
theorem Low.put {n : Nat} {D : DataW Value} (h : Low n D) {k : Nat} (hk : k < n) (d : DataW Value) : Low n (D.put (.int .i64 k) d) := by
  obtain ⟨es, rfl, h⟩ := h
  refine ⟨_, rfl, fun p hp => ?_⟩
  rcases mem_insert hp with rfl | hp
  · exact ⟨k, hk, rfl⟩
  · exact h p (List.mem_filter.1 hp).1
theorem Low.size {n : Nat} {D : DataW Value} (h : Low n D) (ht : Tidy D) : Maps.size D ≤ n := by
  obtain ⟨es, rfl, h⟩ := h
  obtain ⟨es', e, hp⟩ := ht
  cases e
  have := nodup_le n (es.map fun p => match p.1 with | .int _ k => k.toNat | _ => 0) (by
    rw [List.Nodup, List.pairwise_map]
    refine hp.imp_of_mem fun {a b} ha hb hne => ?_
    obtain ⟨k, _, ek⟩ := h a ha
    obtain ⟨j, _, ej⟩ := h b hb
    rw [ek, ej] at hne ⊢
    intro e
    apply hne
    simp at e
    rw [e]) (by
    intro k hk
    obtain ⟨p, hp, rfl⟩ := List.mem_map.1 hk
    obtain ⟨k, hk, e⟩ := h p hp
    rw [e]
    simpa using hk)
  simpa [Maps.size] using this
theorem owns_low {w : World} {B m n : Nat} {D : DataW Value} (h : w.ownsMap Try.prog 3 hE B m D) (hl : Low n D) : w.ownsMap Try.prog 3 hE B n D := by
  have hs := hl.size (h.tidy lawI)
  obtain ⟨es, clock, hb, F, _, rfl⟩ := h
  exact ⟨es, clock, hb, F, by simpa [Maps.size, length_sorted] using hs, rfl⟩
/-- What a sender said last: its crew and its counter. -/
structure Jo where
  p : Int
  c : Int
def jv (s p c : Int) : Value := .agg #[.int .i64 s, .int .i64 p, .int .i64 c]
def mj (o : Option Jo) (k : Int) : Value := match o with | none => jv 0 0 0 | some j => jv k j.p j.c
theorem zeroJoin (w : World) : (zeroValue 34).run Try.prog w = .ok (jv 0 0 0) w := by kernel_rfl
theorem info3c : (Try.prog.info? 34).map (·.size) = some 3 := by kernel_rfl
/-- The map of them. -/
structure Mj (w : World) (B : Nat) (J : Int → Option Jo) : Prop where
  own : ∃ D, w.ownsMap Try.prog 3 hE B 9 D ∧ Low 9 D ∧ ∀ k, I64 k → D.atKey (kl k) (.held (jv 0 0 0)) = .held (mj (J k) k) ∧ Maps.has D (kl k) = (J k).isSome
  rng : ∀ k, (J k).isSome = true → 1 ≤ k ∧ k ≤ 8
theorem Mj.mod {S : Nat → Prop} {w w' : World} {B : Nat} {J : Int → Option Jo} (h : Mj w B J) (hm : Mod S w w') (hp : ¬ S B) : Mj w' B J := by
  obtain ⟨D, h1, h2, h3⟩ := h.own
  exact ⟨⟨D, owns_mod h1 hm hp, h2, h3⟩, h.rng⟩
theorem Mj.new (w : World) : Mj (w.alloc (.map #[] 0)) w.heap.size (fun _ => none) :=
  ⟨⟨_, (World.ownsMap_made w Try.prog 3 _).mono (Nat.zero_le 9), Low.zero 9, fun k _ => by simp [DataW.atKey, mj, Maps.has]⟩, by simp⟩
theorem Mj.kind {w : World} {B : Nat} {J : Int → Option Jo} (h : Mj w B J) : ∃ es clock, w.heap[B]? = some (.map es clock) := by
  obtain ⟨D, ⟨es, clock, hb, _⟩, _⟩ := h.own
  exact ⟨es, clock, hb⟩
theorem Mj.lt {w : World} {B : Nat} {J : Int → Option Jo} (h : Mj w B J) : B < w.heap.size := by
  obtain ⟨es, clock, hb⟩ := h.kind
  exact lt_of_block hb
theorem Mj.look2 {w : World} {B : Nat} {J : Int → Option Jo} (h : Mj w B J) {k : Int} (hk : I64 k) : (Instr.lookup 52 (.map (some B)) (.int .i64 k) true).run Try.prog w = .ok (.tuple #[mj (J k) k, .bool (J k).isSome]) w := by
  obtain ⟨D, h1, _, h3⟩ := h.own
  obtain ⟨c, ps, hrun, hat⟩ := h1.look_ok lawI Try.underlying52 (zeroJoin _) (zd := .held (jv 0 0 0)) (zp := []) rfl (kl_of hk)
  rw [(h3 k hk).1] at hat
  simp only [hE, Option.some.injEq, Prod.mk.injEq, DataW.held.injEq] at hat
  rw [hrun, hat.1, (h3 k hk).2]
theorem Mj.store {w : World} {B : Nat} {J : Int → Option Jo} (h : Mj w B J) {k : Int} (h1k : 1 ≤ k) (h8k : k ≤ 8) (p c : Int) :
    ∃ w', (Instr.mapUpdate 52 (.map (some B)) (.int .i64 k) (jv k p c)).run Try.prog w = .ok () w' ∧ Mj w' B (upd J k (some ⟨p, c⟩)) ∧ w.mapTurned w' B := by
  obtain ⟨D, h1, h2, h3⟩ := h.own
  have hk : I64 k := ⟨by omega, by omega⟩
  obtain ⟨w', hrun, r1, r2⟩ := h1.store (d := .held (jv k p c)) (ps := []) lawI Try.underlying52 (by simp [maxLen]) (kl_of hk) (val := jv k p c) (by rfl)
  have hlow : Low 9 (D.put (kl k) (.held (jv k p c))) := by
    have := h2.put (k := k.toNat) (by omega) (.held (jv k p c))
    rwa [Int.toNat_of_nonneg (by omega)] at this
  refine ⟨w', hrun, ⟨⟨_, owns_low r1 hlow, hlow, fun i hi => ?_⟩, fun i hi => ?_⟩, r2⟩
  · by_cases e : i = k
    · subst e
      have hkk := kl_key hi
      rw [atKey_put_same h1.isMap hkk, has_put_same h1.isMap hkk, upd_same]
      exact ⟨rfl, rfl⟩
    · rw [atKey_put_other (fun e' => e (kl_inj e')), has_put_other (fun e' => e (kl_inj e')), upd_other J _ e]
      exact h3 i hi
  · by_cases e : i = k
    · rw [e]; exact ⟨h1k, h8k⟩
    · rw [upd_other J _ e] at hi
      exact h.rng i hi
/-- Whom a node hears, of the nodes below k. -/
def hrk (n : Int) (J : Int → Option Jo) : Nat → Nat
  | 0 => 0
  | k + 1 => hrk n J k ||| (if decide ((k : Int) = n) || (J k).isSome then 2 ^ k else 0)
def hr (n : Int) (J : Int → Option Jo) : Nat := hrk n J 9
theorem hrk_bit (n : Int) (J : Int → Option Jo) (i : Nat) : ∀ k, (hrk n J k).testBit i = (decide (i < k) && (decide ((i : Int) = n) || (J i).isSome))
  | 0 => by simp [hrk]
  | k + 1 => by
    rw [hrk, Nat.testBit_or, hrk_bit n J i k]
    by_cases e : i = k
    · subst e
      cases hb : (decide ((i : Int) = n) || (J i).isSome) <;> simp
    · have e2 : (if (decide ((k : Int) = n) || (J k).isSome) = true then 2 ^ k else 0).testBit i = false := by
        split
        · rw [Nat.testBit_two_pow]; simp; omega
        · simp
      rw [e2, Bool.or_false]
      congr 1
      simp; omega
/-- As it should be: a node and numbers; senders are other nodes. -/
structure Gp (n c g : Int) (J : Int → Option Jo) : Prop where
  node : 1 ≤ n ∧ n ≤ 8
  cnt : 0 ≤ c ∧ c ≤ 9007199254740991
  grt : 0 ≤ g ∧ g ≤ 9007199254740991
  each : ∀ k j, J k = some j → 1 ≤ k ∧ k ≤ 8 ∧ I64 j.p ∧ 0 ≤ j.c ∧ j.c ≤ 9007199254740991
theorem Gp.some_i {n c g : Int} {J : Int → Option Jo} (h : Gp n c g J) {k : Int} (hk : (J k).isSome = true) : 1 ≤ k ∧ k ≤ 8 := by
  obtain ⟨d, hd⟩ := Option.isSome_iff_exists.1 hk
  obtain ⟨h1, h2, _⟩ := h.each k d hd
  exact ⟨h1, h2⟩
theorem hr_bit {n c g : Int} {J : Int → Option Jo} (h : Gp n c g J) (i : Nat) : (hr n J).testBit i = (decide ((i : Int) = n) || (J i).isSome) := by
  rw [hr, hrk_bit]
  by_cases e : i < 9
  · simp [e]
  · have h1 : ¬ (i : Int) = n := by have := h.node; omega
    have h2 : (J i).isSome = false := by
      rw [Bool.eq_false_iff]; intro hs; have := h.some_i hs; omega
    simp [e, h1, h2]
theorem hr_lt (n : Int) (J : Int → Option Jo) : hr n J < 512 := by
  have h0 : ∀ k, hrk n J k < 2 ^ k := by
    intro k
    induction k with
    | zero => simp [hrk]
    | succ k ih =>
      rw [hrk]
      refine Nat.or_lt_two_pow ?_ ?_
      · rw [Nat.pow_succ]; omega
      · split
        · rw [Nat.pow_succ]; have := Nat.two_pow_pos k; omega
        · exact Nat.two_pow_pos _
  exact h0 9
/-- What Of answers of nodes. -/
theorem off_mem : ∀ (l : List Int) (a : Nat), a < 512 → (∀ x ∈ l, Cr.node x = true) → ∃ b, Cr.off a l = some b ∧ b < 512 ∧ ∀ i : Nat, b.testBit i = (a.testBit i || decide ((i : Int) ∈ l))
  | [], a, ha, _ => ⟨a, rfl, ha, by simp⟩
  | x :: l, a, ha, hl => by
    have hx := hl x (by simp)
    have hx1 : 1 ≤ x ∧ x < 9 := by simpa [Cr.node] using hx
    have h2 := Cr.two_lt hx
    obtain ⟨b, h3, h4, h5⟩ := off_mem l (a ||| 2 ^ x.toNat) (Nat.or_lt_two_pow (n := 9) (by omega) h2) (fun y hy => hl y (by simp [hy]))
    refine ⟨b, by rw [Cr.off, if_pos hx]; exact h3, h4, fun i => ?_⟩
    rw [h5, Nat.testBit_or, Nat.testBit_two_pow, Bool.or_assoc]
    congr 1
    rw [← Bool.decide_or]
    apply decide_eq_decide.2
    rw [List.mem_cons]
    constructor
    · rintro (h | h)
      · left; omega
      · exact .inr h
    · rintro (h | h)
      · left; omega
      · exact .inr h
theorem of_hr {n c g : Int} {J : Int → Option Jo} (h : Gp n c g J) {zs : List Int} (hz : ∀ x, x ∈ zs ↔ (J x).isSome = true) : Cr.ofx (n :: zs) = hr n J ∧ Cr.ofe (n :: zs) = 0 := by
  obtain ⟨b, h1, h2, h3⟩ := off_mem (n :: zs) 0 (by omega) (fun x hx => by
    rcases List.mem_cons.1 hx with rfl | hx
    · have := h.node; simp [Cr.node]; omega
    · have := h.some_i ((hz x).1 hx); simp [Cr.node]; omega)
  refine ⟨?_, by rw [Cr.ofe, h1]; rfl⟩
  rw [Cr.ofx, h1]
  apply Nat.eq_of_testBit_eq
  intro i
  rw [hr_bit h, Option.getD_some, h3]
  have e : decide ((i : Int) ∈ zs) = (J i).isSome := by
    have := hz i
    cases hs : (J i).isSome
    · rw [hs] at this; simpa using this
    · rw [hs] at this; simpa using this
  simp [e]
/-- A gathering in memory; X: its blocks. -/
structure Ga (w : World) (p : Nat) (X : Nat → Prop) (n c g : Int) (J : Int → Option Jo) : Prop where
  blk : ∃ B, Bk w p 54 #[.int .i64 n, .int .i64 c, .int .i64 g, .map (some B)] ∧ Mj w B J ∧ X B
  px : X p
  lt : ∀ i, X i → i < w.heap.size
  gp : Gp n c g J
theorem Ga.mod {S : Nat → Prop} {w w' : World} {p : Nat} {X : Nat → Prop} {n c g : Int} {J : Int → Option Jo} (hw : Ga w p X n c g J) (hm : Mod S w w') (hS : ∀ i, X i → ¬ S i) : Ga w' p X n c g J := by
  obtain ⟨B, h1, h2, h3⟩ := hw.blk
  exact ⟨⟨B, h1.mod hm (hS p hw.px), h2.mod hm (hS B h3), h3⟩, hw.px, fun i hi => Nat.lt_of_lt_of_le (hw.lt i hi) hm.size, hw.gp⟩
theorem Ga.keep {w w' : World} {p : Nat} {X : Nat → Prop} {n c g : Int} {J : Int → Option Jo} (hw : Ga w p X n c g J) (hm : Mod (fun _ => False) w w') : Ga w' p X n c g J := hw.mod hm (fun _ _ h => h)
def okN (n c : Int) : Bool := decide (1 ≤ n) && (decide (n ≤ 8) && (decide (0 ≤ c) && decide (c ≤ 9007199254740991)))
theorem isCounter_w (c : Int) (w : World) : Calls Try.prog 25 #[.int .i64 c] w fun e w' => e = .returned (.bool (decide (0 ≤ c) && decide (c ≤ 9007199254740991))) ∧ w' = w := by
  rcases Int.lt_or_le c 0 with h | h
  all_goals
    go_enter Try.func25, Try.ntmps25
    go_wp2
    go_ret
    refine ⟨?_, rfl⟩
    simp
    try omega
theorem isNone_w {w : World} {p : Nat} {n : Int} (h : w.cell? ⟨p, 0, none⟩ = some (.int .i64 n)) (hn : 1 ≤ n) : Calls Try.prog 27 #[.pointer (some ⟨p, 0, none⟩)] w fun e w' => e = .returned (.bool false) ∧ w' = w := by
  have h0 : (n == 0) = false := by simp; omega
  go_enter Try.func27, Try.ntmps27
  go_wp2
  go_ret
  exact ⟨rfl, rfl⟩
theorem isNone_nil (w : World) : Calls Try.prog 27 #[.pointer none] w fun e w' => e = .returned (.bool true) ∧ w' = w := by
  go_enter Try.func27, Try.ntmps27
  go_wp2
  go_ret
  exact ⟨rfl, rfl⟩
theorem isNone_zero {w : World} {p : Nat} (h : w.cell? ⟨p, 0, none⟩ = some (.int .i64 0)) : Calls Try.prog 27 #[.pointer (some ⟨p, 0, none⟩)] w fun e w' => e = .returned (.bool true) ∧ w' = w := by
  go_enter Try.func27, Try.ntmps27
  go_wp2
  go_ret
  exact ⟨rfl, rfl⟩
end Go.Proofs.Ytmfdgbdcbfppcaa
