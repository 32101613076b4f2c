/- Eight gatherings, and what each said last to each, side by side. No conditions. -/
import Derived.Test.YtmfdgbdcbfppcaaDj
namespace Go.Proofs.Ytmfdgbdcbfppcaa
open Go.RowKit
/-- An array of pointers, filled below N. -/
structure Pj (w : World) (q N : Nat) (P : Nat → Nat) : Prop where
  at' : ∃ xs, Bk w q 43 xs ∧ xs.size = 9 ∧ ∀ i, 1 ≤ i → i < N → xs[i]? = some (.pointer (some ⟨P i, 0, none⟩))
theorem Pj.cell {w : World} {q N : Nat} {P : Nat → Nat} (h : Pj w q N P) {i : Nat} (h1 : 1 ≤ i) (hi : i < N) : w.cell? ⟨q, i, none⟩ = some (.pointer (some ⟨P i, 0, none⟩)) := by
  obtain ⟨xs, hb, _, hx⟩ := h.at'
  exact hb.cellv (hx i h1 hi)
theorem Pj.there {w : World} {q N : Nat} {P : Nat → Nat} (h : Pj w q N P) {i : Nat} (hi : i < 9) : ∃ v, w.cell? ⟨q, i, none⟩ = some v := by
  obtain ⟨xs, hb, hs, _⟩ := h.at'
  exact ⟨xs[i], hb.cellv (by rw [Array.getElem?_eq_getElem])⟩
theorem Pj.frz {w : World} {q N : Nat} {P : Nat → Nat} (h : Pj w q N P) (i : Nat) : w.frozen? ⟨q, i, none⟩ = false := by
  obtain ⟨xs, hb, _⟩ := h.at'
  exact hb.frz i
theorem Pj.lt {w : World} {q N : Nat} {P : Nat → Nat} (h : Pj w q N P) : q < w.heap.size := by
  obtain ⟨xs, hb, _⟩ := h.at'
  exact hb.lt
theorem Pj.mod {S : Nat → Prop} {w w' : World} {q N : Nat} {P : Nat → Nat} (h : Pj w q N P) (hm : Mod S w w') (hq : ¬ S q) : Pj w' q N P := by
  obtain ⟨xs, hb, r⟩ := h.at'
  exact ⟨xs, hb.mod hm hq, r⟩
theorem Pj.store {w : World} {q N : Nat} {P : Nat → Nat} (h : Pj w q N P) (hN : N < 9) (p : Nat) : Pj (w.setCell ⟨q, N, none⟩ (.pointer (some ⟨p, 0, none⟩))) q (N + 1) (fun j => if j = N then p else P j) := by
  obtain ⟨xs, hb, hs, hx⟩ := h.at'
  refine ⟨_, hb.set N _, by simp [hs], fun i h1 hi => ?_⟩
  rw [Array.getElem?_setIfInBounds]
  by_cases e : N = i
  · subst e; simp [hs, hN]
  · rw [if_neg e, hx i h1 (by omega), if_neg (by omega)]
/-- The gatherings below N. -/
structure El (w0 w : World) (qg N : Nat) (P : Nat → Nat) (X : Nat → Nat → Prop) (G : Nat → Int) (J : Nat → Int → Option Jo) : Prop where
  gs : ∀ n : Nat, 1 ≤ n → n < N → Ga w (P n) (X n) n n (G n) (J n)
  ptr : Pj w qg N P
  ap : ∀ n m, 1 ≤ n → n < N → 1 ≤ m → m < N → n ≠ m → ∀ i, X n i → ¬ X m i
  nq : ∀ n, 1 ≤ n → n < N → ¬ X n qg
  new : ∀ n, 1 ≤ n → n < N → ∀ i, X n i → w0.heap.size ≤ i
  nw : w0.heap.size ≤ qg
  mod : Mod (fun _ => False) w0 w
theorem El.keep {w0 w w' : World} {qg N : Nat} {P : Nat → Nat} {X : Nat → Nat → Prop} {G : Nat → Int} {J : Nat → Int → Option Jo} (h : El w0 w qg N P X G J) (hm : Mod (fun _ => False) w w') : El w0 w' qg N P X G J :=
  ⟨fun n h1 h2 => (h.gs n h1 h2).keep hm, h.ptr.mod hm (fun h => h), h.ap, h.nq, h.new, h.nw, h.mod.and hm⟩
/-- One more. -/
theorem El.more {w0 w w' : World} {qg N : Nat} {P : Nat → Nat} {X : Nat → Nat → Prop} {G : Nat → Int} {J : Nat → Int → Option Jo} (h : El w0 w qg N P X G J) (hN : 1 ≤ N ∧ N < 9) {p : Nat} {Y : Nat → Prop} (hg : Ga w' p Y N N N (fun _ => none)) (hY : ∀ i, Y i → w.heap.size ≤ i) (hm : Mod (fun _ => False) w w') :
    El w0 (w'.setCell ⟨qg, N, none⟩ (.pointer (some ⟨p, 0, none⟩))) qg (N + 1) (fun j => if j = N then p else P j) (fun j => if j = N then Y else X j) (fun j => if j = N then (N : Int) else G j) (fun j => if j = N then (fun _ => none) else J j) := by
  have hq := h.ptr.lt
  have hs := (Mod.refl (fun i => i = qg) w').setCell ⟨qg, N, none⟩ (.pointer (some ⟨p, 0, none⟩)) (.inl rfl)
  refine ⟨fun n h1 h2 => ?_, (h.ptr.mod hm (fun h => h)).store hN.2 p, fun n m h1 h2 h3 h4 hne i => ?_, fun n h1 h2 => ?_, fun n h1 h2 i => ?_, h.nw, (h.mod.and hm).trans hs (V := fun _ => False) (fun _ _ h => h) (fun i hi e => by have := h.nw; omega)⟩
  · by_cases e : n = N
    · subst e
      simp only [if_true]
      exact hg.mod hs (fun i hi e => by have := hY i hi; omega)
    · simp only [if_neg e]
      have h2' : n < N := by omega
      exact ((h.gs n h1 h2').keep hm).mod hs (fun i hi e' => h.nq n h1 h2' (e' ▸ hi))
  · by_cases e : n = N <;> by_cases e' : m = N
    · omega
    · simp only [if_pos e, if_neg e']
      intro hi hx
      have := (h.gs m h3 (by omega)).lt i hx
      have := hY i hi
      omega
    · simp only [if_neg e, if_pos e']
      intro hi hx
      have := (h.gs n h1 (by omega)).lt i hi
      have := hY i hx
      omega
    · simp only [if_neg e, if_neg e']
      exact h.ap n m h1 (by omega) h3 (by omega) hne i
  · by_cases e : n = N
    · simp only [if_pos e]
      intro hi
      have := hY _ hi
      omega
    · simp only [if_neg e]
      exact h.nq n h1 (by omega)
  · by_cases e : n = N
    · simp only [if_pos e]
      intro hi
      have := hY _ hi
      have := h.mod.size
      omega
    · simp only [if_neg e]
      exact h.new n h1 (by omega) i
/-- .. and what each said last to each. -/
structure Eb (w0 w : World) (qg qs : Nat) (P : Nat → Nat) (X : Nat → Nat → Prop) (G : Nat → Int) (J : Nat → Int → Option Jo) (S : Nat → J3) : Prop where
  el : El w0 w qg 9 P X G J
  said : Aj w qs 45 81 S
  nqs : ∀ n, 1 ≤ n → n < 9 → ¬ X n qs
  nws : w0.heap.size ≤ qs
  ne : qs ≠ qg
theorem Eb.keep {w0 w w' : World} {qg qs : Nat} {P : Nat → Nat} {X : Nat → Nat → Prop} {G : Nat → Int} {J : Nat → Int → Option Jo} {S : Nat → J3} (h : Eb w0 w qg qs P X G J S) (hm : Mod (fun _ => False) w w') : Eb w0 w' qg qs P X G J S :=
  ⟨h.el.keep hm, h.said.mod hm (fun h => h), h.nqs, h.nws, h.ne⟩
/-- What a is to have said last to one that has this of it. -/
def sj (a : Int) (o : Option Jo) : J3 := match o with | none => z3 | some j => ⟨a, j.p, j.c⟩
def Iv (J : Nat → Int → Option Jo) (S : Nat → J3) : Prop := ∀ a b : Nat, 1 ≤ a → a < 9 → 1 ≤ b → b < 9 → a ≠ b → S (a * 9 + b) = sj a (J b a)
theorem eb_own {w0 w : World} {qg qs : Nat} {P : Nat → Nat} {X : Nat → Nat → Prop} {G : Nat → Int} {J : Nat → Int → Option Jo} {S : Nat → J3} (h : Eb w0 w qg qs P X G J S) {n : Nat} (h1 : 1 ≤ n) (h9 : n < 9) (R : Int) (hR : (hr n (J n) : Int) = R) : Calls Try.prog 13 #[.pointer (some ⟨P n, 0, none⟩)] w fun e w' => e = .returned (jv n R n) ∧ Mod (fun _ => False) w w' := by
  rw [← hR]
  exact Own_w (h.el.gs n h1 h9)
theorem chk_fact : ∀ m : Fin 512, m.val.testBit 0 = false → Cr.chk (m.val : Int) = 0 := by decide +kernel
/-- What a node says may be. -/
theorem own_mb {n c g : Int} {J : Int → Option Jo} (h : Gp n c g J) : mb n (hr n J) c = true := by
  have h0 : (hr n J).testBit 0 = false := by
    rw [hr_bit h]
    have e1 : ¬ ((0 : Nat) : Int) = n := by have := h.node; omega
    have e2 : (J ((0 : Nat) : Int)).isSome = false := by
      rw [Bool.eq_false_iff]; intro hs; have := h.some_i hs; omega
    simp only [e2, Bool.or_false]
    simpa using e1
  have hc := chk_fact ⟨hr n J, hr_lt n J⟩ h0
  have hh : Cr.has (hr n J : Int) n = true := by
    have hn := h.node
    have e : Cr.lo ((hr n J : Nat) : Int) = hr n J := by
      have := hr_lt n J
      unfold Cr.lo
      omega
    have b1 : Nat.ble 1 n.toNat = true := by rw [Nat.ble_eq]; omega
    have b2 : Nat.ble n.toNat 8 = true := by rw [Nat.ble_eq]; omega
    rw [Cr.has, show Cr.node n = true by simp [Cr.node]; omega, Bool.true_and, e, Cr.hs, b1, b2, Bool.true_and, Bool.true_and, hr_bit h, Int.toNat_of_nonneg (by omega)]
    simp
  have hcn := h.cnt
  have hc' : Cr.chk ((hr n J : Nat) : Int) = 0 := hc
  simp [mb, hc', hh]
  omega
theorem hr_i64 (n : Int) (J : Int → Option Jo) : I64 (hr n J : Int) := by
  have := hr_lt n J
  constructor <;> omega
/-- b hears a's word. -/
theorem eb_hear {w0 w : World} {qg qs : Nat} {P : Nat → Nat} {X : Nat → Nat → Prop} {G : Nat → Int} {J : Nat → Int → Option Jo} {S : Nat → J3} (h : Eb w0 w qg qs P X G J S) {a b : Nat} (ha1 : 1 ≤ a) (ha9 : a < 9) (hb1 : 1 ≤ b) (hb9 : b < 9) (hab : a ≠ b) (R : Int) (hR : (hr a (J a) : Int) = R) :
    Calls Try.prog 11 #[.pointer (some ⟨P b, 0, none⟩), jv a R a] w fun e w' => ∃ r, e = .returned r ∧ (∃ x y, r = .tuple #[.bool x, .bool y, .int .i64 0]) ∧ (∃ G', Eb w0 w' qg qs P X G' (fun n => if n = b then upd (J b) a (some ⟨R, a⟩) else J n) S) ∧ Mod (X b) w w' := by
  have hga := h.el.gs a ha1 ha9
  have hgb := h.el.gs b hb1 hb9
  have hmb := own_mb hga.gp
  rw [hR] at hmb
  have hi : I64 R := by rw [← hR]; exact hr_i64 _ _
  have hne : ¬ (a : Int) = (b : Int) := by omega
  refine (Hear_some hgb a R a hi hmb hne).mono ?_
  rintro e w' ⟨rfl, hg, hm⟩
  refine ⟨_, rfl, ⟨_, _, rfl⟩, ⟨fun n => if n = b then max (G b) a else G n, ⟨fun n h1 h2 => ?_, h.el.ptr.mod hm (h.el.nq b hb1 hb9), h.el.ap, h.el.nq, h.el.new, h.el.nw, h.el.mod.trans hm (V := fun _ => False) (fun _ _ h => h) (fun i hi' hx => by have := h.el.new b hb1 hb9 i hx; omega)⟩, h.said.mod hm (h.nqs b hb1 hb9), h.nqs, h.nws, h.ne⟩, hm⟩
  by_cases e : n = b
  · subst e
    simp only [if_true]
    exact hg
  · simp only [if_neg e]
    exact (h.el.gs n h1 h2).mod hm (fun i hi' hx => h.el.ap n b h1 h2 hb1 hb9 e i hi' hx)
/-- .. and it is written down. -/
theorem Eb.write {w0 w : World} {qg qs : Nat} {P : Nat → Nat} {X : Nat → Nat → Prop} {G : Nat → Int} {J : Nat → Int → Option Jo} {S : Nat → J3} (h : Eb w0 w qg qs P X G J S) {i : Nat} (hi : i < 81) (x : J3) :
    Eb w0 (((w.setCell ⟨qs, i * 3, none⟩ (.int .i64 x.s)).setCell ⟨qs, i * 3 + 1, none⟩ (.int .i64 x.p)).setCell ⟨qs, i * 3 + 2, none⟩ (.int .i64 x.c)) qg qs P X G J (fun j => if j = i then x else S j) := by
  have hs := Aj.stored qs i x w
  exact ⟨⟨fun n h1 h2 => (h.el.gs n h1 h2).mod hs (fun k hk e => h.nqs n h1 h2 (e ▸ hk)), h.el.ptr.mod hs (fun e => h.ne e.symm), h.el.ap, h.el.nq, h.el.new, h.el.nw, h.el.mod.trans hs (V := fun _ => False) (fun _ _ h => h) (fun k hk e => by have := h.nws; omega)⟩, h.said.store hi x, h.nqs, h.nws, h.ne⟩
theorem Iv.write {J : Nat → Int → Option Jo} {S : Nat → J3} (h : Iv J S) {a b : Nat} (ha1 : 1 ≤ a) (ha9 : a < 9) (hb1 : 1 ≤ b) (hb9 : b < 9) (R : Int) : Iv (fun n => if n = b then upd (J b) a (some ⟨R, a⟩) else J n) (fun j => if j = a * 9 + b then ⟨a, R, a⟩ else S j) := by
  intro c d hc1 hc9 hd1 hd9 hcd
  show (if c * 9 + d = a * 9 + b then (⟨a, R, a⟩ : J3) else S (c * 9 + d)) = sj c ((if d = b then upd (J b) a (some ⟨R, a⟩) else J d) c)
  by_cases e : c = a ∧ d = b
  · obtain ⟨rfl, rfl⟩ := e
    simp only [if_true]
    rw [upd_same]
    rfl
  · rw [if_neg (by omega), h c d hc1 hc9 hd1 hd9 hcd]
    by_cases ed : d = b
    · subst ed
      have ec : ¬ (c : Int) = (a : Int) := by omega
      rw [if_pos rfl, upd_other _ _ ec]
    · rw [if_neg ed]
end Go.Proofs.Ytmfdgbdcbfppcaa
