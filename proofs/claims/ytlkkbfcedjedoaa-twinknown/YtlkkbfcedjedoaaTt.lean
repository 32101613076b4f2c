/- For TwinTurns, plainly: eleven rounds over all lanes but one make that one faulty; what goes over one by one goes over all that are well alike. No conditions. -/
import Derived.Test.YtlkkbfcedjedoaaTw2
namespace Go.Proofs.Ytlkkbfcedjedoaa
open Go.RowKit
theorem gr_ge (c : Nat → Int) (m j : Nat) (hb : m / 2 ^ j % 2 = 1) : ∀ z, j < z → c j ≤ gr c m z
  | 0, h => by omega
  | z + 1, h => by
    rw [gr]
    by_cases e : j = z
    · subst e
      rw [if_pos hb]
      omega
    · have := gr_ge c m j hb z (by omega)
      split <;> omega
/-- i rounds are over, and of this one the lanes below k: over all but the lane bad. -/
structure Ph (z bad : Nat) (i : Int) (k : Nat) (a : Tn) : Prop where
  sz : a.sz = z
  c : ∀ j, j < z → a.c j = if j = bad then 0 else if j < k then i + 1 else i
  f : ∀ j, j < z → j ≠ bad → a.f j = false
  b : bad < z → (a.f bad = true ↔ 11 ≤ i ∨ (i = 10 ∧ ∃ j, j < k ∧ j < z ∧ j ≠ bad))
theorem Ph.step {z bad k N : Nat} {i : Int} {a : Tn} (h : Ph z bad i k a) (ok : OkT N a) (hi : 0 ≤ i) (hk : k < z) (hb : k ≠ bad) : Ph z bad i (k + 1) (a.came k) := by
  have hz := ok.sz
  have hck := h.c k hk
  rw [if_neg hb, if_neg (by omega)] at hck
  have hc : ∀ j, j < z → (a.cnt k).c j = if j = bad then 0 else if j < k + 1 then i + 1 else i := fun j hj => by
    have hj' := h.c j hj
    by_cases e : j = k
    · subst e
      simp only [Tn.cnt, if_true, hck]
      rw [if_neg hb, if_pos (by omega)]
    · simp only [Tn.cnt, e, if_false, hj']
      by_cases e2 : j = bad
      · simp [e2]
      · rw [if_neg e2, if_neg e2]
        by_cases e3 : j < k
        · rw [if_pos e3, if_pos (by omega)]
        · rw [if_neg e3, if_neg (by omega)]
  have hle : (a.cnt k).top ≤ i + 1 := gr_le _ _ _ (by omega) _ (fun j hj => by
    have hj' : j < z := by have := h.sz; simp only [Tn.cnt] at hj; omega
    rw [hc j hj']
    split
    · omega
    · split <;> omega)
  have hge : i + 1 ≤ (a.cnt k).top := by
    have hs : (a.cnt k).sz = z := h.sz
    have h1 := gr_ge (a.cnt k).c (on (a.cnt k).f false (a.cnt k).sz) k ((on_bit _ _ (by rw [hs]; rw [h.sz] at hz; omega) (by rw [hs]; exact hk)).2 (h.f k hk hb)) (a.cnt k).sz (by rw [hs]; exact hk)
    rw [hc k hk, if_neg hb, if_pos (by omega)] at h1
    exact h1
  refine ⟨h.sz, hc, fun j hj e => ?_, fun hbz => ?_⟩
  · show (a.cnt k).lkf (a.cnt k).sz j = false
    unfold Tn.lkf
    have hcj := hc j hj
    rw [if_neg e] at hcj
    rw [if_neg (by intro h2; split at hcj <;> omega)]
    exact h.f j hj e
  · show (a.cnt k).lkf (a.cnt k).sz bad = true ↔ _
    unfold Tn.lkf
    have hcb := hc bad hbz
    rw [if_pos rfl] at hcb
    have hs : (a.cnt k).sz = z := h.sz
    have hfb : (a.cnt k).f bad = a.f bad := rfl
    have hold := h.b hbz
    by_cases h10 : 10 ≤ i
    · rw [if_pos (by rw [hs]; omega)]
      refine ⟨fun _ => ?_, fun _ => rfl⟩
      by_cases e : 11 ≤ i
      · exact .inl e
      · exact .inr ⟨by omega, k, by omega, hk, hb⟩
    · rw [if_neg (by omega), hfb, hold]
      constructor
      · rintro (h1 | ⟨h1, _⟩) <;> omega
      · rintro (h1 | ⟨h1, _⟩) <;> omega
theorem Ph.skip {z bad : Nat} {i : Int} {a : Tn} (h : Ph z bad i bad a) : Ph z bad i (bad + 1) a := by
  refine ⟨h.sz, fun j hj => ?_, h.f, fun hbz => ?_⟩
  · rw [h.c j hj]
    by_cases e : j = bad
    · simp [e]
    · rw [if_neg e, if_neg e]
      by_cases e2 : j < bad
      · rw [if_pos e2, if_pos (by omega)]
      · rw [if_neg e2, if_neg (by omega)]
  · rw [h.b hbz]
    constructor
    · rintro (h1 | ⟨h1, j, j1, j2, j3⟩)
      · exact .inl h1
      · exact .inr ⟨h1, j, by omega, j2, j3⟩
    · rintro (h1 | ⟨h1, j, j1, j2, j3⟩)
      · exact .inl h1
      · exact .inr ⟨h1, j, by omega, j2, j3⟩
theorem Ph.next {z bad : Nat} {i : Int} {a : Tn} (h : Ph z bad i z a) (hz : 1 < z) : Ph z bad (i + 1) 0 a := by
  refine ⟨h.sz, fun j hj => ?_, h.f, fun hbz => ?_⟩
  · rw [h.c j hj]
    by_cases e : j = bad
    · simp [e]
    · rw [if_neg e, if_neg e, if_pos hj, if_neg (by omega)]
  · rw [h.b hbz]
    constructor
    · rintro (h1 | ⟨h1, _⟩)
      · exact .inl (by omega)
      · exact .inl (by omega)
    · rintro (h1 | ⟨h1, j, j1, _⟩)
      · by_cases e : 11 ≤ i
        · exact .inl e
        · refine .inr ⟨by omega, ?_⟩
          by_cases e0 : bad = 0
          · exact ⟨1, by omega, by omega, by omega⟩
          · exact ⟨0, by omega, by omega, by omega⟩
      · omega
theorem Ph.start {nd lf : Int} {z bad : Nat} {ac : Bool} : Ph z bad 0 0 (tn0 nd lf z ac) := by
  refine ⟨rfl, fun j _ => by simp [tn0], fun j _ _ => rfl, fun _ => ?_⟩
  simp [tn0]
theorem Ph.done {z bad : Nat} {a : Tn} (h : Ph z bad 11 0 a) (hz : z ≤ 3) (hb : bad < z) : on a.f true z = 2 ^ bad := by
  have hfb := (h.b hb).2 (.inl (by omega))
  have hf := h.f
  rcases (by omega : z = 1 ∨ z = 2 ∨ z = 3) with rfl | rfl | rfl <;> rcases (by omega : bad = 0 ∨ bad = 1 ∨ bad = 2) with rfl | rfl | rfl <;> (first | omega | skip)
  · simp [on, hfb]
  · simp [on, hfb, hf 1 (by omega) (by omega)]
  · simp [on, hfb, hf 0 (by omega) (by omega)]
  · simp [on, hfb, hf 1 (by omega) (by omega), hf 2 (by omega) (by omega)]
  · simp [on, hfb, hf 0 (by omega) (by omega), hf 2 (by omega) (by omega)]
  · simp [on, hfb, hf 0 (by omega) (by omega), hf 1 (by omega) (by omega)]
/-- How many went over each lane. -/
def My (a : Tn) (M : Nat → Int) : Prop := ∃ q : Int, -1 ≤ q ∧ ∀ k, k < a.sz → a.f k = false → M k = if k ≤ a.la then q + 1 else q
theorem My.start {a : Tn} (h : a.la + 1 = a.sz) : My a (fun _ => 0) := ⟨-1, by omega, fun k hk _ => by show (0 : Int) = if k ≤ a.la then -1 + 1 else -1; rw [if_pos (by omega)]; rfl⟩
def f3 (a b c : Bool) (k : Nat) : Bool := if k = 0 then a else if k = 1 then b else c
theorem nx_where : ∀ (z la : Fin 4) (b0 b1 b2 : Bool), 1 ≤ z.val → la.val < z.val → (∃ k : Fin 3, k.val < z.val ∧ f3 b0 b1 b2 k.val = false) →
    (la.val < nw (f3 b0 b1 b2) z.val ((la.val + 1) % z.val) ∧ ∀ k : Fin 3, la.val < k.val → k.val < nw (f3 b0 b1 b2) z.val ((la.val + 1) % z.val) → f3 b0 b1 b2 k.val = true) ∨
    (nw (f3 b0 b1 b2) z.val ((la.val + 1) % z.val) ≤ la.val ∧ (∀ k : Fin 3, la.val < k.val → k.val < z.val → f3 b0 b1 b2 k.val = true) ∧ ∀ k : Fin 3, k.val < nw (f3 b0 b1 b2) z.val ((la.val + 1) % z.val) → f3 b0 b1 b2 k.val = true) := by decide +kernel
theorem My.step {N : Nat} {a : Tn} {M : Nat → Int} (h : My a M) (ok : OkT N a) : My { a with la := a.nx } (fun k => if k = a.nx then M k + 1 else M k) := by
  obtain ⟨q, hq, hM⟩ := h
  have hw := nx_well ok
  have hz := ok.sz
  have hla := ok.la
  obtain ⟨w0, hw0, hwf⟩ := ok.well
  -- what nx is
  have hx : (a.la < a.nx ∧ ∀ k, a.la < k → k < a.nx → a.f k = true) ∨ (a.nx ≤ a.la ∧ (∀ k, a.la < k → k < a.sz → a.f k = true) ∧ ∀ k, k < a.nx → a.f k = true) := by
    have hF : ∀ k, k < 3 → a.f k = f3 (a.f 0) (a.f 1) (a.f 2) k := fun k hk => by
      rcases (by omega : k = 0 ∨ k = 1 ∨ k = 2) with rfl | rfl | rfl <;> rfl
    have hm := Nat.mod_lt (a.la + 1) hz.1
    have hm2 := Nat.mod_lt ((a.la + 1) % a.sz + 1) hz.1
    have hnx : a.nx = nw (f3 (a.f 0) (a.f 1) (a.f 2)) a.sz ((a.la + 1) % a.sz) := by
      unfold Tn.nx nw
      rw [hF ((a.la + 1) % a.sz) (by omega), hF (((a.la + 1) % a.sz + 1) % a.sz) (by omega)]
    have key := nx_where ⟨a.sz, by omega⟩ ⟨a.la, by omega⟩ (a.f 0) (a.f 1) (a.f 2) hz.1 hla ⟨⟨w0, by omega⟩, hw0, by rw [← hF w0 (by omega)]; exact hwf⟩
    simp only at key
    rw [← hnx] at key
    rcases key with ⟨k1, k2⟩ | ⟨k1, k2, k3⟩
    · exact .inl ⟨k1, fun k h1 h2 => by rw [hF k (by omega)]; exact k2 ⟨k, by omega⟩ h1 h2⟩
    · exact .inr ⟨k1, fun k h1 h2 => by rw [hF k (by omega)]; exact k2 ⟨k, by omega⟩ h1 h2, fun k h1 => by rw [hF k (by omega)]; exact k3 ⟨k, by omega⟩ h1⟩
  rcases hx with ⟨x1, x2⟩ | ⟨x1, x2, x3⟩
  · refine ⟨q, hq, fun k hk hf => ?_⟩
    have hf' : a.f k = false := hf
    have hmk := hM k hk hf'
    simp only
    by_cases e : k = a.nx
    · rw [if_pos e, if_pos (by omega), hmk, if_neg (by omega)]
    · rw [if_neg e, hmk]
      by_cases e2 : k ≤ a.la
      · rw [if_pos e2, if_pos (by omega)]
      · have : ¬ k < a.nx := fun h => by have := x2 k (by omega) h; rw [hf'] at this; cases this
        rw [if_neg e2, if_neg (by omega)]
  · refine ⟨q + 1, by omega, fun k hk hf => ?_⟩
    have hf' : a.f k = false := hf
    have hmk := hM k hk hf'
    have hkl : k ≤ a.la := by
      rcases Nat.lt_or_ge a.la k with h | h
      · have := x2 k h hk; rw [hf'] at this; cases this
      · exact h
    rw [if_pos hkl] at hmk
    simp only
    by_cases e : k = a.nx
    · rw [if_pos e, if_pos (by omega), hmk]
    · have : ¬ k < a.nx := fun h => by have := x3 k h; rw [hf'] at this; cases this
      rw [if_neg e, hmk, if_neg (by omega)]
end Go.Proofs.Ytlkkbfcedjedoaa
