/- Contract of the document's Above. Conditions: as many data as a slice can have; of each number one. -/
import Derived.Test.YtejlcoakencdiaaYu
import Derived.Deep.QuietTactic
import Derived.BigQuiet
namespace Go.Proofs.Ytejlcoakencdiaa
open Go.RowKit Go.Maps
/-- Of each number one. -/
def Dis (L : List Dt) : Prop := ∀ (i j : Nat) (a b : Dt), L[i]? = some a → L[j]? = some b → a.n = b.n → i = j
theorem Dis.nil : Dis [] := fun i j a b h => by simp at h
theorem Dis.put {L : List Dt} {d : Dt} (h : Dis L) (hd : jl L d.n = none) : Dis (L ++ [d]) := by
  have hno : ∀ (t : Nat) (z : Dt), L[t]? = some z → z.n ≠ d.n := fun t z hz e => by
    have := List.find?_eq_none.1 hd z (List.mem_of_getElem? hz)
    simp [e] at this
  intro i j a b hi hj e
  rw [List.getElem?_append] at hi hj
  split at hi <;> split at hj
  · exact h i j a b hi hj e
  · rename_i h1 h2
    have hb : b = d := by
      cases hq : j - L.length with
      | zero => rw [hq] at hj; simpa using hj.symm
      | succ n => rw [hq] at hj; simp at hj
    subst hb
    exact absurd e (hno i a hi)
  · rename_i h1 h2
    have hb : a = d := by
      cases hq : i - L.length with
      | zero => rw [hq] at hi; simpa using hi.symm
      | succ n => rw [hq] at hi; simp at hi
    subst hb
    exact absurd e.symm (hno j b hj)
  · have h1 : i - L.length < 1 := by
      rcases Nat.lt_or_ge (i - L.length) 1 with q | q
      · exact q
      · rw [List.getElem?_eq_none (by simpa using q)] at hi; cases hi
    have h2 : j - L.length < 1 := by
      rcases Nat.lt_or_ge (j - L.length) 1 with q | q
      · exact q
      · rw [List.getElem?_eq_none (by simpa using q)] at hj; cases hj
    omega
theorem Dis.pL {L : List Dt} {d : Dt} (h : Dis L) : Dis (pL L d) := by
  unfold Ytejlcoakencdiaa.pL
  split
  · rename_i hp
    refine h.put ?_
    simp [pF] at hp
    exact hp.2
  · exact h
theorem Dis.jl {L : List Dt} (h : Dis L) {t : Nat} {d : Dt} (ht : L[t]? = some d) : jl L d.n = some d :=
  jl_at (i := t) (fun t' z h' hz e => by have := h t' t z d hz ht e; omega) ht rfl
/-- How many are above. -/
def ab (L : List Dt) (x : Int) : Nat := (L.filter (fun d => decide (x < d.n))).length
theorem ab_le (L : List Dt) (x : Int) : ab L x ≤ L.length := List.length_filter_le _ _
theorem ab_lt : ∀ {L : List Dt} {x : Int} {d : Dt}, d ∈ L → x < d.n → ab L d.n < ab L x
  | [], _, _, h, _ => by cases h
  | a :: r, x, d, h, hx => by
    have mono : ∀ (r : List Dt) (x y : Int), x ≤ y → ab r y ≤ ab r x := fun r x y hxy => by
      unfold ab
      induction r with
      | nil => simp
      | cons b r ih =>
        rw [List.filter_cons, List.filter_cons]
        by_cases h1 : y < b.n
        · rw [if_pos (by simpa using h1), if_pos (by simp; omega)]
          simp only [List.length_cons]
          omega
        · rw [if_neg (by simpa using h1)]
          split
          · simp only [List.length_cons]; omega
          · exact ih
    unfold ab
    rw [List.filter_cons, List.filter_cons]
    rcases List.mem_cons.1 h with rfl | h
    · rw [if_neg (by simp), if_pos (by simpa using hx)]
      have := mono r x d.n (by omega)
      unfold ab at this
      simp only [List.length_cons]
      omega
    · have := ab_lt h hx
      unfold ab at this
      by_cases h1 : d.n < a.n
      · rw [if_pos (by simpa using h1), if_pos (by simp; omega)]
        simp only [List.length_cons]
        omega
      · rw [if_neg (by simpa using h1)]
        split
        · simp only [List.length_cons]; omega
        · exact this
/-- The least above, of the first i. -/
def Best (ds : List (Dt × Value)) (last : Int) (i : Nat) (at_ : Int) : Prop :=
  (at_ = -1 ∧ ∀ t z, t < i → ds[t]? = some z → ¬ last < z.1.n) ∨ ∃ (t : Nat) (x : Dt × Value), t < i ∧ at_ = (t : Int) ∧ ds[t]? = some x ∧ last < x.1.n ∧ ∀ t' z, t' < i → ds[t']? = some z → last < z.1.n → x.1.n ≤ z.1.n
theorem Best.keep {ds : List (Dt × Value)} {last : Int} {i : Nat} {at_ : Int} (h : Best ds last i at_) {x : Dt × Value} (hx : ds[i]? = some x) (hn : last < x.1.n → ∃ (t : Nat) (y : Dt × Value), at_ = (t : Int) ∧ ds[t]? = some y ∧ y.1.n ≤ x.1.n) : Best ds last (i + 1) at_ := by
  rcases h with ⟨rfl, h⟩ | ⟨t, y, ht, rfl, hy, hl, hm⟩
  · refine .inl ⟨rfl, fun t z ht hz hl => ?_⟩
    rcases Nat.lt_or_ge t i with q | q
    · exact h t z q hz hl
    · obtain rfl : t = i := by omega
      rw [hx] at hz
      cases hz
      obtain ⟨t', _, e, _⟩ := hn hl
      omega
  · refine .inr ⟨t, y, by omega, rfl, hy, hl, fun t' z ht' hz hl' => ?_⟩
    rcases Nat.lt_or_ge t' i with q | q
    · exact hm t' z q hz hl'
    · obtain rfl : t' = i := by omega
      rw [hx] at hz
      cases hz
      obtain ⟨t2, y2, e, hy2, hle⟩ := hn hl'
      obtain rfl : t = t2 := by omega
      rw [hy] at hy2
      cases hy2
      exact hle
theorem Best.take {ds : List (Dt × Value)} {last : Int} {i : Nat} {at_ : Int} (h : Best ds last i at_) {x : Dt × Value} (hx : ds[i]? = some x) (hl : last < x.1.n) (hn : ∀ (t : Nat) (y : Dt × Value), at_ = (t : Int) → ds[t]? = some y → x.1.n < y.1.n) : Best ds last (i + 1) (i : Int) := by
  refine .inr ⟨i, x, by omega, rfl, hx, hl, fun t' z ht' hz hl' => ?_⟩
  rcases Nat.lt_or_ge t' i with q | q
  · rcases h with ⟨rfl, h⟩ | ⟨t, y, ht, rfl, hy, hl2, hm⟩
    · exact absurd hl' (h t' z q hz)
    · have := hm t' z q hz hl'
      have := hn t y rfl hy
      omega
  · obtain rfl : t' = i := by omega
    rw [hx] at hz
    cases hz
    omega
/-- Told so far: up to last. -/
structure Up (J : Int → Option Dt) (s last : Int) (zs : List Int) : Prop where
  up : zs.Pairwise (· < ·)
  mem : ∀ x, x ∈ zs ↔ (s < x ∧ x ≤ last ∧ (J x).isSome = true)
  le : s ≤ last
theorem jl_mem {L : List Dt} {x : Int} (h : (jl L x).isSome = true) : ∃ (t : Nat) (d : Dt), L[t]? = some d ∧ d.n = x := by
  obtain ⟨d, hd⟩ := Option.isSome_iff_exists.1 h
  have hm := List.mem_of_find?_eq_some hd
  have hp := List.find?_some hd
  obtain ⟨t, ht⟩ := List.getElem?_of_mem hm
  exact ⟨t, d, ht, by simpa using hp⟩
theorem Up.step {L : List Dt} {s last : Int} {zs : List Int} (h : Up (jl L) s last zs) {t : Nat} {d : Dt} (ht : L[t]? = some d) (hdj : jl L d.n = some d) (hl : last < d.n) (hm : ∀ (t' : Nat) (z : Dt), L[t']? = some z → last < z.n → d.n ≤ z.n) : Up (jl L) s d.n (zs ++ [d.n]) := by
  have _ := ht
  refine ⟨List.pairwise_append.2 ⟨h.up, by simp, fun a ha b hb => ?_⟩, fun x => ?_, by have := h.le; omega⟩
  · have := (h.mem a).1 ha
    simp at hb
    omega
  · rw [List.mem_append, h.mem x]
    simp only [List.mem_singleton]
    constructor
    · rintro (⟨q1, q2, q3⟩ | rfl)
      · exact ⟨q1, by omega, q3⟩
      · exact ⟨by have := h.le; omega, Int.le_refl _, by rw [hdj]; rfl⟩
    · rintro ⟨q1, q2, q3⟩
      rcases Int.lt_or_le last x with q | q
      · obtain ⟨t', z, hz, rfl⟩ := jl_mem q3
        have := hm t' z hz q
        exact .inr (by omega)
      · exact .inl ⟨q1, q, q3⟩
theorem Up.done {L : List Dt} {s last : Int} {zs : List Int} (h : Up (jl L) s last zs) (hm : ∀ (t' : Nat) (z : Dt), L[t']? = some z → ¬ last < z.n) : Ks (jl L) s zs := ⟨h.up, fun x => by
  rw [h.mem x]
  constructor
  · rintro ⟨q1, _, q3⟩
    exact ⟨q1, q3⟩
  · rintro ⟨q1, q3⟩
    obtain ⟨t', z, hz, rfl⟩ := jl_mem q3
    have := hm t' z hz
    exact ⟨q1, by omega, q3⟩⟩
end Go.Proofs.Ytejlcoakencdiaa
