/- Rows of messages stored into; numbers added one by one (for RegainSame). No conditions beyond sizes. -/
import Derived.Test.YthiijonmnebjgaaMk
namespace Go.Proofs.Ythiijonmnebjgaa
open Go.RowKit
theorem fm_set : ∀ (ds : List (Ms × Value)) (k : Nat) (x : Ms × Value), k < ds.length → ∀ j, (fm (ds.set k x))[j]? = if k * 13 ≤ j ∧ j < k * 13 + 13 then (mcl x.1 x.2)[j - k * 13]? else (fm ds)[j]?
  | [], k, x, h => fun j => absurd h (Nat.not_lt_zero _)
  | d :: r, 0, x, h => fun j => by
    rw [List.set_cons_zero, fm, fm]
    by_cases e : j < 13
    · rw [if_pos (by omega), List.getElem?_append_left (by rw [mcl_len]; exact e)]
      rfl
    · rw [if_neg (by omega), List.getElem?_append_right (by rw [mcl_len]; omega), List.getElem?_append_right (by rw [mcl_len]; omega), mcl_len, mcl_len]
  | d :: r, k + 1, x, h => fun j => by
    rw [List.set_cons_succ, fm, fm]
    by_cases e : j < 13
    · rw [if_neg (by omega), List.getElem?_append_left (by rw [mcl_len]; exact e), List.getElem?_append_left (by rw [mcl_len]; exact e)]
    · rw [List.getElem?_append_right (by rw [mcl_len]; omega), List.getElem?_append_right (by rw [mcl_len]; omega), mcl_len, fm_set r k x (by simpa using h) (j - 13)]
      by_cases e2 : k * 13 ≤ j - 13 ∧ j - 13 < k * 13 + 13
      · rw [if_pos e2, if_pos (by omega), show j - 13 - k * 13 = j - (k + 1) * 13 by omega]
      · rw [if_neg e2, if_neg (by omega)]
theorem RG.setk {w : World} {g off cap n k : Nat} {ds : List (Ms × Value)} (h : RG w 39 13 (.slice (some ⟨g, off, none⟩) n cap) n (fm ds)) (hn : ds.length = n) (hk : k < n) (x : Ms × Value) : RG (w.setCells g (off + k * 13) (mcl x.1 x.2)) 39 13 (.slice (some ⟨g, off, none⟩) n cap) n (fm (ds.set k x)) := by
  obtain ⟨ao', cap', e, h1, h2⟩ := h.form
  simp only [Value.slice.injEq, true_and] at e
  obtain ⟨rfl, rfl⟩ := e
  rcases h2 with ⟨h2, _⟩ | ⟨g', off', cur, e, hB, hs, hc⟩
  · cases h2
  simp only [Option.some.injEq, Addr.mk.injEq, and_true] at e
  obtain ⟨rfl, rfl⟩ := e
  have hcz : off + k * 13 + (mcl x.1 x.2).length ≤ cur.size := by rw [mcl_len]; omega
  refine ⟨by rw [fm_len, List.length_set, hn], ⟨_, _, rfl, h1, .inr ⟨g, off, _, rfl, hB.stores _ _, by rw [sets'_size]; exact hs, fun j c hj => ?_⟩⟩⟩
  rw [fm_set ds k x (by omega) j] at hj
  rw [sets'_get _ _ _ _ hcz, mcl_len]
  by_cases e : k * 13 ≤ j ∧ j < k * 13 + 13
  · rw [if_pos e] at hj
    rw [if_pos (by omega), show off + j - (off + k * 13) = j - k * 13 by omega]
    exact hj
  · rw [if_neg e] at hj
    rw [if_neg (by omega)]
    exact hc j c hj
theorem RG.therek {w : World} {g off cap n k : Nat} {cs : List Value} (h : RG w 39 13 (.slice (some ⟨g, off, none⟩) n cap) n cs) (hk : k < n) : w.there g (off + k * 13) 13 := by
  obtain ⟨ao', cap', e, h1, h2⟩ := h.form
  simp only [Value.slice.injEq, true_and] at e
  obtain ⟨rfl, rfl⟩ := e
  rcases h2 with ⟨h2, _⟩ | ⟨g', off', cur, e, hB, hs, hc⟩
  · cases h2
  simp only [Option.some.injEq, Addr.mk.injEq, and_true] at e
  obtain ⟨rfl, rfl⟩ := e
  exact hB.there (by omega)
theorem RG.atk {w : World} {g off cap n k : Nat} {ds : List (Ms × Value)} (h : RG w 39 13 (.slice (some ⟨g, off, none⟩) n cap) n (fm ds)) (hk : k < n) {x : Ms × Value} (hx : ds[k]? = some x) : w.rangeAt g (off + k * 13) (mcl x.1 x.2) := fun t c ht => by
  obtain ⟨g', off', cap', e, hr⟩ := h.range (by omega)
  simp only [Value.slice.injEq, Option.some.injEq, Addr.mk.injEq, and_true, true_and] at e
  obtain ⟨⟨rfl, rfl⟩, rfl⟩ := e
  have := hr (k * 13 + t) c (fm_get ds k x hx t c ht)
  rwa [← Nat.add_assoc] at this
/-- Two of a list exchanged. -/
theorem perm_swap {α : Type} {l : List α} {i j : Nat} {x y : α} (hi : l[i]? = some x) (hj : l[j]? = some y) : ((l.set i y).set j x).Perm l := by
  obtain ⟨h1, e1⟩ := List.getElem?_eq_some_iff.1 hi
  obtain ⟨h2, e2⟩ := List.getElem?_eq_some_iff.1 hj
  subst e1 e2
  exact List.set_set_perm h1 h2
/-- Numbers added one by one. -/
def insL (S : Int → Bool) (l : List Int) : Int → Bool := l.foldl ins S
theorem insL_app (S : Int → Bool) (l : List Int) (z : Int) : insL S (l ++ [z]) = ins (insL S l) z := by simp [insL, List.foldl_append]
theorem insL_iff : ∀ (l : List Int) (S : Int → Bool) (x : Int), insL S l x = true ↔ S x = true ∨ x ∈ l
  | [], S, x => by simp [insL]
  | z :: l, S, x => by
    have := insL_iff l (ins S z) x
    unfold insL at this ⊢
    rw [List.foldl_cons, this]
    simp only [ins, Bool.or_eq_true, beq_iff_eq, List.mem_cons]
    constructor
    · rintro ((h | h) | h)
      · exact .inl h
      · exact .inr (.inl h)
      · exact .inr (.inr h)
    · rintro (h | h | h)
      · exact .inl (.inl h)
      · exact .inl (.inr h)
      · exact .inr h
/-- All that one has, or is sent to it, is what any has. -/
theorem all_have {H : List Int} {lN t i : Nat} (hi : i < t) {zs : List Int} (hz : ∀ x, x ∈ zs ↔ ∃ u, u < t ∧ (lN : Int) < x ∧ sB (bN H lN u) 40 x = true) {l : List Int} (hl : ∀ x, x ∈ l ↔ x ∈ zs) : insL (sB (bN H lN i) 40) l = sB (aN H lN t) 40 := by
  funext x
  rw [Bool.eq_iff_iff, insL_iff, hl, hz]
  simp only [sB, Bool.and_eq_true, decide_eq_true_eq, aN_bit]
  constructor
  · rintro (⟨h1, h2⟩ | ⟨u, h1, h2, h3, h4⟩)
    · exact ⟨h1, i, hi, h2⟩
    · exact ⟨h3, u, h1, h4⟩
  · rintro ⟨h1, u, h2, h3⟩
    by_cases e : x ≤ (lN : Int)
    · exact .inl ⟨h1, bN_low (by omega)⟩
    · exact .inr ⟨u, h2, by omega, h1, h3⟩
theorem Ws.more {w : World} {v : Value} {n : Nat} {P : Nat → Nat} {X : Nat → Nat → Prop} {S : Nat → Int → Bool} {c c' b : Nat} (h : Ws w v n P X S c b) (hc : c ≤ c') : Ws w v n P X S c' b :=
  ⟨h.row, fun i hi => by
    obtain ⟨a, hh, hw⟩ := h.win i hi
    exact ⟨a, hh, hw.le hc⟩, h.dis, h.rx, h.sb, h.new, h.vb⟩
theorem Ws.same {w : World} {v : Value} {n : Nat} {P : Nat → Nat} {X : Nat → Nat → Prop} {S S' : Nat → Int → Bool} {c b : Nat} (h : Ws w v n P X S c b) (hs : ∀ i, i < n → S i = S' i) : Ws w v n P X S' c b :=
  ⟨h.row, fun i hi => by
    obtain ⟨a, hh, hw⟩ := h.win i hi
    exact ⟨a, hh, hs i hi ▸ hw⟩, h.dis, h.rx, fun i hi k hk => h.sb i hi k (by rw [hs i hi]; exact hk), h.new, h.vb⟩
theorem sq_old (z : Int) : (oldm (onR 2 1 z)).sq = z := rfl
end Go.Proofs.Ythiijonmnebjgaa
