/- Contract of a queue's Put: which answer, and what is in it then. No conditions beyond sizes that a slice has. -/
import Derived.Test.YtcedlpjjldmpfaaQc
import Derived.Deep.RegionHeld3
namespace Go.Proofs.Ytcedlpjjldmpfaa
open Go.RowKit
/-- Messages that lie elsewhere. -/
structure Far (S : Nat → Prop) (v : Value) (ds : List (Ms × Value)) : Prop where
  row : ds ≠ [] → ∀ b, v.ownBlock = some b → ¬ S b
  each : ∀ d ∈ ds, d.1.body ≠ [] → ∀ b, d.2.ownBlock = some b → ¬ S b
theorem Far.mono {S T : Nat → Prop} {v : Value} {ds : List (Ms × Value)} (h : Far S v ds) (k : ∀ b, T b → S b) : Far T v ds := ⟨fun hne b hb hT => h.row hne b hb (k b hT), fun d hd hl b hb hT => h.each d hd hl b hb (k b hT)⟩
theorem Mgs.mod2 {S : Nat → Prop} {w w' : World} {v : Value} {ds : List (Ms × Value)} (h : Mgs w v ds) (hm : Mod S w w') (hv : Far S v ds) : Mgs w' v ds := by
  obtain ⟨ao, cap, rfl, h1, h2⟩ := h.form
  refine ⟨⟨ao, cap, rfl, h1, fun hne => ?_⟩, fun d hd => ⟨(h.each d hd).1.mod2 hm (fun hl b hb => hv.each d hd hl b hb), (h.each d hd).2⟩⟩
  obtain ⟨b, off, rfl, hc⟩ := h2 hne
  exact ⟨b, off, rfl, fun i d hd => range_mod (hc i d hd) hm (hv.row hne b rfl)⟩
/-- What Put answers. -/
def pE (L : List Ms) (ds : List (Ms × Value)) : Int := if bd ds = true then 2 else if 32 < L.length + ds.length then 7 else 0
def pL (L : List Ms) (ds : List (Ms × Value)) : List Ms := if pE L ds = 0 then L ++ ds.map (·.1) else L
/-- A queue with one message more. -/
theorem Qx.push {w w' : World} {q : Nat} {X : Nat → Prop} {L : List Ms} {xs : Array Value} {f : Nat} {V : Nat → Value} (h : Qx w q X L xs f V) {m : Ms} {v : Value} {s : Nat} (hs : s = (f + L.length) % 32) (hL : L.length < 32)
    (hB : Bk w' q 53 ((sets' xs (1 + s * 13) (mcl m v)).setIfInBounds 418 (.int .i64 ((L.length + 1 : Nat) : Int)))) (ho : Own w' v m.body) (hr : ∀ c ∈ m.body, 0 ≤ c ∧ c ≤ 255) (hm : Mod (fun b => b = q) w w') (hv : ∀ b, v.ownBlock = some b → w.heap.size ≤ b) :
    Qx w' q (fun b => X b ∨ v.ownBlock = some b) (L ++ [m]) ((sets' xs (1 + s * 13) (mcl m v)).setIfInBounds 418 (.int .i64 ((L.length + 1 : Nat) : Int))) f (fun i => if i = L.length then v else V i) := by
  have h32 : s < 32 := by rw [hs]; exact Nat.mod_lt _ (by decide)
  have hget : ∀ j, ((sets' xs (1 + s * 13) (mcl m v)).setIfInBounds 418 (.int .i64 ((L.length + 1 : Nat) : Int)))[j]? = if j = 418 then some (.int .i64 ((L.length + 1 : Nat) : Int)) else if 1 + s * 13 ≤ j ∧ j < 1 + s * 13 + 13 then (mcl m v)[j - (1 + s * 13)]? else xs[j]? := fun j => by
    rw [Array.getElem?_setIfInBounds]
    by_cases e : j = 418
    · subst e
      rw [if_pos rfl, if_pos rfl, sets'_size, h.size, if_pos (by decide)]
    · rw [if_neg (fun h => e h.symm), if_neg e, sets'_get _ _ _ _ (by rw [mcl_len, h.size]; omega), mcl_len]
  have hne : ∀ i, i < L.length → (f + i) % 32 ≠ s := fun i hi => by rw [hs]; have := h.l32; omega
  have hbq : ∀ i m', L[i]? = some m' → ∀ b, (V i).ownBlock = some b → b ≠ q := fun i m' hi b hb => ((h.own i m' hi).2.2 b hb).2
  have hil : ∀ {i m'}, (L ++ [m])[i]? = some m' → (i < L.length ∧ L[i]? = some m') ∨ (i = L.length ∧ m' = m) := fun {i m'} hi => by
    by_cases e : i < L.length
    · rw [List.getElem?_append_left e] at hi
      exact .inl ⟨e, hi⟩
    · rw [List.getElem?_append_right (by omega)] at hi
      have : i - L.length = 0 := by
        rcases Nat.eq_zero_or_pos (i - L.length) with h' | h'
        · exact h'
        · rw [List.getElem?_eq_none (by simp; omega)] at hi; cases hi
      rw [this] at hi
      simp at hi
      exact .inr ⟨by omega, hi.symm⟩
  refine ⟨hB, by rw [Array.size_setIfInBounds, sets'_size, h.size], ?_, ?_, ?_, h.f32, by rw [List.length_append]; simp; omega, ?_, ?_, ?_, .inl h.inX, ?_⟩
  · rw [hget, if_neg (by decide), if_neg (by omega)]; exact h.made
  · rw [hget, if_neg (by decide), if_neg (by omega)]; exact h.first
  · rw [hget, if_pos rfl]; simp
  · intro i m' hi j c hj
    have hj13 := mcl_lt hj
    rcases hil hi with ⟨e, hi'⟩ | ⟨e, rfl⟩
    · rw [if_neg (by omega)] at hj
      have e2 := hne i e
      have e3 : (f + i) % 32 < 32 := Nat.mod_lt _ (by decide)
      rw [hget, if_neg (by omega), if_neg (by omega)]
      exact h.cells i m' hi' j c hj
    · rw [if_pos e] at hj
      rw [e, ← hs, hget, if_neg (by omega), if_pos (by omega), show 1 + s * 13 + j - (1 + s * 13) = j by omega]
      exact hj
  · intro i m' hi
    rcases hil hi with ⟨e, hi'⟩ | ⟨e, rfl⟩
    · simp only [if_neg (show ¬ i = L.length by omega)]
      obtain ⟨a1, a2, a3⟩ := h.own i m' hi'
      exact ⟨a1.mod hm (fun b hb e => (a3 b hb).2 e), a2, fun b hb => ⟨.inl (a3 b hb).1, (a3 b hb).2⟩⟩
    · simp only [if_pos e]
      exact ⟨ho, hr, fun b hb => ⟨.inr hb, fun e => by have := hv b hb; have := h.blk.lt; omega⟩⟩
  · intro i k hi hk hne' b hb
    simp only [List.length_append, List.length_cons, List.length_nil] at hi hk
    have old : ∀ i, i < L.length → ∀ b, (V i).ownBlock = some b → b < w.heap.size := fun i hi b hb => h.lt b ((h.own i L[i] (List.getElem?_eq_getElem hi)).2.2 b hb).1
    by_cases e1 : i = L.length
    · rw [if_pos e1] at hb
      rw [if_neg (by omega)]
      intro hb2
      have := hv b hb
      have := old k (by omega) b hb2
      omega
    · rw [if_neg e1] at hb
      by_cases e2 : k = L.length
      · rw [if_pos e2]
        intro hb2
        have := hv b hb2
        have := old i (by omega) b hb
        omega
      · rw [if_neg e2]
        exact h.apart i k (by omega) (by omega) hne' b hb
  · rintro b (hb | hb)
    · exact Nat.lt_of_lt_of_le (h.lt b hb) hm.size
    · exact ho.lt b hb
theorem Put_bad {w : World} {q : Nat} {X : Nat → Prop} {L : List Ms} (h : Qu w q X L) (va : Value) (ds : List (Ms × Value)) (hD : Mgs w va ds) (hb : bd ds = true) : Calls Try.prog 10 #[.pointer (some ⟨q, 0, none⟩), va] w fun e w' => e = .returned (.int .i64 2) ∧ Mod (fun _ => False) w w' := by
  obtain ⟨xs, f, V, h⟩ := h
  have c0 := h.c0
  clear h
  have HC := contains_any va ds w hD
  rw [hb] at HC
  obtain ⟨av, cv, rfl, hlen, hfm⟩ := hD.form
  clear hfm hD hb
  go_enter Try.func10, Try.ntmps10
  go_wp2_with (first | (go_at_call 25; refine (isNone_q c0).mono ?_; rintro e w' ⟨rfl, rfl⟩))
  refine HC.mono ?_
  rintro e w1 ⟨rfl, hm1⟩
  go_wp2
  go_ret
  exact ⟨rfl, hm1⟩
theorem Put_full {w : World} {q : Nat} {X : Nat → Prop} {L : List Ms} (h : Qu w q X L) (va : Value) (ds : List (Ms × Value)) (hD : Mgs w va ds) (hb : bd ds = false) (hf : 32 < L.length + ds.length) : Calls Try.prog 10 #[.pointer (some ⟨q, 0, none⟩), va] w fun e w' => e = .returned (.int .i64 7) ∧ Mod (fun _ => False) w w' := by
  have HQ : Hid (Qu w q X L) := h
  obtain ⟨xs, f, V, h⟩ := h
  have c0 := h.c0
  clear h
  have HC := contains_any va ds w hD
  rw [hb] at HC
  obtain ⟨av, cv, rfl, hlen, hfm⟩ := hD.form
  clear hfm hD hb
  have hf2 : 32 - (L.length : Int) < (ds.length : Int) := by omega
  go_enter Try.func10, Try.ntmps10
  go_wp2_with (first | (go_at_call 25; refine (isNone_q c0).mono ?_; rintro e w' ⟨rfl, rfl⟩))
  refine HC.mono ?_
  rintro e w1 ⟨rfl, hm1⟩
  have HR := Room_q (HQ.out.mod hm1 (fun _ _ h => h))
  go_wp2_with (fail)
  refine HR.mono ?_
  rintro e w1 ⟨rfl, rfl⟩
  go_wp2
  go_ret
  exact ⟨rfl, hm1⟩
end Go.Proofs.Ytcedlpjjldmpfaa
