/- A window, plain: its gaps, its numbers above one; Put with one form of answer. Conditions: sizes that a slice of bytes has; as many data as a map can have. -/
import Derived.Test.YtampdkbcijdpcaaYd
namespace Go.Proofs.Ytampdkbcijdpcaa
open Go.RowKit Go.Maps
/-- Numbers from 1 to t that are not there. -/
def fil (J : Int → Option Dt) : Nat → List Int
  | 0 => []
  | t + 1 => if (J ((t : Int) + 1)).isSome = true then fil J t else fil J t ++ [(t : Int) + 1]
theorem fil_all {J : Int → Option Dt} : ∀ t : Nat, (∀ k, 1 ≤ k → k ≤ (t : Int) → (J k).isSome = true) → fil J t = []
  | 0, _ => rfl
  | t + 1, h => by
    rw [fil, if_pos (h _ (by omega) (by omega))]
    exact fil_all t fun k h1 h2 => h k h1 (by omega)
theorem fil_pre {J : Int → Option Dt} (s : Nat) : ∀ t, s ≤ t → fil J s <+: fil J t
  | 0, h => by obtain rfl : s = 0 := by omega
               exact List.prefix_refl _
  | t + 1, h => by
    rcases Nat.lt_or_ge s (t + 1) with h1 | h1
    · have := fil_pre (J := J) s t (by omega)
      rw [fil]
      split
      · exact this
      · exact this.trans (List.prefix_append _ _)
    · obtain rfl : s = t + 1 := by omega
      exact List.prefix_refl _
theorem fil_take {J : Int → Option Dt} {s t m : Nat} (h : s ≤ t) (hl : (fil J s).length = m) : (fil J t).take m = fil J s := by
  obtain ⟨r, hr⟩ := fil_pre (J := J) s t h
  rw [← hr, ← hl, List.take_left']
  rfl
theorem fil_congr {J J' : Int → Option Dt} (h : ∀ k, (J k).isSome = (J' k).isSome) : ∀ t, fil J t = fil J' t
  | 0 => rfl
  | t + 1 => by rw [fil, fil, h, fil_congr h t]
theorem fil_i64 {J : Int → Option Dt} : ∀ t : Nat, ∀ x ∈ fil J t, 1 ≤ x ∧ x ≤ (t : Int)
  | 0 => by simp [fil]
  | t + 1 => fun x hx => by
    rw [fil] at hx
    split at hx
    · have := fil_i64 t x hx; omega
    · rcases List.mem_append.1 hx with hx | hx
      · have := fil_i64 t x hx; omega
      · simp at hx; omega
/-- The numbers above s, rising. -/
structure Ks (J : Int → Option Dt) (s : Int) (zs : List Int) : Prop where
  up : zs.Pairwise (· < ·)
  mem : ∀ x, x ∈ zs ↔ (s < x ∧ (J x).isSome = true)
theorem sorted_eq : ∀ {a b : List Int}, a.Pairwise (· < ·) → b.Pairwise (· < ·) → (∀ x, x ∈ a ↔ x ∈ b) → a = b
  | [], [], _, _, _ => rfl
  | [], y :: r, _, _, h => by have := (h y).2 (by simp); simp at this
  | x :: r, [], _, _, h => by have := (h x).1 (by simp); simp at this
  | x :: r, y :: t, ha, hb, h => by
    rw [List.pairwise_cons] at ha hb
    have e : x = y := by
      rcases List.mem_cons.1 ((h x).1 (by simp)) with e | hx
      · exact e
      · rcases List.mem_cons.1 ((h y).2 (by simp)) with e | hy
        · exact e.symm
        · have := hb.1 x hx; have := ha.1 y hy; omega
    subst e
    have e2 : r = t := sorted_eq ha.2 hb.2 fun z => by
      constructor
      · intro hz
        rcases List.mem_cons.1 ((h z).1 (by simp [hz])) with e | hz'
        · subst e; have := ha.1 z hz; omega
        · exact hz'
      · intro hz
        rcases List.mem_cons.1 ((h z).2 (by simp [hz])) with e | hz'
        · subst e; have := hb.1 z hz; omega
        · exact hz'
    rw [e2]
theorem Ks.uniq {J J' : Int → Option Dt} {s : Int} {a b : List Int} (ha : Ks J s a) (hb : Ks J' s b) (h : ∀ k, (J k).isSome = (J' k).isSome) : a = b := sorted_eq ha.up hb.up fun x => by rw [ha.mem, hb.mem, h]
theorem Ks.sort {J : Int → Option Dt} {s : Int} {zs : List Int} (hn : zs.Nodup) (hm : ∀ x, x ∈ zs ↔ (s < x ∧ (J x).isSome = true)) : Ks J s (zs.mergeSort fun x y => decide (x ≤ y)) := by
  have hp := List.mergeSort_perm zs (fun x y => decide (x ≤ y))
  have hs := List.pairwise_mergeSort (le := fun x y : Int => decide (x ≤ y)) (fun a b c h1 h2 => by simp only [decide_eq_true_eq] at *; omega) (fun a b => by simp only [Bool.or_eq_true, decide_eq_true_eq]; omega) zs
  have hnd : (zs.mergeSort fun x y => decide (x ≤ y)).Nodup := hp.nodup_iff.2 hn
  refine ⟨?_, fun x => by rw [hp.mem_iff, hm]⟩
  have := hs.and hnd
  refine this.imp fun {a b} h => ?_
  have h1 : a ≤ b := by simpa using h.1
  have h2 : a ≠ b := h.2
  omega
/-- Put, of all data. -/
theorem Put_any {w : World} {p : Nat} {X : Nat → Prop} {J : Int → Option Dt} {a h : Int} {n : Nat} (hw : Wn w p X J a h n) (d : Dt) (v : Value) (hs : Sl w v d.m.body) (hb : d.m.body.length ≤ 140737488355328) (hN : n < 1000000000000) :
    Calls Try.prog 9 #[.pointer (some ⟨p, 0, none⟩), dv d v] w fun e w' => ∃ X' a', e = .returned (.tuple #[.bool (pF J d), .int .i64 (pE d)]) ∧ Wn w' p X' (pJ J d) a' (pH J h d) (n + 1) ∧ a ≤ a' ∧ Mod X w w' ∧ Gone w X X' := by
  obtain ⟨ao, cap, rfl⟩ := hs.shape
  have more : ∀ w', Wn w' p X J a h n → Wn w' p X J a h (n + 1) := fun w' hw' => by
    obtain ⟨B, V, N, h1, h2, h3, h4, h5⟩ := hw'.mem.blk
    exact ⟨⟨⟨B, V, N, h1, h2, by omega, h4, h5⟩, hw'.mem.px, hw'.mem.lt⟩, hw'.wp⟩
  by_cases ho : okP d = true
  · by_cases hJ : (J d.n).isSome = true
    · refine (Put_there hw d ao cap ho hJ).mono ?_
      rintro e w' ⟨rfl, hm⟩
      refine ⟨X, a, by simp [pF, pE, ho, hJ], ?_, Int.le_refl _, hm.none, fun i hi => .inl hi⟩
      rw [show pJ J d = J by simp [pJ, pF, ho, hJ], show pH J h d = h by simp [pH, pF, ho, hJ]]
      exact more w' (hw.keep hm)
    · have hJ' : (J d.n).isSome = false := by simpa using hJ
      refine (Put_new hw d ao cap hs hb ho hN hJ').mono ?_
      rintro e w' ⟨X', a', rfl, h1, h2, h3, h4⟩
      have hJ2 : J d.n = none := by simpa using hJ
      refine ⟨X', a', by simp [pF, pE, ho, hJ2], ?_, h2, h3, h4⟩
      rw [show pJ J d = upd J d.n (some d) by simp [pJ, pF, ho, hJ2], show pH J h d = max h d.n by simp [pH, pF, ho, hJ2]]
      exact h1
  · have ho' : okP d = false := by simpa using ho
    refine (wPut_bad hw d ao cap ho').mono ?_
    rintro e w' ⟨rfl, hm⟩
    refine ⟨X, a, by simp [pF, pE, ho'], ?_, Int.le_refl _, hm.none, fun i hi => .inl hi⟩
    rw [show pJ J d = J by simp [pJ, pF, ho'], show pH J h d = h by simp [pH, pF, ho']]
    exact more w' (hw.keep hm)
end Go.Proofs.Ytampdkbcijdpcaa
