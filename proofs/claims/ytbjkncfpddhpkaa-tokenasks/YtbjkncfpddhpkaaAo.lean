/- Whether a number is in a list; the library's search of any length. Conditions: sizes that a slice has. -/
import Derived.Test.YtbjkncfpddhpkaaAi
namespace Go.Proofs.Ytbjkncfpddhpkaa
open Go.RowKit
theorem bs_le (v : Value) (l : List Int) (x : Int) (w : World) (h : Aw w v l) (hl : l.length ≤ 140737488355328) (hs : l.Pairwise (· ≤ ·)) :
    Calls Try.prog 35 #[v, .int .i64 x] w fun e w' => e = .returned (.tuple #[.int .i64 (l.countP (· < x) : Nat), .bool (l.contains x)]) ∧ ∃ q, w' = w.drewN q := by
  obtain ⟨ao, cap, rfl, h1, h2, h3, h4⟩ := h
  cases ao with
  | none =>
    obtain rfl := h3 rfl
    obtain rfl : l = [] := List.eq_nil_of_length_eq_zero (by omega)
    refine (Any.slices_BinarySearch_int_empty lays25 none 0 x w).mono ?_
    rintro e w' ⟨rfl, rfl⟩
    exact ⟨rfl, 0, rfl⟩
  | some a =>
    obtain ⟨g, cur, rfl, hg, hcs, hcc⟩ := h4 a rfl
    have hk := Any.slices_BinarySearch_int lays25 g 0 l.length cap l x w (Nat.le_refl _) (by omega) (fun j hj => by rw [(Bk.mk hg : Bk w g 3 cur).cell, Nat.zero_add, hcc j hj]) (by rw [List.take_length]; exact hs)
    rw [List.take_length] at hk
    exact hk
theorem contains_no {l : List Int} {n : Int} (h : ∀ j, j < l.length → l.getD j 0 ≠ n) : l.contains n = false := by
  cases hc : l.contains n with
  | false => rfl
  | true =>
    have hm : n ∈ l := by simpa using hc
    obtain ⟨j, hj, e⟩ := List.getElem_of_mem hm
    have := h j hj
    rw [List.getD_eq_getElem?_getD, List.getElem?_eq_getElem hj] at this
    exact absurd e this
theorem contains_yes {l : List Int} {n : Int} {j : Nat} (hj : j < l.length) (h : l.getD j 0 = n) : l.contains n = true := by
  rw [List.getD_eq_getElem?_getD, List.getElem?_eq_getElem hj] at h
  have : n ∈ l := by
    rw [← h]
    exact List.getElem_mem hj
  simpa using this
set_option maxRecDepth 100000 in
/-- has: whether a number is in a list. -/
theorem has_any (v : Value) (l : List Int) (n : Int) (w : World) (hs : Cr.Sl w v l) (hl : l.length ≤ 140737488355328) : Calls Try.prog 20 #[v, .int .i64 n] w fun e w' => e = .returned (.bool (l.contains n)) ∧ w' = w := by
  obtain ⟨ao, cap, rfl, _, _, _, hc⟩ := hs
  have HC : Hid (l ≠ [] → ∃ b off, ao = some ⟨b, off, none⟩ ∧ ∀ j, j < l.length → w.cell? ⟨b, off + j, none⟩ = some (.int .i64 (l.getD j 0))) := hc
  have HL : Hid (l.length ≤ 140737488355328) := hl
  clear hc hl
  obtain ⟨r, hr⟩ : ∃ r, l.contains n = r := ⟨_, rfl⟩
  have HR : Hid (l.contains n = r) := hr
  rw [hr]
  clear hr
  go_enter Try.func20, Try.ntmps20
  go_wp2_with (fail)
  go_loop [5] (fun i => ∃ k : Nat, i = .int .i64 (k : Int) ∧ k ≤ l.length ∧ Hid (∀ j, j < k → l.getD j 0 ≠ n)) (fun i => l.length - (intOf i).toNat)
  case atStart => exact ⟨0, rfl, Nat.zero_le _, fun j hj => by omega⟩
  case round =>
    obtain ⟨k, rfl, hk, hno⟩ := hrel
    by_cases hlt : k < l.length
    · have hlt' : (k : Int) < (l.length : Int) := by omega
      have hk0 : (0 : Int) ≤ (k : Int) := by omega
      obtain ⟨b, off, rfl, hcs⟩ := HC.out (by intro e; rw [e] at hlt; simp at hlt)
      have ck := hcs k hlt
      have HLT : Hid (k < l.length) := hlt
      obtain ⟨x, hx⟩ : ∃ x, l.getD k 0 = x := ⟨_, rfl⟩
      have HX : Hid (l.getD k 0 = x) := hx
      rw [hx] at ck
      have hkb : (k : Int) ≤ 140737488355328 := by have := HL.out; omega
      clear hcs hx hlt
      by_cases e : x = n
      · have eb : (x == n) = true := by simp [e]
        have HE : Hid (true = r) := by show _ = _; rw [← HR.out, contains_yes HLT.out (HX.out.trans e)]
        clear e
        go_wp2_with (fail)
        go_ret
        have h := HE.out
        subst h
        exact ⟨rfl, rfl⟩
      · have eb : (x == n) = false := by simp [e]
        have HNO : Hid (∀ j, j < k + 1 → l.getD j 0 ≠ n) := fun j hj => by
          rcases Nat.lt_or_ge j k with h1 | h1
          · exact hno.out j h1
          · obtain rfl : j = k := by omega
            rw [HX.out]
            exact e
        clear e
        go_wp2_with (fail)
        go_roundw
        case rel => exact ⟨k + 1, by go_num, HLT.out, HNO⟩
        case measure =>
          have := HLT.out
          simp [intOf]
          omega
    · have hlt' : ¬ (k : Int) < (l.length : Int) := by omega
      have HE : Hid (false = r) := by
        show _ = _
        rw [← HR.out, contains_no]
        intro j hj
        exact hno.out j (by omega)
      go_wp2_with (fail)
      go_ret
      have h := HE.out
      subst h
      exact ⟨rfl, rfl⟩
end Go.Proofs.Ytbjkncfpddhpkaa
