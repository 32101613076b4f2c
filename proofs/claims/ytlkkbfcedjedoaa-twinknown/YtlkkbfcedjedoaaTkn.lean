/- TwinKnown: the chapter's examples, both ends, what may not be, twins that are none. No conditions. -/
import Derived.Test.YtlkkbfcedjedoaaTkp
import Derived.Deep.DeepCutAuto
namespace Go.Proofs.Ytlkkbfcedjedoaa
open Go.RowKit
def a1 (k : Nat) : Int × Int × Int × Int := ([(0, 1, 1, 2), (9, 1, 1, 2), (1, 0, 1, 2), (1, 9007199254740992, 1, 2), (1, 1, 0, 2), (1, 1, 4, 2), (8, 9007199254740991, 3, 0), (1, (-1), 1, 2)] : List (Int × Int × Int × Int)).getD k (0, 0, 0, 0)
theorem a1_c : ∀ k, k < 8 → (#[.int .i64 0, .int .i64 1, .int .i64 1, .int .i64 2, .int .i64 9, .int .i64 1, .int .i64 1, .int .i64 2, .int .i64 1, .int .i64 0, .int .i64 1, .int .i64 2, .int .i64 1, .int .i64 9007199254740992, .int .i64 1, .int .i64 2, .int .i64 1, .int .i64 1, .int .i64 0, .int .i64 2, .int .i64 1, .int .i64 1, .int .i64 4, .int .i64 2, .int .i64 8, .int .i64 9007199254740991, .int .i64 3, .int .i64 0, .int .i64 1, .int .i64 (-1), .int .i64 1, .int .i64 2] : Array Value)[k * 4]? = some (.int .i64 (a1 k).1) ∧ (#[.int .i64 0, .int .i64 1, .int .i64 1, .int .i64 2, .int .i64 9, .int .i64 1, .int .i64 1, .int .i64 2, .int .i64 1, .int .i64 0, .int .i64 1, .int .i64 2, .int .i64 1, .int .i64 9007199254740992, .int .i64 1, .int .i64 2, .int .i64 1, .int .i64 1, .int .i64 0, .int .i64 2, .int .i64 1, .int .i64 1, .int .i64 4, .int .i64 2, .int .i64 8, .int .i64 9007199254740991, .int .i64 3, .int .i64 0, .int .i64 1, .int .i64 (-1), .int .i64 1, .int .i64 2] : Array Value)[k * 4 + 1]? = some (.int .i64 (a1 k).2.1) ∧ (#[.int .i64 0, .int .i64 1, .int .i64 1, .int .i64 2, .int .i64 9, .int .i64 1, .int .i64 1, .int .i64 2, .int .i64 1, .int .i64 0, .int .i64 1, .int .i64 2, .int .i64 1, .int .i64 9007199254740992, .int .i64 1, .int .i64 2, .int .i64 1, .int .i64 1, .int .i64 0, .int .i64 2, .int .i64 1, .int .i64 1, .int .i64 4, .int .i64 2, .int .i64 8, .int .i64 9007199254740991, .int .i64 3, .int .i64 0, .int .i64 1, .int .i64 (-1), .int .i64 1, .int .i64 2] : Array Value)[k * 4 + 2]? = some (.int .i64 (a1 k).2.2.1) ∧ (#[.int .i64 0, .int .i64 1, .int .i64 1, .int .i64 2, .int .i64 9, .int .i64 1, .int .i64 1, .int .i64 2, .int .i64 1, .int .i64 0, .int .i64 1, .int .i64 2, .int .i64 1, .int .i64 9007199254740992, .int .i64 1, .int .i64 2, .int .i64 1, .int .i64 1, .int .i64 0, .int .i64 2, .int .i64 1, .int .i64 1, .int .i64 4, .int .i64 2, .int .i64 8, .int .i64 9007199254740991, .int .i64 3, .int .i64 0, .int .i64 1, .int .i64 (-1), .int .i64 1, .int .i64 2] : Array Value)[k * 4 + 3]? = some (.int .i64 (a1 k).2.2.2) := fun k hk => by
  obtain rfl | rfl | rfl | rfl | rfl | rfl | rfl | rfl : k = 0 ∨ k = 1 ∨ k = 2 ∨ k = 3 ∨ k = 4 ∨ k = 5 ∨ k = 6 ∨ k = 7 := by omega
  all_goals exact ⟨rfl, rfl, rfl, rfl⟩
theorem a1_bad : ∀ k, k < 8 → k ≠ 6 → (a1 k).2.2.2 = 2 ∧ (okF (a1 k).1 (a1 k).2.1 1 0 = false ∨ (a1 k).2.2.1 < 1 ∨ 3 < (a1 k).2.2.1) := fun k hk h6 => by
  obtain rfl | rfl | rfl | rfl | rfl | rfl | rfl | rfl : k = 0 ∨ k = 1 ∨ k = 2 ∨ k = 3 ∨ k = 4 ∨ k = 5 ∨ k = 6 ∨ k = 7 := by omega
  all_goals first | exact absurd rfl h6 | (refine ⟨rfl, ?_⟩; decide +kernel)
theorem madeU (n : Nat) : madeCells (Value.int .u8 0).cells (n * 1) = (U (List.replicate n 0)).toArray := by
  apply Array.ext
  · rw [size_madeCells]; simp [U]
  · intro k h1 h2
    simp [madeCells, Value.cells, U, Nat.mod_one]
theorem mkz (n : Nat) (hn : n ≤ 1000) (W : World) : (Instr.makeSlice 22 (.int .i64 (n : Int)) (.int .i64 (n : Int))).run Try.prog W = .ok (.slice (some ⟨W.heap.size, 0, none⟩) n n) (W.alloc (.cells (U (List.replicate n 0)).toArray 5)) := by
  obtain ⟨i0, hi, hz0, hz1, hz2⟩ := info_parts info5
  have h := run_make (P := Try.prog) W 22 5 i0 (.int .u8 0) Try.underlying22 hi hz0 .i64 .i64 (n : Int) (n : Int) (by omega) (by omega) (by rw [hz2]; omega) (by omega)
  rw [hz1, Int.toNat_natCast, madeU] at h
  rw [h]
theorem zeros_sl (n m : Nat) (hm : m ≤ n) (hn : n ≤ 1000) (w : World) : Sl (w.alloc (.cells (U (List.replicate n 0)).toArray 5)) (.slice (some ⟨w.heap.size, 0, none⟩) m n) (List.replicate m 0) := by
  have h := Sl.lit w (List.replicate n 0) (by rw [List.length_replicate]; unfold maxLen; omega) (fun c hc => by rw [List.eq_of_mem_replicate hc]; omega)
  refine ⟨⟨some ⟨w.heap.size, 0, none⟩, n, by rw [List.length_replicate], by rw [List.length_replicate]; omega, by unfold maxLen; omega, (by intro e; cases e), fun _ => ⟨w.heap.size, 0, rfl, fun j hj => ?_⟩⟩, fun c hc => by rw [List.eq_of_mem_replicate hc]; omega⟩
  rw [List.length_replicate] at hj
  obtain ⟨ao, cap, e, _, _, _, h4⟩ := h.form
  obtain ⟨b, off, ea, hc⟩ := h4 (fun e => by have := congrArg List.length e; rw [List.length_replicate] at this; simp at this; omega)
  cases e
  cases ea
  have := hc j (by rw [List.length_replicate]; omega)
  rw [this]
  simp [List.getD_eq_getElem?_getD, hj, show j < n by omega]
/-- 513 octets, all 0. -/
def Z5 : Array Value := (U (List.replicate 513 0)).toArray
theorem mk513 (W : World) : (Instr.makeSlice 22 (.int .i64 513) (.int .i64 513)).run Try.prog W = .ok (.slice (some ⟨W.heap.size, 0, none⟩) 513 513) (W.alloc (.cells Z5 5)) := mkz 513 (by omega) W
theorem long1 (w : World) : Sl (w.alloc (.cells Z5 5)) (.slice (some ⟨w.heap.size, 0, none⟩) 513 513) (List.replicate 513 0) := zeros_sl 513 513 (by omega) (by omega) w
theorem long2 (w : World) : Sl (w.alloc (.cells Z5 5)) (.slice (some ⟨w.heap.size, 0, none⟩) 512 513) (List.replicate 512 0) := zeros_sl 513 512 (by omega) (by omega) w
def f1n (k : Nat) : Int × Int × Int := ([(1, 1, 1), (0, 0, 0), (9, 1, 1), (1, 0, 1), (1, 1, 0), (1, 1, 9007199254740992), (1, 1, 1)] : List (Int × Int × Int)).getD k (0, 0, 0)
def f1v (vL vS : Value) (k : Nat) : Value := ([vL, vL, .slice none 0 0, .slice none 0 0, .slice none 0 0, .slice none 0 0, vS] : List Value).getD k (.slice none 0 0)
def f1b (k : Nat) : List Int := ([List.replicate 513 0, List.replicate 513 0, [], [], [], [], List.replicate 512 0] : List (List Int)).getD k []
def f1e (k : Nat) : Int := ([5, 5, 2, 2, 2, 2, 0] : List Int).getD k 0
theorem f1_c (vL vS : Value) : ∀ k, k < 7 → (#[.int .i64 1, .int .i64 1, .int .i64 1, vL, .int .i64 0, .int .i64 0, .int .i64 0, vL, .int .i64 9, .int .i64 1, .int .i64 1, .slice none 0 0, .int .i64 1, .int .i64 0, .int .i64 1, .slice none 0 0, .int .i64 1, .int .i64 1, .int .i64 0, .slice none 0 0, .int .i64 1, .int .i64 1, .int .i64 9007199254740992, .slice none 0 0, .int .i64 1, .int .i64 1, .int .i64 1, vS] : Array Value)[k * 4]? = some (.int .i64 (f1n k).1) ∧ (#[.int .i64 1, .int .i64 1, .int .i64 1, vL, .int .i64 0, .int .i64 0, .int .i64 0, vL, .int .i64 9, .int .i64 1, .int .i64 1, .slice none 0 0, .int .i64 1, .int .i64 0, .int .i64 1, .slice none 0 0, .int .i64 1, .int .i64 1, .int .i64 0, .slice none 0 0, .int .i64 1, .int .i64 1, .int .i64 9007199254740992, .slice none 0 0, .int .i64 1, .int .i64 1, .int .i64 1, vS] : Array Value)[k * 4 + 1]? = some (.int .i64 (f1n k).2.1) ∧ (#[.int .i64 1, .int .i64 1, .int .i64 1, vL, .int .i64 0, .int .i64 0, .int .i64 0, vL, .int .i64 9, .int .i64 1, .int .i64 1, .slice none 0 0, .int .i64 1, .int .i64 0, .int .i64 1, .slice none 0 0, .int .i64 1, .int .i64 1, .int .i64 0, .slice none 0 0, .int .i64 1, .int .i64 1, .int .i64 9007199254740992, .slice none 0 0, .int .i64 1, .int .i64 1, .int .i64 1, vS] : Array Value)[k * 4 + 2]? = some (.int .i64 (f1n k).2.2) ∧ (#[.int .i64 1, .int .i64 1, .int .i64 1, vL, .int .i64 0, .int .i64 0, .int .i64 0, vL, .int .i64 9, .int .i64 1, .int .i64 1, .slice none 0 0, .int .i64 1, .int .i64 0, .int .i64 1, .slice none 0 0, .int .i64 1, .int .i64 1, .int .i64 0, .slice none 0 0, .int .i64 1, .int .i64 1, .int .i64 9007199254740992, .slice none 0 0, .int .i64 1, .int .i64 1, .int .i64 1, vS] : Array Value)[k * 4 + 3]? = some (f1v vL vS k) ∧ (#[.int .i64 5, .int .i64 5, .int .i64 2, .int .i64 2, .int .i64 2, .int .i64 2, .int .i64 0] : Array Value)[k]? = some (.int .i64 (f1e k)) := fun k hk => by
  obtain rfl | rfl | rfl | rfl | rfl | rfl | rfl : k = 0 ∨ k = 1 ∨ k = 2 ∨ k = 3 ∨ k = 4 ∨ k = 5 ∨ k = 6 := by omega
  all_goals exact ⟨rfl, rfl, rfl, rfl, rfl⟩
theorem f1_e : ∀ k, k < 7 → paE (f1n k).1 (f1n k).2.1 (f1n k).2.2 (f1b k) = f1e k := fun k hk => by
  obtain rfl | rfl | rfl | rfl | rfl | rfl | rfl : k = 0 ∨ k = 1 ∨ k = 2 ∨ k = 3 ∨ k = 4 ∨ k = 5 ∨ k = 6 := by omega
  all_goals decide +kernel
theorem f1_s {w : World} {vL vS : Value} (hL : Sl w vL (List.replicate 513 0)) (hS : Sl w vS (List.replicate 512 0)) : ∀ k, k < 7 → Sl w (f1v vL vS k) (f1b k) := fun k hk => by
  have hn : Sl w (.slice none 0 0) [] := (Own.nil w).sl (by simp)
  obtain rfl | rfl | rfl | rfl | rfl | rfl | rfl : k = 0 ∨ k = 1 ∨ k = 2 ∨ k = 3 ∨ k = 4 ∨ k = 5 ∨ k = 6 := by omega
  · exact hL
  · exact hL
  · exact hn
  · exact hn
  · exact hn
  · exact hn
  · exact hS
/-- Sealed one behind the other. -/
structure Sg (w0 w : World) (L : List (Value × List Int)) : Prop where
  s : SS w L
  m : Mod (fun _ => False) w0 w
theorem Sg.keep {w0 w w' : World} {L : List (Value × List Int)} (h : Sg w0 w L) (hm : Mod (fun _ => False) w w') : Sg w0 w' L := ⟨h.s.keep hm, h.m.and hm⟩
theorem Sg.lit {w0 w : World} {L : List (Value × List Int)} (h : Sg w0 w L) (l : List Int) (hm : l.length ≤ maxLen) (hr : ∀ c ∈ l, 0 ≤ c ∧ c ≤ 255) : Sg w0 (w.alloc (.cells (U l).toArray 5)) (L ++ [(.slice (some ⟨w.heap.size, 0, none⟩) l.length l.length, l)]) :=
  ⟨(h.s.keep ((Mod.refl _ w).alloc _)).app (Sl.lit w l hm hr), h.m.alloc _⟩
theorem Sg.seal0 {w0 w : World} {L : List (Value × List Int)} (h : Sg w0 w L) : Calls Try.prog 31 #[.slice none 0 0] w fun e w' => ∃ v', e = .returned v' ∧ Sg w0 w' (L ++ [(v', Sm.sealed [])]) ∧ (∃ ao n c, v' = .slice ao n c) := by
  refine (Sm.Seal_any _ [] w ((Own.nil w).sl (by simp)) (by simp)).mono ?_
  rintro e w' ⟨v', rfl, ho, hm, _⟩
  have hs := ho.sl (Sm.sealed_rng (by simp))
  obtain ⟨ao, cap, e, _⟩ := hs.form
  exact ⟨v', rfl, ⟨(h.s.keep hm).app hs, h.m.and hm⟩, _, _, _, e⟩
theorem Sg.seal {w0 w : World} {L : List (Value × List Int)} (h : Sg w0 w L) (l : List Int) (hl : l.length ≤ 100) (hr : ∀ c ∈ l, 0 ≤ c ∧ c ≤ 255) : Calls Try.prog 31 #[.slice (some ⟨w.heap.size, 0, none⟩) l.length l.length] (w.alloc (.cells (U l).toArray 5)) fun e w' => ∃ v', e = .returned v' ∧ Sg w0 w' (L ++ [(v', Sm.sealed l)]) ∧ (∃ ao n c, v' = .slice ao n c) := by
  have hm0 := (Mod.refl (fun _ => False) w).alloc (.cells (U l).toArray 5)
  refine (Sm.Seal_any _ l _ (Sl.lit w l (by simp only [maxLen]; omega) hr) (by omega)).mono ?_
  rintro e w' ⟨v', rfl, ho, hm, _⟩
  have hs := ho.sl (Sm.sealed_rng hr)
  obtain ⟨ao, cap, e, _⟩ := hs.form
  exact ⟨v', rfl, ⟨(h.s.keep (hm0.and hm)).app hs, h.m.and (hm0.and hm)⟩, _, _, _, e⟩
def b1 (k : Nat) : List Int := ([[1, 2, 3], [1, 2, 3, 4], Sm.sealed [], Sm.sealed [1, 2], Sm.sealed [1, 2, 3, 1], Sm.sealed [1, 2, 3, 0], Sm.sealed [1, 2, 3, 0, 0], Sm.sealed [0, 2, 3, 0], Sm.sealed [9, 2, 3, 0], Sm.sealed [1, 0, 3, 0], Sm.sealed [1, 2, 0, 0], Sm.sealed [1, 128, 0, 3, 0], Sm.sealed [1, 2, 3, 129, 4]] : List (List Int)).getD k []
def b1e (k : Nat) : Int := ([3, 60, 3, 3, 3, 0, 4, 4, 4, 4, 4, 4, 5] : List Int).getD k 0
theorem b1_e : ∀ k, k < 13 → opE (b1 k) = b1e k := fun k hk => by
  obtain rfl | rfl | rfl | rfl | rfl | rfl | rfl | rfl | rfl | rfl | rfl | rfl | rfl : k = 0 ∨ k = 1 ∨ k = 2 ∨ k = 3 ∨ k = 4 ∨ k = 5 ∨ k = 6 ∨ k = 7 ∨ k = 8 ∨ k = 9 ∨ k = 10 ∨ k = 11 ∨ k = 12 := by omega
  all_goals decide +kernel
theorem b1_len : ∀ k, k < 13 → (b1 k).length ≤ 100 := fun k hk => by
  obtain rfl | rfl | rfl | rfl | rfl | rfl | rfl | rfl | rfl | rfl | rfl | rfl | rfl : k = 0 ∨ k = 1 ∨ k = 2 ∨ k = 3 ∨ k = 4 ∨ k = 5 ∨ k = 6 ∨ k = 7 ∨ k = 8 ∨ k = 9 ∨ k = 10 ∨ k = 11 ∨ k = 12 := by omega
  all_goals decide +kernel
theorem b1_c : ∀ k, k < 13 → (#[.int .i64 3, .int .i64 60, .int .i64 3, .int .i64 3, .int .i64 3, .int .i64 0, .int .i64 4, .int .i64 4, .int .i64 4, .int .i64 4, .int .i64 4, .int .i64 4, .int .i64 5] : Array Value)[k]? = some (.int .i64 (b1e k)) := fun k hk => by
  obtain rfl | rfl | rfl | rfl | rfl | rfl | rfl | rfl | rfl | rfl | rfl | rfl | rfl : k = 0 ∨ k = 1 ∨ k = 2 ∨ k = 3 ∨ k = 4 ∨ k = 5 ∨ k = 6 ∨ k = 7 ∨ k = 8 ∨ k = 9 ∨ k = 10 ∨ k = 11 ∨ k = 12 := by omega
  all_goals rfl
/-- The frames and errors of the second list. -/
structure FB (w0 w : World) (q : Nat) : Prop where
  b1 : Bk w (q + 1) 24 #[.int .i64 1, .int .i64 1, .int .i64 1, .slice (some ⟨q, 0, none⟩) 513 513, .int .i64 0, .int .i64 0, .int .i64 0, .slice (some ⟨q, 0, none⟩) 513 513, .int .i64 9, .int .i64 1, .int .i64 1, .slice none 0 0, .int .i64 1, .int .i64 0, .int .i64 1, .slice none 0 0, .int .i64 1, .int .i64 1, .int .i64 0, .slice none 0 0, .int .i64 1, .int .i64 1, .int .i64 9007199254740992, .slice none 0 0, .int .i64 1, .int .i64 1, .int .i64 1, .slice (some ⟨q, 0, none⟩) 512 513]
  b2 : Bk w (q + 1 + 1) 26 #[.int .i64 5, .int .i64 5, .int .i64 2, .int .i64 2, .int .i64 2, .int .i64 2, .int .i64 0]
  s1 : Sl w (.slice (some ⟨q, 0, none⟩) 513 513) (List.replicate 513 0)
  s2 : Sl w (.slice (some ⟨q, 0, none⟩) 512 513) (List.replicate 512 0)
  m : Mod (fun _ => False) w0 w
theorem FB.keep {w0 w w' : World} {q : Nat} (h : FB w0 w q) (hm : Mod (fun _ => False) w w') : FB w0 w' q :=
  ⟨h.b1.mod hm (fun h => h), h.b2.mod hm (fun h => h), h.s1.mod hm (fun _ _ h => h), h.s2.mod hm (fun _ _ h => h), h.m.and hm⟩
theorem FB.new {w0 w : World} (hm : Mod (fun _ => False) w0 w) : FB w0 (((w.alloc (.cells Z5 5)).alloc (.cells #[.int .i64 1, .int .i64 1, .int .i64 1, .slice (some ⟨w.heap.size, 0, none⟩) 513 513, .int .i64 0, .int .i64 0, .int .i64 0, .slice (some ⟨w.heap.size, 0, none⟩) 513 513, .int .i64 9, .int .i64 1, .int .i64 1, .slice none 0 0, .int .i64 1, .int .i64 0, .int .i64 1, .slice none 0 0, .int .i64 1, .int .i64 1, .int .i64 0, .slice none 0 0, .int .i64 1, .int .i64 1, .int .i64 9007199254740992, .slice none 0 0, .int .i64 1, .int .i64 1, .int .i64 1, .slice (some ⟨w.heap.size, 0, none⟩) 512 513] 24)).alloc (.cells #[.int .i64 5, .int .i64 5, .int .i64 2, .int .i64 2, .int .i64 2, .int .i64 2, .int .i64 0] 26)) w.heap.size := by
  have m1 := (Mod.refl (fun _ => False) (w.alloc (.cells Z5 5))).alloc (.cells #[.int .i64 1, .int .i64 1, .int .i64 1, .slice (some ⟨w.heap.size, 0, none⟩) 513 513, .int .i64 0, .int .i64 0, .int .i64 0, .slice (some ⟨w.heap.size, 0, none⟩) 513 513, .int .i64 9, .int .i64 1, .int .i64 1, .slice none 0 0, .int .i64 1, .int .i64 0, .int .i64 1, .slice none 0 0, .int .i64 1, .int .i64 1, .int .i64 0, .slice none 0 0, .int .i64 1, .int .i64 1, .int .i64 9007199254740992, .slice none 0 0, .int .i64 1, .int .i64 1, .int .i64 1, .slice (some ⟨w.heap.size, 0, none⟩) 512 513] 24)
  have m2 := (Mod.refl (fun _ => False) ((w.alloc (.cells Z5 5)).alloc (.cells #[.int .i64 1, .int .i64 1, .int .i64 1, .slice (some ⟨w.heap.size, 0, none⟩) 513 513, .int .i64 0, .int .i64 0, .int .i64 0, .slice (some ⟨w.heap.size, 0, none⟩) 513 513, .int .i64 9, .int .i64 1, .int .i64 1, .slice none 0 0, .int .i64 1, .int .i64 0, .int .i64 1, .slice none 0 0, .int .i64 1, .int .i64 1, .int .i64 0, .slice none 0 0, .int .i64 1, .int .i64 1, .int .i64 9007199254740992, .slice none 0 0, .int .i64 1, .int .i64 1, .int .i64 1, .slice (some ⟨w.heap.size, 0, none⟩) 512 513] 24))).alloc (.cells #[.int .i64 5, .int .i64 5, .int .i64 2, .int .i64 2, .int .i64 2, .int .i64 2, .int .i64 0] 26)
  refine ⟨(Bk.new2 w _ _ _).mod m2 (fun h => h), ?_, (long1 w).mod (m1.and m2) (fun _ _ h => h), (long2 w).mod (m1.and m2) (fun _ _ h => h), ((hm.alloc _).and m1).and m2⟩
  have := Bk.new ((w.alloc (.cells Z5 5)).alloc (.cells #[.int .i64 1, .int .i64 1, .int .i64 1, .slice (some ⟨w.heap.size, 0, none⟩) 513 513, .int .i64 0, .int .i64 0, .int .i64 0, .slice (some ⟨w.heap.size, 0, none⟩) 513 513, .int .i64 9, .int .i64 1, .int .i64 1, .slice none 0 0, .int .i64 1, .int .i64 0, .int .i64 1, .slice none 0 0, .int .i64 1, .int .i64 1, .int .i64 0, .slice none 0 0, .int .i64 1, .int .i64 1, .int .i64 9007199254740992, .slice none 0 0, .int .i64 1, .int .i64 1, .int .i64 1, .slice (some ⟨w.heap.size, 0, none⟩) 512 513] 24)) #[.int .i64 5, .int .i64 5, .int .i64 2, .int .i64 2, .int .i64 2, .int .i64 2, .int .i64 0] 26
  rwa [show ((w.alloc (.cells Z5 5)).alloc (.cells #[.int .i64 1, .int .i64 1, .int .i64 1, .slice (some ⟨w.heap.size, 0, none⟩) 513 513, .int .i64 0, .int .i64 0, .int .i64 0, .slice (some ⟨w.heap.size, 0, none⟩) 513 513, .int .i64 9, .int .i64 1, .int .i64 1, .slice none 0 0, .int .i64 1, .int .i64 0, .int .i64 1, .slice none 0 0, .int .i64 1, .int .i64 1, .int .i64 0, .slice none 0 0, .int .i64 1, .int .i64 1, .int .i64 9007199254740992, .slice none 0 0, .int .i64 1, .int .i64 1, .int .i64 1, .slice (some ⟨w.heap.size, 0, none⟩) 512 513] 24)).heap.size = w.heap.size + 1 + 1 by simp] at this
theorem FB.row {w0 w : World} {q : Nat} (h : FB w0 w q) (k : Nat) (hk : k < 7) : w.cell? ⟨q + 1, k * 4, none⟩ = some (.int .i64 (f1n k).1) ∧ w.cell? ⟨q + 1, k * 4 + 1, none⟩ = some (.int .i64 (f1n k).2.1) ∧ w.cell? ⟨q + 1, k * 4 + 2, none⟩ = some (.int .i64 (f1n k).2.2) ∧ w.cell? ⟨q + 1, k * 4 + 3, none⟩ = some (f1v (.slice (some ⟨q, 0, none⟩) 513 513) (.slice (some ⟨q, 0, none⟩) 512 513) k) ∧ w.cell? ⟨q + 1 + 1, k, none⟩ = some (.int .i64 (f1e k)) ∧ Sl w (f1v (.slice (some ⟨q, 0, none⟩) 513 513) (.slice (some ⟨q, 0, none⟩) 512 513) k) (f1b k) := by
  obtain ⟨r0, r1, r2, r3, r4⟩ := f1_c (.slice (some ⟨q, 0, none⟩) 513 513) (.slice (some ⟨q, 0, none⟩) 512 513) k hk
  exact ⟨h.b1.cellv r0, h.b1.cellv r1, h.b1.cellv r2, h.b1.cellv r3, h.b2.cellv r4, f1_s h.s1 h.s2 k hk⟩
set_option maxRecDepth 100000 in
set_option maxHeartbeats 20000000 in
theorem known_walk (w : World) : Calls Try.prog 9 #[] w fun e w' => e = .returned (.bool true) ∧ Mod (fun _ => False) w w' := by
  go_enter Try.func9, Try.ntmps9
  go_wp2_with (fail)
  have HM0 : Hid (Mod (fun _ => False) w (w.alloc (.cells #[.int .i64 0, .int .i64 1, .int .i64 1, .int .i64 2, .int .i64 9, .int .i64 1, .int .i64 1, .int .i64 2, .int .i64 1, .int .i64 0, .int .i64 1, .int .i64 2, .int .i64 1, .int .i64 9007199254740992, .int .i64 1, .int .i64 2, .int .i64 1, .int .i64 1, .int .i64 0, .int .i64 2, .int .i64 1, .int .i64 1, .int .i64 4, .int .i64 2, .int .i64 8, .int .i64 9007199254740991, .int .i64 3, .int .i64 0, .int .i64 1, .int .i64 (-1), .int .i64 1, .int .i64 2] 63))) := (Mod.refl _ w).alloc _
  have HF0 : Hid (Bk (w.alloc (.cells #[.int .i64 0, .int .i64 1, .int .i64 1, .int .i64 2, .int .i64 9, .int .i64 1, .int .i64 1, .int .i64 2, .int .i64 1, .int .i64 0, .int .i64 1, .int .i64 2, .int .i64 1, .int .i64 9007199254740992, .int .i64 1, .int .i64 2, .int .i64 1, .int .i64 1, .int .i64 0, .int .i64 2, .int .i64 1, .int .i64 1, .int .i64 4, .int .i64 2, .int .i64 8, .int .i64 9007199254740991, .int .i64 3, .int .i64 0, .int .i64 1, .int .i64 (-1), .int .i64 1, .int .i64 2] 63)) w.heap.size 63 #[.int .i64 0, .int .i64 1, .int .i64 1, .int .i64 2, .int .i64 9, .int .i64 1, .int .i64 1, .int .i64 2, .int .i64 1, .int .i64 0, .int .i64 1, .int .i64 2, .int .i64 1, .int .i64 9007199254740992, .int .i64 1, .int .i64 2, .int .i64 1, .int .i64 1, .int .i64 0, .int .i64 2, .int .i64 1, .int .i64 1, .int .i64 4, .int .i64 2, .int .i64 8, .int .i64 9007199254740991, .int .i64 3, .int .i64 0, .int .i64 1, .int .i64 (-1), .int .i64 1, .int .i64 2]) := Bk.new w _ _
  generalize w.alloc (.cells #[.int .i64 0, .int .i64 1, .int .i64 1, .int .i64 2, .int .i64 9, .int .i64 1, .int .i64 1, .int .i64 2, .int .i64 1, .int .i64 0, .int .i64 1, .int .i64 2, .int .i64 1, .int .i64 9007199254740992, .int .i64 1, .int .i64 2, .int .i64 1, .int .i64 1, .int .i64 0, .int .i64 2, .int .i64 1, .int .i64 1, .int .i64 4, .int .i64 2, .int .i64 8, .int .i64 9007199254740991, .int .i64 3, .int .i64 0, .int .i64 1, .int .i64 (-1), .int .i64 1, .int .i64 2] 63) = w1 at *
  obtain ⟨q1, hq1⟩ : ∃ q1, q1 = w.heap.size := ⟨_, rfl⟩
  rw [← hq1] at HF0 ⊢
  clear hq1
  go_loopw [59] (fun i wr => ∃ k : Nat, i = .int .i64 (k : Int) ∧ k ≤ 8 ∧ Hid (Bk wr q1 63 #[.int .i64 0, .int .i64 1, .int .i64 1, .int .i64 2, .int .i64 9, .int .i64 1, .int .i64 1, .int .i64 2, .int .i64 1, .int .i64 0, .int .i64 1, .int .i64 2, .int .i64 1, .int .i64 9007199254740992, .int .i64 1, .int .i64 2, .int .i64 1, .int .i64 1, .int .i64 0, .int .i64 2, .int .i64 1, .int .i64 1, .int .i64 4, .int .i64 2, .int .i64 8, .int .i64 9007199254740991, .int .i64 3, .int .i64 0, .int .i64 1, .int .i64 (-1), .int .i64 1, .int .i64 2] ∧ Mod (fun _ => False) w wr)) (fun i _ => 8 - (intOf i).toNat)
  case atStart => exact ⟨0, rfl, by omega, HF0.out, HM0.out⟩
  case round =>
    clear HF0 HM0
    obtain ⟨k, rfl, hk, HH⟩ := hrel
    by_cases hk8 : k < 8
    · have hki : (k : Int) < 8 := by omega
      obtain ⟨r0, r1, r2, r3⟩ := a1_c k hk8
      have c0 := HH.out.1.cellv r0
      have c1 := HH.out.1.cellv r1
      have c2 := HH.out.1.cellv r2
      have c3 := HH.out.1.cellv r3
      clear r0 r1 r2 r3
      by_cases h6 : k = 6
      · subst h6
        have e0 : (a1 6).1 = 8 := rfl
        have e1 : (a1 6).2.1 = 9007199254740991 := rfl
        have e2 : (a1 6).2.2.1 = 3 := rfl
        have e3 : (a1 6).2.2.2 = 0 := rfl
        rw [e0] at c0
        rw [e1] at c1
        rw [e2] at c2
        rw [e3] at c3
        clear e0 e1 e2 e3
        have hA := (Mod.refl (fun _ => False) wr).alloc (.cells #[.int .i64 8, .int .i64 9007199254740991, .int .i64 3, .int .i64 0] 63)
        have HZ : Hid (Bk (wr.alloc (.cells #[.int .i64 8, .int .i64 9007199254740991, .int .i64 3, .int .i64 0] 63)) wr.heap.size 63 #[.int .i64 8, .int .i64 9007199254740991, .int .i64 3, .int .i64 0]) := Bk.new wr _ _
        have HH1 : Hid (Bk (wr.alloc (.cells #[.int .i64 8, .int .i64 9007199254740991, .int .i64 3, .int .i64 0] 63)) q1 63 #[.int .i64 0, .int .i64 1, .int .i64 1, .int .i64 2, .int .i64 9, .int .i64 1, .int .i64 1, .int .i64 2, .int .i64 1, .int .i64 0, .int .i64 1, .int .i64 2, .int .i64 1, .int .i64 9007199254740992, .int .i64 1, .int .i64 2, .int .i64 1, .int .i64 1, .int .i64 0, .int .i64 2, .int .i64 1, .int .i64 1, .int .i64 4, .int .i64 2, .int .i64 8, .int .i64 9007199254740991, .int .i64 3, .int .i64 0, .int .i64 1, .int .i64 (-1), .int .i64 1, .int .i64 2] ∧ Mod (fun _ => False) w (wr.alloc (.cells #[.int .i64 8, .int .i64 9007199254740991, .int .i64 3, .int .i64 0] 63))) := ⟨HH.out.1.mod hA (fun h => h), HH.out.2.and hA⟩
        clear hA HH
        go_wp2_with (fail)
        refine (tNew_ok 8 9007199254740991 3 true _ rfl ⟨by omega, by omega⟩).mono ?_
        rintro e w2 ⟨pp, X, rfl, _, hm2, _⟩
        have z2 := (Bk.mod (S := fun _ => False) HZ.out hm2 (fun h => h)).cellv (j := 3) (v := .int .i64 0) rfl
        have HH2 : Hid (Bk w2 q1 63 #[.int .i64 0, .int .i64 1, .int .i64 1, .int .i64 2, .int .i64 9, .int .i64 1, .int .i64 1, .int .i64 2, .int .i64 1, .int .i64 0, .int .i64 1, .int .i64 2, .int .i64 1, .int .i64 9007199254740992, .int .i64 1, .int .i64 2, .int .i64 1, .int .i64 1, .int .i64 0, .int .i64 2, .int .i64 1, .int .i64 1, .int .i64 4, .int .i64 2, .int .i64 8, .int .i64 9007199254740991, .int .i64 3, .int .i64 0, .int .i64 1, .int .i64 (-1), .int .i64 1, .int .i64 2] ∧ Mod (fun _ => False) w w2) := ⟨HH1.out.1.mod hm2 (fun h => h), HH1.out.2.and hm2⟩
        clear hm2 HZ HH1 c0 c1 c2 c3
        go_wp2_with (fail)
        go_roundw
        case rel => exact ⟨6 + 1, by go_num, by omega, HH2.out⟩
        case measure => simp [intOf]
      · obtain ⟨e3, hbad⟩ := a1_bad k hk8 h6
        rw [e3] at c3
        generalize (a1 k).1 = s at *
        generalize (a1 k).2.1 = p at *
        generalize (a1 k).2.2.1 = c at *
        have hA := (Mod.refl (fun _ => False) wr).alloc (.cells #[.int .i64 s, .int .i64 p, .int .i64 c, .int .i64 2] 63)
        have HZ : Hid (Bk (wr.alloc (.cells #[.int .i64 s, .int .i64 p, .int .i64 c, .int .i64 2] 63)) wr.heap.size 63 #[.int .i64 s, .int .i64 p, .int .i64 c, .int .i64 2]) := Bk.new wr _ _
        have HH1 : Hid (Bk (wr.alloc (.cells #[.int .i64 s, .int .i64 p, .int .i64 c, .int .i64 2] 63)) q1 63 #[.int .i64 0, .int .i64 1, .int .i64 1, .int .i64 2, .int .i64 9, .int .i64 1, .int .i64 1, .int .i64 2, .int .i64 1, .int .i64 0, .int .i64 1, .int .i64 2, .int .i64 1, .int .i64 9007199254740992, .int .i64 1, .int .i64 2, .int .i64 1, .int .i64 1, .int .i64 0, .int .i64 2, .int .i64 1, .int .i64 1, .int .i64 4, .int .i64 2, .int .i64 8, .int .i64 9007199254740991, .int .i64 3, .int .i64 0, .int .i64 1, .int .i64 (-1), .int .i64 1, .int .i64 2] ∧ Mod (fun _ => False) w (wr.alloc (.cells #[.int .i64 s, .int .i64 p, .int .i64 c, .int .i64 2] 63))) := ⟨HH.out.1.mod hA (fun h => h), HH.out.2.and hA⟩
        have HBD : Hid (okF s p 1 0 = false ∨ c < 1 ∨ 3 < c) := hbad
        clear hA HH hbad e3 h6
        go_wp2_with (fail)
        refine (tNew_bad s p c true _ HBD.out).mono ?_
        rintro e w2 ⟨rfl, hm2⟩
        have z2 := (Bk.mod (S := fun _ => False) HZ.out hm2 (fun h => h)).cellv (j := 3) (v := .int .i64 2) rfl
        have HH2 : Hid (Bk w2 q1 63 #[.int .i64 0, .int .i64 1, .int .i64 1, .int .i64 2, .int .i64 9, .int .i64 1, .int .i64 1, .int .i64 2, .int .i64 1, .int .i64 0, .int .i64 1, .int .i64 2, .int .i64 1, .int .i64 9007199254740992, .int .i64 1, .int .i64 2, .int .i64 1, .int .i64 1, .int .i64 0, .int .i64 2, .int .i64 1, .int .i64 1, .int .i64 4, .int .i64 2, .int .i64 8, .int .i64 9007199254740991, .int .i64 3, .int .i64 0, .int .i64 1, .int .i64 (-1), .int .i64 1, .int .i64 2] ∧ Mod (fun _ => False) w w2) := ⟨HH1.out.1.mod hm2 (fun h => h), HH1.out.2.and hm2⟩
        clear hm2 HZ HH1 c0 c1 c2 c3
        go_wp2_with (fail)
        go_roundw
        case rel => exact ⟨k + 1, by go_num, by omega, HH2.out⟩
        case measure => simp [intOf]; omega
    · have hki : ¬ (k : Int) < 8 := by omega
      obtain rfl : k = 8 := by omega
      have HMA : Hid (Mod (fun _ => False) w wr) := HH.out.2
      clear HH
      have hmk := mk513
      go_wp2
      have HFB : Hid (FB w _ _) := FB.new HMA.out
      generalize ((wr.alloc (.cells Z5 5)).alloc (.cells #[.int .i64 1, .int .i64 1, .int .i64 1, .slice (some ⟨wr.heap.size, 0, none⟩) 513 513, .int .i64 0, .int .i64 0, .int .i64 0, .slice (some ⟨wr.heap.size, 0, none⟩) 513 513, .int .i64 9, .int .i64 1, .int .i64 1, .slice none 0 0, .int .i64 1, .int .i64 0, .int .i64 1, .slice none 0 0, .int .i64 1, .int .i64 1, .int .i64 0, .slice none 0 0, .int .i64 1, .int .i64 1, .int .i64 9007199254740992, .slice none 0 0, .int .i64 1, .int .i64 1, .int .i64 1, .slice (some ⟨wr.heap.size, 0, none⟩) 512 513] 24)).alloc (.cells #[.int .i64 5, .int .i64 5, .int .i64 2, .int .i64 2, .int .i64 2, .int .i64 2, .int .i64 0] 26) = wl at *
      obtain ⟨q, hq⟩ : ∃ q, q = wr.heap.size := ⟨_, rfl⟩
      rw [← hq] at HFB ⊢
      clear hq HMA hmk
      go_loopw [8] (fun i wr => ∃ k : Nat, i = .int .i64 (k : Int) ∧ k ≤ 7 ∧ Hid (FB w wr q)) (fun i _ => 7 - (intOf i).toNat)
      case atStart => exact ⟨0, rfl, by omega, HFB.out⟩
      case round =>
        clear HFB
        obtain ⟨k, rfl, hk, HF⟩ := hrel
        by_cases hk7 : k < 7
        · have hki : (k : Int) < 7 := by omega
          obtain ⟨c0, c1, c2, c3, ce, hsl⟩ := HF.out.row k hk7
          have hpe := f1_e k hk7
          generalize (f1n k).1 = s at *
          generalize (f1n k).2.1 = p at *
          generalize (f1n k).2.2 = c at *
          generalize f1v (.slice (some ⟨q, 0, none⟩) 513 513) (.slice (some ⟨q, 0, none⟩) 512 513) k = v at *
          generalize f1b k = B at *
          generalize f1e k = E at *
          have HP := Pack_any s p c v B wr hsl
          rw [hpe] at HP
          obtain ⟨ao, cap, rfl, _⟩ := hsl.form
          have hEE : (E != E) = false := by simp
          clear hpe hsl
          go_wp2_with (fail)
          refine HP.mono ?_
          rintro e w2 ⟨v', rfl, _, hm2, _⟩
          have ce2 := hm2.cell ce (fun h => h)
          have HF2 : Hid (FB w w2 q) := HF.out.keep hm2
          clear c0 c1 c2 c3 ce HP HF hm2
          go_wp2
          go_roundw
          case rel => exact ⟨k + 1, by go_num, by omega, HF2.out⟩
          case measure => simp [intOf]; omega
        · have hki : ¬ (k : Int) < 7 := by omega
          obtain rfl : k = 7 := by omega
          have HLG : Hid (Sl wr (.slice (some ⟨q, 0, none⟩) 513 513) (List.replicate 513 0)) := HF.out.s1
          have hG : Sg w wr [(.slice (some ⟨q, 0, none⟩) 513 513, List.replicate 513 0)] := ⟨(SS.nil wr).app HF.out.s1, HF.out.m⟩
          clear HF
          have hG1 := (hG.lit [1, 2, 3] (by simp [maxLen]) (by simp)).lit [1, 2, 3, 4] (by simp [maxLen]) (by simp)
          go_wp2_with (fail)
          refine hG1.seal0.mono ?_
          rintro e wn ⟨v3, rfl, hG, a3, m3, c3, rfl⟩
          clear hG1
          go_wp2_with (fail)
          refine (hG.seal [1, 2] (by simp) (by simp)).mono ?_
          clear hG
          rintro e wn ⟨v4, rfl, hG, a4, m4, c4, rfl⟩
          go_wp2_with (fail)
          refine (hG.seal [1, 2, 3, 1] (by simp) (by simp)).mono ?_
          clear hG
          rintro e wn ⟨v5, rfl, hG, a5, m5, c5, rfl⟩
          go_wp2_with (fail)
          refine (hG.seal [1, 2, 3, 0] (by simp) (by simp)).mono ?_
          clear hG
          rintro e wn ⟨v6, rfl, hG, a6, m6, c6, rfl⟩
          go_wp2_with (fail)
          refine (hG.seal [1, 2, 3, 0, 0] (by simp) (by simp)).mono ?_
          clear hG
          rintro e wn ⟨v7, rfl, hG, a7, m7, c7, rfl⟩
          go_wp2_with (fail)
          refine (hG.seal [0, 2, 3, 0] (by simp) (by simp)).mono ?_
          clear hG
          rintro e wn ⟨v8, rfl, hG, a8, m8, c8, rfl⟩
          go_wp2_with (fail)
          refine (hG.seal [9, 2, 3, 0] (by simp) (by simp)).mono ?_
          clear hG
          rintro e wn ⟨v9, rfl, hG, a9, m9, c9, rfl⟩
          go_wp2_with (fail)
          refine (hG.seal [1, 0, 3, 0] (by simp) (by simp)).mono ?_
          clear hG
          rintro e wn ⟨v10, rfl, hG, a10, m10, c10, rfl⟩
          go_wp2_with (fail)
          refine (hG.seal [1, 2, 0, 0] (by simp) (by simp)).mono ?_
          clear hG
          rintro e wn ⟨v11, rfl, hG, a11, m11, c11, rfl⟩
          go_wp2_with (fail)
          refine (hG.seal [1, 128, 0, 3, 0] (by simp) (by simp)).mono ?_
          clear hG
          rintro e wn ⟨v12, rfl, hG, a12, m12, c12, rfl⟩
          go_wp2_with (fail)
          refine (hG.seal [1, 2, 3, 129, 4] (by simp) (by simp)).mono ?_
          clear hG
          rintro e wn ⟨v13, rfl, hG, a13, m13, c13, rfl⟩
          go_wp2
          rw [show (wr.alloc (Obj.cells (U [1, 2, 3]).toArray 5)).heap.size = wr.heap.size + 1 by simp] at hG
          have HX : Hid (∀ W, Mod (fun _ => False) wn W → ∀ k, k < 13 → ∃ ao n c, (#[.slice (some ⟨wr.heap.size, 0, none⟩) 3 3, .slice (some ⟨wr.heap.size + 1, 0, none⟩) 4 4, .slice a3 m3 c3, .slice a4 m4 c4, .slice a5 m5 c5, .slice a6 m6 c6, .slice a7 m7 c7, .slice a8 m8 c8, .slice a9 m9 c9, .slice a10 m10 c10, .slice a11 m11 c11, .slice a12 m12 c12, .slice a13 m13 c13] : Array Value)[k]? = some (.slice ao n c) ∧ Sl W (.slice ao n c) (b1 k)) := fun W hW k hk => by
            have hs := (hG.keep hW).s
            unfold SS at hs
            simp only [List.cons_append, List.nil_append, List.forall_mem_cons] at hs
            obtain ⟨s0, s1, s2, s3, s4, s5, s6, s7, s8, s9, s10, s11, s12, s13, _⟩ := hs
            obtain rfl | rfl | rfl | rfl | rfl | rfl | rfl | rfl | rfl | rfl | rfl | rfl | rfl : k = 0 ∨ k = 1 ∨ k = 2 ∨ k = 3 ∨ k = 4 ∨ k = 5 ∨ k = 6 ∨ k = 7 ∨ k = 8 ∨ k = 9 ∨ k = 10 ∨ k = 11 ∨ k = 12 := by omega
            · exact ⟨_, _, _, rfl, s1⟩
            · exact ⟨_, _, _, rfl, s2⟩
            · exact ⟨_, _, _, rfl, s3⟩
            · exact ⟨_, _, _, rfl, s4⟩
            · exact ⟨_, _, _, rfl, s5⟩
            · exact ⟨_, _, _, rfl, s6⟩
            · exact ⟨_, _, _, rfl, s7⟩
            · exact ⟨_, _, _, rfl, s8⟩
            · exact ⟨_, _, _, rfl, s9⟩
            · exact ⟨_, _, _, rfl, s10⟩
            · exact ⟨_, _, _, rfl, s11⟩
            · exact ⟨_, _, _, rfl, s12⟩
            · exact ⟨_, _, _, rfl, s13⟩
          have HLL : Hid (∀ W, Mod (fun _ => False) wn W → Sl W (.slice (some ⟨q, 0, none⟩) 513 513) (List.replicate 513 0)) := fun W hW => by
            have hs := (hG.keep hW).s
            unfold SS at hs
            simp only [List.cons_append, List.nil_append, List.forall_mem_cons] at hs
            exact hs.1
          have HMN : Hid (Mod (fun _ => False) w wn) := hG.m
          have mA := (Mod.refl (fun _ => False) (wn.alloc (.cells #[.slice (some ⟨wr.heap.size, 0, none⟩) 3 3, .slice (some ⟨wr.heap.size + 1, 0, none⟩) 4 4, .slice a3 m3 c3, .slice a4 m4 c4, .slice a5 m5 c5, .slice a6 m6 c6, .slice a7 m7 c7, .slice a8 m8 c8, .slice a9 m9 c9, .slice a10 m10 c10, .slice a11 m11 c11, .slice a12 m12 c12, .slice a13 m13 c13] 22))).alloc (.cells #[.int .i64 3, .int .i64 60, .int .i64 3, .int .i64 3, .int .i64 3, .int .i64 0, .int .i64 4, .int .i64 4, .int .i64 4, .int .i64 4, .int .i64 4, .int .i64 4, .int .i64 5] 26)
          have HH0 : Hid (Bk ((wn.alloc (.cells #[.slice (some ⟨wr.heap.size, 0, none⟩) 3 3, .slice (some ⟨wr.heap.size + 1, 0, none⟩) 4 4, .slice a3 m3 c3, .slice a4 m4 c4, .slice a5 m5 c5, .slice a6 m6 c6, .slice a7 m7 c7, .slice a8 m8 c8, .slice a9 m9 c9, .slice a10 m10 c10, .slice a11 m11 c11, .slice a12 m12 c12, .slice a13 m13 c13] 22)).alloc (.cells #[.int .i64 3, .int .i64 60, .int .i64 3, .int .i64 3, .int .i64 3, .int .i64 0, .int .i64 4, .int .i64 4, .int .i64 4, .int .i64 4, .int .i64 4, .int .i64 4, .int .i64 5] 26)) wn.heap.size 22 #[.slice (some ⟨wr.heap.size, 0, none⟩) 3 3, .slice (some ⟨wr.heap.size + 1, 0, none⟩) 4 4, .slice a3 m3 c3, .slice a4 m4 c4, .slice a5 m5 c5, .slice a6 m6 c6, .slice a7 m7 c7, .slice a8 m8 c8, .slice a9 m9 c9, .slice a10 m10 c10, .slice a11 m11 c11, .slice a12 m12 c12, .slice a13 m13 c13] ∧ Bk ((wn.alloc (.cells #[.slice (some ⟨wr.heap.size, 0, none⟩) 3 3, .slice (some ⟨wr.heap.size + 1, 0, none⟩) 4 4, .slice a3 m3 c3, .slice a4 m4 c4, .slice a5 m5 c5, .slice a6 m6 c6, .slice a7 m7 c7, .slice a8 m8 c8, .slice a9 m9 c9, .slice a10 m10 c10, .slice a11 m11 c11, .slice a12 m12 c12, .slice a13 m13 c13] 22)).alloc (.cells #[.int .i64 3, .int .i64 60, .int .i64 3, .int .i64 3, .int .i64 3, .int .i64 0, .int .i64 4, .int .i64 4, .int .i64 4, .int .i64 4, .int .i64 4, .int .i64 4, .int .i64 5] 26)) (wn.heap.size + 1) 26 #[.int .i64 3, .int .i64 60, .int .i64 3, .int .i64 3, .int .i64 3, .int .i64 0, .int .i64 4, .int .i64 4, .int .i64 4, .int .i64 4, .int .i64 4, .int .i64 4, .int .i64 5] ∧ Mod (fun _ => False) wn ((wn.alloc (.cells #[.slice (some ⟨wr.heap.size, 0, none⟩) 3 3, .slice (some ⟨wr.heap.size + 1, 0, none⟩) 4 4, .slice a3 m3 c3, .slice a4 m4 c4, .slice a5 m5 c5, .slice a6 m6 c6, .slice a7 m7 c7, .slice a8 m8 c8, .slice a9 m9 c9, .slice a10 m10 c10, .slice a11 m11 c11, .slice a12 m12 c12, .slice a13 m13 c13] 22)).alloc (.cells #[.int .i64 3, .int .i64 60, .int .i64 3, .int .i64 3, .int .i64 3, .int .i64 0, .int .i64 4, .int .i64 4, .int .i64 4, .int .i64 4, .int .i64 4, .int .i64 4, .int .i64 5] 26))) := ⟨(Bk.new wn _ _).mod mA (fun h => h), Bk.new2 wn _ _ _, ((Mod.refl _ wn).alloc _).and mA⟩
          clear hG mA HLG
          obtain ⟨XX, hXX⟩ : ∃ X : Array Value, X = #[.slice (some ⟨wr.heap.size, 0, none⟩) 3 3, .slice (some ⟨wr.heap.size + 1, 0, none⟩) 4 4, .slice a3 m3 c3, .slice a4 m4 c4, .slice a5 m5 c5, .slice a6 m6 c6, .slice a7 m7 c7, .slice a8 m8 c8, .slice a9 m9 c9, .slice a10 m10 c10, .slice a11 m11 c11, .slice a12 m12 c12, .slice a13 m13 c13] := ⟨_, rfl⟩
          rw [← hXX] at HX HH0 ⊢
          clear hXX
          generalize (wn.alloc (.cells XX 22)).alloc (.cells #[.int .i64 3, .int .i64 60, .int .i64 3, .int .i64 3, .int .i64 3, .int .i64 0, .int .i64 4, .int .i64 4, .int .i64 4, .int .i64 4, .int .i64 4, .int .i64 4, .int .i64 5] 26) = wl at *
          obtain ⟨q4, hq4⟩ : ∃ q, q = wn.heap.size := ⟨_, rfl⟩
          rw [← hq4] at HH0 ⊢
          clear hq4
          go_loopw [13] (fun i wz => ∃ k : Nat, i = .int .i64 (k : Int) ∧ k ≤ 13 ∧ Hid (Bk wz q4 22 XX ∧ Bk wz (q4 + 1) 26 #[.int .i64 3, .int .i64 60, .int .i64 3, .int .i64 3, .int .i64 3, .int .i64 0, .int .i64 4, .int .i64 4, .int .i64 4, .int .i64 4, .int .i64 4, .int .i64 4, .int .i64 5] ∧ Mod (fun _ => False) wn wz)) (fun i _ => 13 - (intOf i).toNat)
          case atStart => exact ⟨0, rfl, by omega, HH0.out⟩
          case round =>
            clear HH0
            obtain ⟨k, rfl, hk, HH⟩ := hrel
            by_cases hk13 : k < 13
            · have hki : (k : Int) < 13 := by omega
              obtain ⟨ao, nn, c, hx, hs⟩ := HX.out _ HH.out.2.2 k hk13
              have c0 := HH.out.1.cellv hx
              have ce := HH.out.2.1.cellv (b1_c k hk13)
              have HO := tOpen_any _ (b1 k) _ hs (by have := b1_len k hk13; omega)
              have he := b1_e k hk13
              clear hx hs
              go_wp2_with (fail)
              refine HO.mono ?_
              rintro e w2 ⟨bv, rfl, hm2, ho2, _⟩
              rw [he]
              obtain ⟨a', c', rfl⟩ := ho2.shape
              clear ho2 he HO
              generalize (opB (b1 k)).length = lb at *
              generalize opN (b1 k) 0 = n0 at *
              generalize opN (b1 k) 1 = n1 at *
              generalize opN (b1 k) 2 = n2 at *
              generalize b1e k = E at *
              have hm3 := hm2.alloc (.cells #[.int .i64 n0, .int .i64 n1, .int .i64 n2, .slice a' lb c'] 24)
              have ce2 := hm3.cell ce (fun h => h)
              have HH2 : Hid (Bk (w2.alloc (.cells #[.int .i64 n0, .int .i64 n1, .int .i64 n2, .slice a' lb c'] 24)) q4 22 XX ∧ Bk (w2.alloc (.cells #[.int .i64 n0, .int .i64 n1, .int .i64 n2, .slice a' lb c'] 24)) (q4 + 1) 26 #[.int .i64 3, .int .i64 60, .int .i64 3, .int .i64 3, .int .i64 3, .int .i64 0, .int .i64 4, .int .i64 4, .int .i64 4, .int .i64 4, .int .i64 4, .int .i64 4, .int .i64 5] ∧ Mod (fun _ => False) wn (w2.alloc (.cells #[.int .i64 n0, .int .i64 n1, .int .i64 n2, .slice a' lb c'] 24))) := ⟨HH.out.1.mod hm3 (fun h => h), HH.out.2.1.mod hm3 (fun h => h), HH.out.2.2.and hm3⟩
              have hEE : (E != E) = false := by simp
              clear c0 ce hm2 hm3 HH
              go_wp2
              go_roundw
              case rel => exact ⟨k + 1, by go_num, by omega, HH2.out⟩
              case measure => simp [intOf]; omega
            · have hki : ¬ (k : Int) < 13 := by omega
              obtain rfl : k = 13 := by omega
              go_wp2_with (fail)
              obtain ⟨wd, hwd⟩ : ∃ W, W = wr := ⟨_, rfl⟩
              rw [← hwd] at HH ⊢
              clear hwd
              refine (ts_new wd wd (Mod.refl _ _)).mono ?_
              rintro e w2 ⟨t, rfl, hT⟩
              have HT : Hid (Ts wd w2 t ((2 + 0) % 3) 0) := hT
              have HMW : Hid (Mod (fun _ => False) wn wd) := HH.out.2.2
              clear hT HX HH
              go_wp2
              go_loopw [18, 19] (fun ov i wz => ∃ k : Nat, i = .int .i64 (k : Int) ∧ Ts wd wz t ((2 + k) % 3) k ∧ ((k = 0 ∧ ov = .int .i64 0) ∨ (k = 1 ∧ ov = .int .i64 1) ∨ (k = 2 ∧ ov = .int .i64 12) ∨ (k = 3 ∧ ov = .int .i64 124) ∨ (k = 4 ∧ ov = .int .i64 1241))) (fun _ i _ => 4 - (intOf i).toNat)
              case atStart => exact ⟨0, rfl, HT.out, .inl ⟨rfl, rfl⟩⟩
              case round =>
                clear HT
                obtain ⟨k, rfl, hT0, ⟨rfl, rfl⟩ | ⟨rfl, rfl⟩ | ⟨rfl, rfl⟩ | ⟨rfl, rfl⟩ | ⟨rfl, rfl⟩⟩ := hrel
                all_goals have hT : Hid _ := hT0
                all_goals clear hT0
                · have HW : Hid (Calls Try.prog 21 #[.pointer (some ⟨t, 0, none⟩), .slice none 0 0] wr fun e w' => ∃ v', e = .returned (.tuple #[v', .int .i64 1, .int .i64 0]) ∧ Ts wd w' t ((2 + 1) % 3) 1) := hT.out.wrap (by omega)
                  clear hT
                  go_wp2_with (fail)
                  refine HW.out.mono ?_
                  rintro e w3 ⟨vx, rfl, hT3⟩
                  have HT3 : Hid (Ts wd w3 t ((2 + 1) % 3) 1) := hT3
                  clear HW hT3
                  go_wp2
                  go_roundw
                  case rel => exact ⟨1, by first | rfl | go_num, HT3.out, by first | simp | decide⟩
                  case measure => simp [intOf]
                · have HW : Hid (Calls Try.prog 21 #[.pointer (some ⟨t, 0, none⟩), .slice none 0 0] wr fun e w' => ∃ v', e = .returned (.tuple #[v', .int .i64 2, .int .i64 0]) ∧ Ts wd w' t ((2 + 2) % 3) 2) := hT.out.wrap (by omega)
                  clear hT
                  go_wp2_with (fail)
                  refine HW.out.mono ?_
                  rintro e w3 ⟨vx, rfl, hT3⟩
                  have HT3 : Hid (Ts wd w3 t ((2 + 2) % 3) 2) := hT3
                  clear HW hT3
                  go_wp2
                  go_roundw
                  case rel => exact ⟨2, by first | rfl | go_num, HT3.out, by first | simp | decide⟩
                  case measure => simp [intOf]
                · have HW : Hid (Calls Try.prog 21 #[.pointer (some ⟨t, 0, none⟩), .slice none 0 0] wr fun e w' => ∃ v', e = .returned (.tuple #[v', .int .i64 4, .int .i64 0]) ∧ Ts wd w' t ((2 + 3) % 3) 3) := hT.out.wrap (by omega)
                  clear hT
                  go_wp2_with (fail)
                  refine HW.out.mono ?_
                  rintro e w3 ⟨vx, rfl, hT3⟩
                  have HT3 : Hid (Ts wd w3 t ((2 + 3) % 3) 3) := hT3
                  clear HW hT3
                  go_wp2
                  go_roundw
                  case rel => exact ⟨3, by first | rfl | go_num, HT3.out, by first | simp | decide⟩
                  case measure => simp [intOf]
                · have HW : Hid (Calls Try.prog 21 #[.pointer (some ⟨t, 0, none⟩), .slice none 0 0] wr fun e w' => ∃ v', e = .returned (.tuple #[v', .int .i64 1, .int .i64 0]) ∧ Ts wd w' t ((2 + 4) % 3) 4) := hT.out.wrap (by omega)
                  clear hT
                  go_wp2_with (fail)
                  refine HW.out.mono ?_
                  rintro e w3 ⟨vx, rfl, hT3⟩
                  have HT3 : Hid (Ts wd w3 t ((2 + 4) % 3) 4) := hT3
                  clear HW hT3
                  go_wp2
                  go_roundw
                  case rel => exact ⟨4, by first | rfl | go_num, HT3.out, by first | simp | decide⟩
                  case measure => simp [intOf]
                · have HLV := HLL.out _ (HMW.out.and hT.out.m)
                  have HW := hT.out.long (by omega) _ _ HLV (by rw [List.length_replicate]; omega)
                  have HMT := hT.out.m
                  clear hT HLV
                  go_wp2_with (fail)
                  refine HW.mono ?_
                  rintro e w3 ⟨rfl, hT⟩
                  clear HW
                  have HW : Calls Try.prog 21 #[.pointer (some ⟨t, 0, none⟩), .slice none 0 0] w3 fun e w' => ∃ v', e = .returned (.tuple #[v', .int .i64 2, .int .i64 0]) ∧ Ts wd w' t 1 5 := hT.wrap (by omega)
                  clear hT
                  go_wp2_with (fail)
                  refine HW.mono ?_
                  rintro e w4 ⟨vy, rfl, hT⟩
                  have HMD : Hid (Mod (fun _ => False) w w4) := (HMN.out.and HMW.out).and hT.m
                  clear HW hT HLL HMN HMW HMT
                  go_wp2_with (fail)
                  refine (us_new w w4 HMD.out).mono ?_
                  rintro e w2 ⟨u, rfl, hU⟩
                  have HU : Hid (Us w w2 u false false 0 0 1 (kk 0) none none 0) := hU
                  clear hU HMD
                  go_wp2
                  go_loopw [32] (fun i wr => ∃ k : Nat, i = .int .i64 ((k : Int) + 1) ∧ k ≤ 10 ∧ Hid (Us w wr u false false k 0 1 (kk k) none none k)) (fun i _ => 11 - (intOf i).toNat)
                  case atStart => exact ⟨0, rfl, by omega, HU.out⟩
                  case round =>
                    clear HU
                    obtain ⟨k, rfl, hk, hU⟩ := hrel
                    by_cases hk10 : k < 10
                    · have hki : (k : Int) + 1 ≤ 10 := by omega
                      have hok : okF 5 1 ((k : Int) + 1) 0 = true := by unfold okF; simp; omega
                      have hcm : cm 0 false false (k : Int) 0 = (false, false, ((k + 1 : Nat) : Int), 0) := by
                        have e : tp2 false false ((k : Int) + 1) 0 = (k : Int) + 1 := by
                          simp [tp2, gr, on, p2]
                          omega
                        simp only [cm, if_true, if_neg (show ¬ (0 : Nat) = 1 by omega), e]
                        congr 1
                        · simp
                        · congr 1
                          simp
                          omega
                      go_wp2_with (fail)
                      refine (hU.out.frame 5 1 ((k : Int) + 1) hok).mono ?_
                      rintro e w3 ⟨vb, rfl, hU3, hv3⟩
                      have HC := hU3.comes (by omega) 0 (by omega) hv3 hok 1 (by rw [if_pos rfl, kk_new]; rfl) (.inl rfl) false false ((k + 1 : Nat) : Int) 0 hcm (kk (k + 1)) none none (by rw [if_pos rfl, kk_step]) rfl rfl
                      clear hU hU3 hv3 hcm
                      go_wp2_with (fail)
                      refine HC.mono ?_
                      rintro e w4 ⟨rfl, hU4⟩
                      have HF := hU4.faulty 0 (by decide +kernel)
                      have HU4 : Hid (Us w w4 u false false ((k + 1 : Nat) : Int) 0 1 (kk (k + 1)) none none (k + 1)) := hU4
                      clear HC hU4
                      go_wp2_with (fail)
                      refine HF.mono ?_
                      rintro e w5 ⟨rfl, hw5⟩
                      rw [hw5]
                      clear hw5 HF
                      go_wp2
                      go_roundw
                      case rel => exact ⟨k + 1, by go_num, by omega, HU4⟩
                      case measure => simp [intOf]; omega
                    · have hki : ¬ (k : Int) + 1 ≤ 10 := by omega
                      obtain rfl : k = 10 := by omega
                      have HU : Us w wr u false false 10 0 1 (kk 10) none none 10 := hU.out
                      clear hU
                      go_wp2_with (fail)
                      refine (HU.frame 5 1 10 rfl).mono ?_
                      rintro e wn ⟨vb, rfl, hF, hvb⟩
                      clear HU
                      go_wp2_with (fail)
                      refine (hF.comes (by omega) 0 (by omega) hvb rfl 0 (by show (if nb (kk 10) 1 10 then (1 : Int) else 0) = 0; decide +kernel) (by decide) false true 11 0 (by decide +kernel) (nk (kk 10) 1 10) none none rfl rfl rfl).mono ?_
                      rintro e wn ⟨rfl, HU⟩
                      clear hF hvb
                      go_wp2_with (fail)
                      refine (HU.faulty 2 (by decide +kernel)).mono ?_
                      rintro e wz ⟨rfl, hwz⟩
                      rw [hwz]
                      clear hwz wz
                      go_wp2_with (fail)
                      refine (HU.reinW 0 (by omega) rfl).mono ?_
                      rintro e wz ⟨rfl, hwz⟩
                      rw [hwz]
                      clear hwz wz
                      go_wp2_with (fail)
                      refine (HU.reinA 2 (by omega)).mono ?_
                      rintro e wz ⟨rfl, hwz⟩
                      rw [hwz]
                      clear hwz wz
                      go_wp2_with (fail)
                      refine (HU.reinA (-1) (by omega)).mono ?_
                      rintro e wz ⟨rfl, hwz⟩
                      rw [hwz]
                      clear hwz wz
                      go_wp2_with (fail)
                      refine (HU.wrap (by omega) 1 0 (by decide +kernel) (by decide)).mono ?_
                      rintro e wn ⟨vp, rfl, hU⟩
                      clear HU
                      go_wp2_with (fail)
                      refine (hU.wrap (by omega) 1 0 (by decide +kernel) (by decide)).mono ?_
                      rintro e wn ⟨vq, rfl, HU⟩
                      clear hU
                      go_wp2_with (fail)
                      refine (HU.rein 11 (by decide +kernel)).mono ?_
                      rintro e wn ⟨rfl, hU⟩
                      clear HU
                      go_wp2_with (fail)
                      refine (hU.faulty 0 (by decide +kernel)).mono ?_
                      rintro e wz ⟨rfl, hwz⟩
                      rw [hwz]
                      clear hwz wz
                      go_wp2_with (fail)
                      refine (hU.reinW 1 (by omega) rfl).mono ?_
                      rintro e wz ⟨rfl, hwz⟩
                      rw [hwz]
                      clear hwz wz
                      go_wp2
                      obtain ⟨k5, hk5⟩ : ∃ z, z = nk (kk 10) 1 10 := ⟨_, rfl⟩
                      rw [← hk5] at hU
                      clear hk5
                      have HU : Hid (Us w wn u false false 11 11 0 k5 (kk 0) none 13) := hU
                      clear hU
                      go_loopw [41] (fun i wr => ∃ k : Nat, i = .int .i64 (k : Int) ∧ k ≤ 10 ∧ Hid (Us w wr u false false 11 (11 + k) 0 k5 (kk k) none (13 + k))) (fun i _ => 10 - (intOf i).toNat)
                      case atStart => exact ⟨0, rfl, by omega, HU.out⟩
                      case round =>
                        clear HU
                        obtain ⟨k, rfl, hk, hU⟩ := hrel
                        by_cases hk10 : k < 10
                        · have hki : (k : Int) < 10 := by omega
                          have hok : okF 6 1 ((k : Int) + 1) 0 = true := by unfold okF; simp; omega
                          have hcm : cm 1 false false 11 (11 + (k : Int)) = (false, false, 11, 11 + ((k + 1 : Nat) : Int)) := by
                            have e : tp2 false false 11 (11 + (k : Int) + 1) = 11 + (k : Int) + 1 := by
                              simp [tp2, gr, on, p2]
                              omega
                            have d1 : decide (10 < 11 + (k : Int) + 1 - 11) = false := by simp; omega
                            have d2 : decide (10 < 11 + (k : Int) + 1 - (11 + (k : Int) + 1)) = false := by simp
                            have d3 : 11 + (k : Int) + 1 = 11 + ((k + 1 : Nat) : Int) := by omega
                            simp only [cm, if_true, if_neg (show ¬ (1 : Nat) = 0 by omega), e]
                            rw [d1, d2, d3]
                            rfl
                          go_wp2_with (fail)
                          rw [show (1 : Int) + (k : Int) = (k : Int) + 1 by omega]
                          refine (hU.out.frame 6 1 ((k : Int) + 1) hok).mono ?_
                          rintro e w3 ⟨vb, rfl, hU3, hv3⟩
                          have HC := hU3.comes (by omega) 1 (by omega) hv3 hok 1 (by simp [kk_new]) (.inr (.inl rfl)) false false 11 (11 + ((k + 1 : Nat) : Int)) hcm k5 (kk (k + 1)) none rfl (by simp [kk_step]) rfl
                          clear hU hU3 hv3 hcm
                          go_wp2_with (fail)
                          refine HC.mono ?_
                          rintro e w4 ⟨rfl, hU4⟩
                          have HU4 : Hid (Us w w4 u false false 11 (11 + ((k + 1 : Nat) : Int)) 0 k5 (kk (k + 1)) none (13 + (k + 1))) := hU4
                          clear HC hU4
                          go_wp2
                          go_roundw
                          case rel => exact ⟨k + 1, by go_num, by omega, HU4⟩
                          case measure => simp [intOf]; omega
                        · have hki : ¬ (k : Int) < 10 := by omega
                          obtain rfl : k = 10 := by omega
                          have HU : Us w wr u false false 11 21 0 k5 (kk 10) none 23 := hU.out
                          clear hU
                          go_wp2_with (fail)
                          refine (HU.faulty 0 (by decide +kernel)).mono ?_
                          rintro e wz ⟨rfl, hwz⟩
                          rw [hwz]
                          clear hwz wz
                          go_wp2_with (fail)
                          refine ((HU.keep ((Mod.refl _ wr).alloc (.cells (U [1, 2, 3, 4, 5]).toArray 5))).bad 1 (by omega) _ [1, 2, 3, 4, 5] (Sl.lit wr [1, 2, 3, 4, 5] (by simp [maxLen]) (by simp)) (by simp) 60 (by decide +kernel) (by omega) (by omega)).mono ?_
                          rintro e wn ⟨rfl, hU⟩
                          clear HU
                          go_wp2_with (fail)
                          refine (hU.faulty 0 (by decide +kernel)).mono ?_
                          rintro e wz ⟨rfl, hwz⟩
                          rw [hwz]
                          clear hwz wz
                          go_wp2_with (fail)
                          refine (hU.frame 6 1 11 rfl).mono ?_
                          rintro e wn ⟨vb, rfl, hF, hvb⟩
                          clear hU
                          go_wp2_with (fail)
                          refine (hF.comes (by omega) 1 (by omega) hvb rfl 1 (by show (if nb (kk 10) 1 11 then (1 : Int) else 0) = 1; decide +kernel) (by decide) true false 11 22 (by decide +kernel) k5 (nk (kk 10) 1 11) none rfl rfl rfl).mono ?_
                          rintro e wn ⟨rfl, hU⟩
                          clear hF hvb
                          go_wp2_with (fail)
                          refine (hU.faulty 1 (by decide +kernel)).mono ?_
                          rintro e wz ⟨rfl, hwz⟩
                          rw [hwz]
                          clear hwz wz
                          go_wp2_with (fail)
                          refine (hU.frame 6 1 12 rfl).mono ?_
                          rintro e wn ⟨vb, rfl, hF, hvb⟩
                          clear hU
                          go_wp2_with (fail)
                          refine (hF.arg 2 (by omega) vb).mono ?_
                          rintro e wz ⟨rfl, hwz⟩
                          rw [hwz]
                          clear hwz wz
                          clear hvb
                          go_wp2_with (fail)
                          refine (hF.arg (-1) (by omega) _).mono ?_
                          rintro e wz ⟨rfl, hwz⟩
                          rw [hwz]
                          clear hwz wz
                          go_wp2_with (fail)
                          refine (hF.bad 0 (by omega) _ [] ((Own.nil _).sl (by simp)) (by simp) 3 (by decide +kernel) (by omega) (by omega)).mono ?_
                          rintro e wn ⟨rfl, hU⟩
                          clear hF
                          go_wp2_with (fail)
                          refine (hU.frame 6 1 12 rfl).mono ?_
                          rintro e wn ⟨vb, rfl, hF, hvb⟩
                          clear hU
                          go_wp2_with (fail)
                          refine (hF.comes (by omega) 0 (by omega) hvb rfl 1 (by show (if nb (nk (kk 10) 1 11) 1 12 then (1 : Int) else 0) = 1; decide +kernel) (by decide) true false 12 22 (by decide +kernel) k5 (nk (nk (kk 10) 1 11) 1 12) none rfl rfl rfl).mono ?_
                          rintro e wn ⟨rfl, hU⟩
                          clear hF hvb
                          go_wp2_with (fail)
                          refine (hU.frame 6 3 12 rfl).mono ?_
                          rintro e wn ⟨vb, rfl, hF, hvb⟩
                          clear hU
                          go_wp2_with (fail)
                          refine (hF.comes (by omega) 0 (by omega) hvb rfl 1 (by show (if nb (nk (nk (kk 10) 1 11) 1 12) 3 12 then (1 : Int) else 0) = 1; decide +kernel) (by decide) true false 13 22 (by decide +kernel) k5 (nk (nk (nk (kk 10) 1 11) 1 12) 3 12) none rfl rfl rfl).mono ?_
                          rintro e wn ⟨rfl, hU⟩
                          clear hF hvb
                          go_wp2_with (fail)
                          refine (hU.frame 6 3 1 rfl).mono ?_
                          rintro e wn ⟨vb, rfl, hF, hvb⟩
                          clear hU
                          go_wp2_with (fail)
                          refine (hF.comes (by omega) 0 (by omega) hvb rfl 1 (by show (if nb (nk (nk (nk (kk 10) 1 11) 1 12) 3 12) 3 1 then (1 : Int) else 0) = 1; decide +kernel) (by decide) true false 14 22 (by decide +kernel) k5 (nk (nk (nk (nk (kk 10) 1 11) 1 12) 3 12) 3 1) none rfl rfl rfl).mono ?_
                          rintro e wn ⟨rfl, hU⟩
                          clear hF hvb
                          go_wp2_with (fail)
                          refine (hU.frame 6 2 99 rfl).mono ?_
                          rintro e wn ⟨vb, rfl, hF, hvb⟩
                          clear hU
                          go_wp2_with (fail)
                          refine (hF.comes (by omega) 0 (by omega) hvb rfl 0 (by show (if nb (nk (nk (nk (nk (kk 10) 1 11) 1 12) 3 12) 3 1) 2 99 then (1 : Int) else 0) = 0; decide +kernel) (by decide) true false 15 22 (by decide +kernel) k5 (nk (nk (nk (nk (nk (kk 10) 1 11) 1 12) 3 12) 3 1) 2 99) none rfl rfl rfl).mono ?_
                          rintro e wn ⟨rfl, hU⟩
                          clear hF hvb
                          go_wp2_with (fail)
                          refine (hU.frame 6 3 12 rfl).mono ?_
                          rintro e wn ⟨vb, rfl, hF, hvb⟩
                          clear hU
                          go_wp2_with (fail)
                          refine (hF.comes (by omega) 0 (by omega) hvb rfl 0 (by show (if nb (nk (nk (nk (nk (nk (kk 10) 1 11) 1 12) 3 12) 3 1) 2 99) 3 12 then (1 : Int) else 0) = 0; decide +kernel) (by decide) true false 16 22 (by decide +kernel) k5 (nk (nk (nk (nk (nk (nk (kk 10) 1 11) 1 12) 3 12) 3 1) 2 99) 3 12) none rfl rfl rfl).mono ?_
                          rintro e wn ⟨rfl, hU⟩
                          clear hF hvb
                          go_wp2_with (fail)
                          refine (hU.frame 7 1 12 rfl).mono ?_
                          rintro e wn ⟨vb, rfl, hF, hvb⟩
                          clear hU
                          go_wp2_with (fail)
                          refine (hF.comes (by omega) 0 (by omega) hvb rfl 1 (by show (if nb none 1 12 then (1 : Int) else 0) = 1; decide +kernel) (by decide) true false 17 22 (by decide +kernel) k5 (nk (nk (nk (nk (nk (nk (kk 10) 1 11) 1 12) 3 12) 3 1) 2 99) 3 12) (nk none 1 12) rfl rfl rfl).mono ?_
                          rintro e wn ⟨rfl, hU⟩
                          clear hF hvb
                          go_wp2
                          have HM6 : Hid (Mod (fun _ => False) w wn) := hU.m
                          clear hU
                          go_loopw [44, 45] (fun v i wr => ∃ k : Nat, i = .int .i64 (k : Int) ∧ k ≤ 2 ∧ Hid (Nn wr v ∧ Mod (fun _ => False) w wr)) (fun _ i _ => 2 - (intOf i).toNat)
                          case atStart => exact ⟨0, rfl, by omega, .inl rfl, HM6.out⟩
                          case round =>
                            clear HM6
                            obtain ⟨k, rfl, hk, HH⟩ := hrel
                            by_cases hk2 : k < 2
                            · have hki : (k : Int) < 2 := by omega
                              go_wp2_with (fail)
                              refine (HH.out.1.wrap _).mono ?_
                              rintro e w3 ⟨rfl, hw3⟩
                              rw [hw3]
                              clear hw3
                              go_wp2_with (fail)
                              refine (HH.out.1.comes (-1) _).mono ?_
                              rintro e w4 ⟨rfl, hm4⟩
                              have HH4 : Hid (Nn w4 u44 ∧ Mod (fun _ => False) w w4) := ⟨HH.out.1.keep hm4, HH.out.2.and hm4⟩
                              clear HH hm4
                              go_wp2_with (fail)
                              refine (HH4.out.1.faulty).mono ?_
                              rintro e w5 ⟨rfl, hw5⟩
                              rw [hw5]
                              clear hw5
                              go_wp2_with (fail)
                              refine (HH4.out.1.rein 0).mono ?_
                              rintro e w5 ⟨rfl, hw5⟩
                              rw [hw5]
                              clear hw5
                              have HN : Hid (Nn (w4.alloc (.cells #[.int .i64 0, .int .i64 0, .bool false, .int .i64 0, .bool false, .int .i64 0, .bool false, .int .i64 0, .bool false, .int .i64 0, .int .i64 0, .int .i64 0, .map none] 72)) (.pointer (some ⟨w4.heap.size, 0, none⟩)) ∧ Mod (fun _ => False) w (w4.alloc (.cells #[.int .i64 0, .int .i64 0, .bool false, .int .i64 0, .bool false, .int .i64 0, .bool false, .int .i64 0, .bool false, .int .i64 0, .int .i64 0, .int .i64 0, .map none] 72))) := ⟨.inr ⟨_, rfl, (Bk.new w4 #[.int .i64 0, .int .i64 0, .bool false, .int .i64 0, .bool false, .int .i64 0, .bool false, .int .i64 0, .bool false, .int .i64 0, .int .i64 0, .int .i64 0, .map none] 72).cellv (j := 0) rfl⟩, HH4.out.2.alloc _⟩
                              clear HH4
                              go_wp2_with (fail)
                              go_roundw
                              case rel => exact ⟨k + 1, by go_num, by omega, HN.out⟩
                              case measure => simp [intOf]; omega
                            · obtain rfl : k = 2 := by omega
                              go_wp2_with (fail)
                              refine (works_any wr).mono ?_
                              rintro e w3 ⟨rfl, hm3⟩
                              go_wp2_with (fail)
                              go_ret
                              exact ⟨rfl, HH.out.2.and hm3⟩
namespace twinKnown
open Go.ChangeShapes Go.WideShapes Go.ChangeAt Go.RowKit
set_option maxRecDepth 100000 in
theorem lifted (os : Os) (started : os.Started) (H : Type) (enc : TypeId × Value → H) :
    ReturnsInHanded {} Try.checked os 9 .any (Rows.twinKnownSpec.pre6 enc Try.prog Try.f9 Rows.twinKnownRow.domain false) (Rows.twinKnownSpec.post enc Try.prog Try.f9 false true false false) := by
  refine returnsInHanded_of_change_sized (C := Try.checked) own started (by kernel_rfl) Try.func9
    (ChangeSpec.witness6 (enc := enc) (C := Try.checked) false ⟨#[], #[], []⟩ 8 (by kernel_rfl) (by kernel_rfl) (by kernel_rfl) (by kernel_rfl)) ?_
  intro W base args ds gs before hval0 hW hcnd hsz0 _
  have hval : ∀ (j : Nat) t v, Try.f9.params[j]? = some t → args[j]? = some v → Value.okWide Try.prog W .any base t v := hval0
  have hsz : (DataW.weightsEach Try.prog (Try.f9.params.toList ++ Rows.twinKnownSpec.plain.varTypes Try.prog) (ds ++ gs)).all (· ≤ reachBytes) = true := hsz0
  have hW' := hW
  obtain ⟨p, q, hA0, hV, rfl, hfz, hnd⟩ := hW
  have hA : DataW.TrodAll enc Try.prog W 0 (fun _ => true) true Try.f9.params.toList args.toList ds p := hA0
  rw [Try.params9] at hA hval hsz
  obtain ⟨hargs, rfl, rfl⟩ := trodAll_nil hA
  obtain rfl : args = #[] := by cases args; simp_all
  obtain ⟨rfl, rfl⟩ := trodVars_none hV
  clear hA0 hval0
  refine (known_walk W).mono fun e W' ⟨he, hm⟩ => ?_
  subst he
  have bel : Below W.heap.size W W' := hm.below _ (Nat.le_refl _) (fun _ h => h.elim)
  exact ⟨_, rfl, _, _, _, [], _, [], hW', trodAll_mk1 (shut_bool Try.underlying4 _), trodAll_mk0, rfl, bel.frame _, fun h => by cases h⟩

theorem over : Rows.twinKnownRow.holds Try.pinned (OpenSpec.ofChange Rows.twinKnownSpec) :=
  OpenClaim.holds_of_wide 9 Try.f9 rfl rfl rfl rfl rfl rfl rfl ⟨rfl, rfl, rfl, rfl, rfl⟩ rfl rfl rfl rfl rfl (by kernel_rfl) Try.func9 (by kernel_rfl)
    (of_decide_eq_true (by kernel_rfl)) (by unfold Func.isWrapper; first | (rw [if_pos (by decide +kernel)]; kernel_rfl) | (rw [if_neg (by decide +kernel)]; exact ⟨rfl, rfl⟩))
    (fun os started H enc _ => lifted os started H enc)
end twinKnown
theorem twinKnown_holds : Rows.TwinKnownSaid := twinKnown.over
end Go.Proofs.Ytlkkbfcedjedoaa
