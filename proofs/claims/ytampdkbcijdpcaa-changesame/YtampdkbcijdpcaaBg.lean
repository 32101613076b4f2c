/- A window beside blocks that are apart; contracts of the laws' usual and of Story's kin. Conditions: an int's bounds. -/
import Derived.Test.YtampdkbcijdpcaaBf
import Derived.Test.YtampdkbcijdpcaaBe
namespace Go.Proofs.Ytampdkbcijdpcaa
open Go.RowKit Go.Maps
/-- A window, all of it new since w0; Z: blocks that are apart. -/
structure Wz (w0 w : World) (Z : Nat → Prop) (p : Nat) (J : Int → Option Dt) (a h : Int) (n : Nat) : Prop where
  ex : ∃ X, Wn w p X J a h n ∧ (∀ i, X i → w0.heap.size ≤ i) ∧ (∀ i, X i → ¬ Z i)
  zl : ∀ i, Z i → i < w.heap.size
  mod : Mod (fun _ => False) w0 w
theorem Wz.keep {w0 w w' : World} {Z : Nat → Prop} {p : Nat} {J : Int → Option Dt} {a h : Int} {n : Nat} (o : Wz w0 w Z p J a h n) (hm : Mod (fun _ => False) w w') : Wz w0 w' Z p J a h n := by
  obtain ⟨X, h1, h3, h4⟩ := o.ex
  exact ⟨⟨X, h1.keep hm, h3, h4⟩, fun i hi => Nat.lt_of_lt_of_le (o.zl i hi) hm.size, o.mod.and hm⟩
theorem Wz.zone {w0 w : World} {p : Nat} {J : Int → Option Dt} {a h : Int} {n : Nat} (o : Wz w0 w (fun _ => False) p J a h n) (ob : Obj) : Wz w0 (w.alloc ob) (fun i => i = w.heap.size) p J a h n := by
  obtain ⟨X, h1, h3, h4⟩ := o.ex
  have hA := (Mod.refl (fun _ => False) w).alloc ob
  refine ⟨⟨X, h1.keep hA, h3, fun i hi e => ?_⟩, fun i hi => ?_, o.mod.and hA⟩
  · have := h1.mem.lt i hi; omega
  · simp; omega
theorem Wz.less {w0 w : World} {Z Z' : Nat → Prop} {p : Nat} {J : Int → Option Dt} {a h : Int} {n : Nat} (o : Wz w0 w Z p J a h n) (hz : ∀ i, Z' i → Z i) : Wz w0 w Z' p J a h n := by
  obtain ⟨X, h1, h3, h4⟩ := o.ex
  exact ⟨⟨X, h1, h3, fun i hi e => h4 i hi (hz i e)⟩, fun i hi => o.zl i (hz i hi), o.mod⟩
/-- Behind Put of data that may be. -/
def pZ (J : Int → Option Dt) (d : Dt) : Int → Option Dt := if (J d.n).isSome = true then J else upd J d.n (some d)
theorem Wz.put {w0 w : World} {Z : Nat → Prop} {p : Nat} {J : Int → Option Dt} {a h : Int} {n : Nat} (o : Wz w0 w Z p J a h n) (d : Dt) (hb : d.m.body = []) (ho : okP d = true) (hn : n < 1000000000000) :
    Calls Try.prog 9 #[.pointer (some ⟨p, 0, none⟩), dv d (.slice none 0 0)] w fun e w' => ∃ a' r, e = .returned r ∧ Wz w0 w' Z p (pZ J d) a' (max h d.n) (n + 1) ∧ Mod (fun i => ¬ Z i) w w' := by
  obtain ⟨X, h1, h3, h4⟩ := o.ex
  refine (Put_any h1 d (.slice none 0 0) (by rw [hb]; exact (Own.nil w).sl (by simp)) (by rw [hb]; simp) hn).mono ?_
  rintro e w' ⟨X', a', rfl, g1, g2, g3, g4⟩
  have e1 : pJ J d = pZ J d := by
    unfold pJ pZ pF
    rw [ho]
    cases (J d.n).isSome <;> rfl
  have e2 : pH J h d = max h d.n := by
    unfold pH pF
    rw [ho]
    cases hj : (J d.n).isSome with
    | true => have := h1.wp.high.2.2 d.n hj; simp; omega
    | false => rfl
  rw [e1, e2] at g1
  refine ⟨a', _, rfl, ⟨⟨X', g1, fun i hx => ?_, fun i hx => ?_⟩, fun i hi => Nat.lt_of_lt_of_le (o.zl i hi) g3.size, o.mod.trans g3 (fun _ _ h => h) (fun i hi hx => by have := h3 i hx; omega)⟩, g3.mono (fun i _ hx => h4 i hx)⟩
  · rcases g4 i hx with hx | hx
    · exact h3 i hx
    · have := o.mod.size; omega
  · rcases g4 i hx with hx | hx
    · exact h4 i hx
    · intro hz
      have := o.zl i hz
      omega
theorem Wz.new {w0 w : World} (hm0 : Mod (fun _ => False) w0 w) : Calls Try.prog 7 #[] w fun e w' => ∃ p, e = .returned (.pointer (some ⟨p, 0, none⟩)) ∧ Wz w0 w' (fun _ => False) p (fun _ => none) 0 0 0 ∧ Mod (fun _ => False) w w' := by
  refine (wNew w).mono ?_
  rintro e w1 ⟨p, X, rfl, h1, h2, h3⟩
  have s0 := hm0.size
  exact ⟨p, rfl, ⟨⟨X, h1, fun i hx => by have := h2 i hx; omega, fun _ _ h => h⟩, fun _ h => h.elim, hm0.and h3⟩, h3⟩
def pS (J : Int → Option Dt) (ds : List Dt) : Int → Option Dt := ds.foldl pZ J
/-- The chapter's data, and its window. -/
def dU : List Dt := [oz 1 1 false, oz 2 2 true, oz 3 3 false, oz 4 1 true, oz 6 1 false, oz 7 3 false]
def JU : Int → Option Dt := pS (fun _ => none) dU
theorem okU : ∀ d ∈ dU, okP d = true ∧ d.m.body = [] ∧ d.n ≤ 7 := by decide
theorem fdU : fd (dU.map fun d => (d, .slice none 0 0)) = (#[.int .i64 2, .int .i64 1, .int .i64 1, .int .i64 1, .int .i64 0, .int .i64 1, .int .i64 1, .int .i64 1, .int .i64 0, .int .i64 0, .int .i64 1, .int .i64 1, .bool false, .int .i64 0, .int .i64 0, .int .i64 0, .int .i64 0, .slice none 0 0, .int .i64 2, .int .i64 1, .int .i64 2, .int .i64 2, .int .i64 0, .int .i64 1, .int .i64 2, .int .i64 1, .int .i64 0, .int .i64 0, .int .i64 1, .int .i64 1, .bool true, .int .i64 0, .int .i64 0, .int .i64 0, .int .i64 0, .slice none 0 0, .int .i64 2, .int .i64 1, .int .i64 3, .int .i64 3, .int .i64 0, .int .i64 1, .int .i64 3, .int .i64 1, .int .i64 0, .int .i64 0, .int .i64 1, .int .i64 1, .bool false, .int .i64 0, .int .i64 0, .int .i64 0, .int .i64 0, .slice none 0 0, .int .i64 2, .int .i64 1, .int .i64 4, .int .i64 1, .int .i64 0, .int .i64 1, .int .i64 1, .int .i64 1, .int .i64 0, .int .i64 0, .int .i64 1, .int .i64 1, .bool true, .int .i64 0, .int .i64 0, .int .i64 0, .int .i64 0, .slice none 0 0, .int .i64 2, .int .i64 1, .int .i64 6, .int .i64 1, .int .i64 0, .int .i64 1, .int .i64 1, .int .i64 1, .int .i64 0, .int .i64 0, .int .i64 1, .int .i64 1, .bool false, .int .i64 0, .int .i64 0, .int .i64 0, .int .i64 0, .slice none 0 0, .int .i64 2, .int .i64 1, .int .i64 7, .int .i64 3, .int .i64 0, .int .i64 1, .int .i64 3, .int .i64 1, .int .i64 0, .int .i64 0, .int .i64 1, .int .i64 1, .bool false, .int .i64 0, .int .i64 0, .int .i64 0, .int .i64 0, .slice none 0 0] : Array Value).toList := rfl
theorem rowU {W : World} {g : Nat} (hB : Bk W g 44 #[.int .i64 2, .int .i64 1, .int .i64 1, .int .i64 1, .int .i64 0, .int .i64 1, .int .i64 1, .int .i64 1, .int .i64 0, .int .i64 0, .int .i64 1, .int .i64 1, .bool false, .int .i64 0, .int .i64 0, .int .i64 0, .int .i64 0, .slice none 0 0, .int .i64 2, .int .i64 1, .int .i64 2, .int .i64 2, .int .i64 0, .int .i64 1, .int .i64 2, .int .i64 1, .int .i64 0, .int .i64 0, .int .i64 1, .int .i64 1, .bool true, .int .i64 0, .int .i64 0, .int .i64 0, .int .i64 0, .slice none 0 0, .int .i64 2, .int .i64 1, .int .i64 3, .int .i64 3, .int .i64 0, .int .i64 1, .int .i64 3, .int .i64 1, .int .i64 0, .int .i64 0, .int .i64 1, .int .i64 1, .bool false, .int .i64 0, .int .i64 0, .int .i64 0, .int .i64 0, .slice none 0 0, .int .i64 2, .int .i64 1, .int .i64 4, .int .i64 1, .int .i64 0, .int .i64 1, .int .i64 1, .int .i64 1, .int .i64 0, .int .i64 0, .int .i64 1, .int .i64 1, .bool true, .int .i64 0, .int .i64 0, .int .i64 0, .int .i64 0, .slice none 0 0, .int .i64 2, .int .i64 1, .int .i64 6, .int .i64 1, .int .i64 0, .int .i64 1, .int .i64 1, .int .i64 1, .int .i64 0, .int .i64 0, .int .i64 1, .int .i64 1, .bool false, .int .i64 0, .int .i64 0, .int .i64 0, .int .i64 0, .slice none 0 0, .int .i64 2, .int .i64 1, .int .i64 7, .int .i64 3, .int .i64 0, .int .i64 1, .int .i64 3, .int .i64 1, .int .i64 0, .int .i64 0, .int .i64 1, .int .i64 1, .bool false, .int .i64 0, .int .i64 0, .int .i64 0, .int .i64 0, .slice none 0 0]) {j : Nat} {d : Dt} (hd : dU[j]? = some d) : ∀ i c, (dcl d (.slice none 0 0))[i]? = some c → W.cell? ⟨g, j * 18 + i, none⟩ = some c := fun i c hc => by
  have h1 := fd_get (dU.map fun d => (d, .slice none 0 0)) j (d, .slice none 0 0) (by rw [List.getElem?_map, hd]; rfl) i c hc
  rw [fdU] at h1
  exact hB.cellv (by simpa using h1)
theorem pS_take {J : Int → Option Dt} {ds : List Dt} {j : Nat} {d : Dt} (h : ds[j]? = some d) : pS J (ds.take (j + 1)) = pZ (pS J (ds.take j)) d := by
  rw [List.take_add_one, h]
  simp [pS]
set_option maxRecDepth 100000 in
set_option maxHeartbeats 8000000 in
theorem usual_w (w : World) : Calls Try.prog 26 #[] w fun e w' => ∃ p, e = .returned (.pointer (some ⟨p, 0, none⟩)) ∧ ∃ a, Wz w w' (fun _ => False) p JU a 7 6 := by
  go_enter Try.func26, Try.ntmps26
  go_wp2_with (fail)
  refine (Wz.new (Mod.refl _ w)).mono ?_
  rintro e w0 ⟨p, rfl, hz0, -⟩
  have HZ0 : Hid (Wz w w0 (fun _ => False) p (fun _ => none) 0 0 0) := hz0
  clear hz0
  go_wp2_with (fail)
  refine (one_w 1 1 false _).mono ?_
  rintro e w1 ⟨rfl, hm⟩
  have HZ1 : Hid (Wz w w1 (fun _ => False) p (fun _ => none) 0 0 0) := HZ0.out.keep hm
  clear hm HZ0
  unfold dv oz
  go_wp2_with (fail)
  refine (one_w 2 2 true _).mono ?_
  rintro e w2 ⟨rfl, hm⟩
  have HZ2 : Hid (Wz w w2 (fun _ => False) p (fun _ => none) 0 0 0) := HZ1.out.keep hm
  clear hm HZ1
  unfold dv oz
  go_wp2_with (fail)
  refine (one_w 3 3 false _).mono ?_
  rintro e w3 ⟨rfl, hm⟩
  have HZ3 : Hid (Wz w w3 (fun _ => False) p (fun _ => none) 0 0 0) := HZ2.out.keep hm
  clear hm HZ2
  unfold dv oz
  go_wp2_with (fail)
  refine (one_w 4 1 true _).mono ?_
  rintro e w4 ⟨rfl, hm⟩
  have HZ4 : Hid (Wz w w4 (fun _ => False) p (fun _ => none) 0 0 0) := HZ3.out.keep hm
  clear hm HZ3
  unfold dv oz
  go_wp2_with (fail)
  refine (one_w 6 1 false _).mono ?_
  rintro e w5 ⟨rfl, hm⟩
  have HZ5 : Hid (Wz w w5 (fun _ => False) p (fun _ => none) 0 0 0) := HZ4.out.keep hm
  clear hm HZ4
  unfold dv oz
  go_wp2_with (fail)
  refine (one_w 7 3 false _).mono ?_
  rintro e w6 ⟨rfl, hm⟩
  have HZ6 : Hid (Wz w w6 (fun _ => False) p (fun _ => none) 0 0 0) := HZ5.out.keep hm
  clear hm HZ5
  unfold dv oz
  go_upto_region 3 with (fail)
  obtain ⟨wl, ewl⟩ : ∃ W, W = w6.alloc (.cells #[.int .i64 2, .int .i64 1, .int .i64 1, .int .i64 1, .int .i64 0, .int .i64 1, .int .i64 1, .int .i64 1, .int .i64 0, .int .i64 0, .int .i64 1, .int .i64 1, .bool false, .int .i64 0, .int .i64 0, .int .i64 0, .int .i64 0, .slice none 0 0, .int .i64 2, .int .i64 1, .int .i64 2, .int .i64 2, .int .i64 0, .int .i64 1, .int .i64 2, .int .i64 1, .int .i64 0, .int .i64 0, .int .i64 1, .int .i64 1, .bool true, .int .i64 0, .int .i64 0, .int .i64 0, .int .i64 0, .slice none 0 0, .int .i64 2, .int .i64 1, .int .i64 3, .int .i64 3, .int .i64 0, .int .i64 1, .int .i64 3, .int .i64 1, .int .i64 0, .int .i64 0, .int .i64 1, .int .i64 1, .bool false, .int .i64 0, .int .i64 0, .int .i64 0, .int .i64 0, .slice none 0 0, .int .i64 2, .int .i64 1, .int .i64 4, .int .i64 1, .int .i64 0, .int .i64 1, .int .i64 1, .int .i64 1, .int .i64 0, .int .i64 0, .int .i64 1, .int .i64 1, .bool true, .int .i64 0, .int .i64 0, .int .i64 0, .int .i64 0, .slice none 0 0, .int .i64 2, .int .i64 1, .int .i64 6, .int .i64 1, .int .i64 0, .int .i64 1, .int .i64 1, .int .i64 1, .int .i64 0, .int .i64 0, .int .i64 1, .int .i64 1, .bool false, .int .i64 0, .int .i64 0, .int .i64 0, .int .i64 0, .slice none 0 0, .int .i64 2, .int .i64 1, .int .i64 7, .int .i64 3, .int .i64 0, .int .i64 1, .int .i64 3, .int .i64 1, .int .i64 0, .int .i64 0, .int .i64 1, .int .i64 1, .bool false, .int .i64 0, .int .i64 0, .int .i64 0, .int .i64 0, .slice none 0 0] 44) := ⟨_, rfl⟩
  obtain ⟨g, eg⟩ : ∃ g, g = w6.heap.size := ⟨_, rfl⟩
  have hL : Bk wl g 44 #[.int .i64 2, .int .i64 1, .int .i64 1, .int .i64 1, .int .i64 0, .int .i64 1, .int .i64 1, .int .i64 1, .int .i64 0, .int .i64 0, .int .i64 1, .int .i64 1, .bool false, .int .i64 0, .int .i64 0, .int .i64 0, .int .i64 0, .slice none 0 0, .int .i64 2, .int .i64 1, .int .i64 2, .int .i64 2, .int .i64 0, .int .i64 1, .int .i64 2, .int .i64 1, .int .i64 0, .int .i64 0, .int .i64 1, .int .i64 1, .bool true, .int .i64 0, .int .i64 0, .int .i64 0, .int .i64 0, .slice none 0 0, .int .i64 2, .int .i64 1, .int .i64 3, .int .i64 3, .int .i64 0, .int .i64 1, .int .i64 3, .int .i64 1, .int .i64 0, .int .i64 0, .int .i64 1, .int .i64 1, .bool false, .int .i64 0, .int .i64 0, .int .i64 0, .int .i64 0, .slice none 0 0, .int .i64 2, .int .i64 1, .int .i64 4, .int .i64 1, .int .i64 0, .int .i64 1, .int .i64 1, .int .i64 1, .int .i64 0, .int .i64 0, .int .i64 1, .int .i64 1, .bool true, .int .i64 0, .int .i64 0, .int .i64 0, .int .i64 0, .slice none 0 0, .int .i64 2, .int .i64 1, .int .i64 6, .int .i64 1, .int .i64 0, .int .i64 1, .int .i64 1, .int .i64 1, .int .i64 0, .int .i64 0, .int .i64 1, .int .i64 1, .bool false, .int .i64 0, .int .i64 0, .int .i64 0, .int .i64 0, .slice none 0 0, .int .i64 2, .int .i64 1, .int .i64 7, .int .i64 3, .int .i64 0, .int .i64 1, .int .i64 3, .int .i64 1, .int .i64 0, .int .i64 0, .int .i64 1, .int .i64 1, .bool false, .int .i64 0, .int .i64 0, .int .i64 0, .int .i64 0, .slice none 0 0] := by rw [ewl, eg]; exact Bk.new w6 _ _
  have hZ : Wz w wl (fun i => i = g) p (fun _ => none) 0 0 0 := by rw [ewl, eg]; exact HZ6.out.zone _
  rw [← ewl, ← eg]
  have HL : Hid (Bk wl g 44 #[.int .i64 2, .int .i64 1, .int .i64 1, .int .i64 1, .int .i64 0, .int .i64 1, .int .i64 1, .int .i64 1, .int .i64 0, .int .i64 0, .int .i64 1, .int .i64 1, .bool false, .int .i64 0, .int .i64 0, .int .i64 0, .int .i64 0, .slice none 0 0, .int .i64 2, .int .i64 1, .int .i64 2, .int .i64 2, .int .i64 0, .int .i64 1, .int .i64 2, .int .i64 1, .int .i64 0, .int .i64 0, .int .i64 1, .int .i64 1, .bool true, .int .i64 0, .int .i64 0, .int .i64 0, .int .i64 0, .slice none 0 0, .int .i64 2, .int .i64 1, .int .i64 3, .int .i64 3, .int .i64 0, .int .i64 1, .int .i64 3, .int .i64 1, .int .i64 0, .int .i64 0, .int .i64 1, .int .i64 1, .bool false, .int .i64 0, .int .i64 0, .int .i64 0, .int .i64 0, .slice none 0 0, .int .i64 2, .int .i64 1, .int .i64 4, .int .i64 1, .int .i64 0, .int .i64 1, .int .i64 1, .int .i64 1, .int .i64 0, .int .i64 0, .int .i64 1, .int .i64 1, .bool true, .int .i64 0, .int .i64 0, .int .i64 0, .int .i64 0, .slice none 0 0, .int .i64 2, .int .i64 1, .int .i64 6, .int .i64 1, .int .i64 0, .int .i64 1, .int .i64 1, .int .i64 1, .int .i64 0, .int .i64 0, .int .i64 1, .int .i64 1, .bool false, .int .i64 0, .int .i64 0, .int .i64 0, .int .i64 0, .slice none 0 0, .int .i64 2, .int .i64 1, .int .i64 7, .int .i64 3, .int .i64 0, .int .i64 1, .int .i64 3, .int .i64 1, .int .i64 0, .int .i64 0, .int .i64 1, .int .i64 1, .bool false, .int .i64 0, .int .i64 0, .int .i64 0, .int .i64 0, .slice none 0 0]) := hL
  have HZ : Hid (Wz w wl (fun i => i = g) p (fun _ => none) 0 0 0) := hZ
  clear hL hZ ewl eg HZ6
  go_wp2_with (fail)
  go_loopw [3] (fun i wr => ∃ (j : Nat) (a h : Int), i = .int .i64 (j : Int) ∧ j ≤ 6 ∧ Hid (Wz w wr (fun i => i = g) p (pS (fun _ => none) (dU.take j)) a h j) ∧ Hid (0 ≤ h ∧ h ≤ 7 ∧ (j = 6 → h = 7)) ∧ Hid (Mod (fun i => ¬ i = g) wl wr)) (fun i _ => 6 - (intOf i).toNat)
  case atStart => exact ⟨0, 0, 0, rfl, by omega, HZ.out, ⟨by omega, by omega, fun h => by omega⟩, Mod.refl _ _⟩
  case round =>
    obtain ⟨j, a, h, rfl, hj, hz, hh, hg⟩ := hrel
    by_cases hlt : j < 6
    · have hlt' : (j : Int) < 6 := by omega
      have hj0 : (0 : Int) ≤ (j : Int) := by omega
      have HLT : Hid (j < 6) := hlt
      obtain ⟨d, hd⟩ : ∃ d, dU[j]? = some d := ⟨dU[j]'(by simpa [dU] using hlt), List.getElem?_eq_getElem _⟩
      have hcl := rowU (HL.out.mod hg.out (fun e => e rfl)) hd
      obtain ⟨o1, o2, o3⟩ := okU d (List.mem_of_getElem? hd)
      have HPT := pS_take (J := fun _ => none) hd
      have HD : Hid (pS (fun _ => none) (dU.take (j + 1)) = pZ (pS (fun _ => none) (dU.take j)) d) := HPT
      have HN6 : Hid (j = 5 → d.n = 7) := fun e => by
        subst e
        simp [dU] at hd
        subst hd
        rfl
      have HON : Hid (d.n ≤ 7 ∧ 1 ≤ d.n) := ⟨o3, by unfold okP at o1; simp at o1; omega⟩
      have x0 : wr.cell? ⟨g, j * 18, none⟩ = some (.int .i64 d.q) := hcl 0 _ rfl
      have x1 : wr.cell? ⟨g, j * 18 + 1, none⟩ = some (.int .i64 d.r) := hcl 1 _ rfl
      have x2 : wr.cell? ⟨g, j * 18 + 2, none⟩ = some (.int .i64 d.n) := hcl 2 _ rfl
      have x3 : wr.cell? ⟨g, j * 18 + 3, none⟩ = some (.int .i64 d.s) := hcl 3 _ rfl
      have x4 : wr.cell? ⟨g, j * 18 + 4, none⟩ = some (.int .i64 d.t) := hcl 4 _ rfl
      have x5 : wr.cell? ⟨g, j * 18 + 5, none⟩ = some (.int .i64 d.m.kind) := hcl 5 _ rfl
      have x6 : wr.cell? ⟨g, j * 18 + 6, none⟩ = some (.int .i64 d.m.origin) := hcl 6 _ rfl
      have x7 : wr.cell? ⟨g, j * 18 + 7, none⟩ = some (.int .i64 d.m.life) := hcl 7 _ rfl
      have x8 : wr.cell? ⟨g, j * 18 + 8, none⟩ = some (.int .i64 d.m.id) := hcl 8 _ rfl
      have x9 : wr.cell? ⟨g, j * 18 + 9, none⟩ = some (.int .i64 d.m.part) := hcl 9 _ rfl
      have x10 : wr.cell? ⟨g, j * 18 + 10, none⟩ = some (.int .i64 d.m.parts) := hcl 10 _ rfl
      have x11 : wr.cell? ⟨g, j * 18 + 11, none⟩ = some (.int .i64 d.m.groups) := hcl 11 _ rfl
      have x12 : wr.cell? ⟨g, j * 18 + 12, none⟩ = some (.bool d.m.safe) := hcl 12 _ rfl
      have x13 : wr.cell? ⟨g, j * 18 + 13, none⟩ = some (.int .i64 d.m.st) := hcl 13 _ rfl
      have x14 : wr.cell? ⟨g, j * 18 + 14, none⟩ = some (.int .i64 d.m.rs) := hcl 14 _ rfl
      have x15 : wr.cell? ⟨g, j * 18 + 15, none⟩ = some (.int .i64 d.m.rr) := hcl 15 _ rfl
      have x16 : wr.cell? ⟨g, j * 18 + 16, none⟩ = some (.int .i64 d.m.sq) := hcl 16 _ rfl
      have x17 : wr.cell? ⟨g, j * 18 + 17, none⟩ = some (.slice none 0 0) := hcl 17 _ rfl
      have HPU := hz.out.put d o2 o1 (by omega)
      unfold dv at HPU
      clear hcl o1 o2 o3 HPT hd hlt hj
      go_wp2_with (fail)
      refine HPU.mono ?_
      rintro e w9 ⟨a', r, rfl, hz9, hm9⟩
      have HZ9 : Hid (Wz w w9 (fun i => i = g) p (pS (fun _ => none) (dU.take (j + 1))) a' (max h d.n) (j + 1)) := by show Wz _ _ _ _ _ _ _ _; rw [HD.out]; exact hz9
      have HM9 : Hid (Mod (fun i => ¬ i = g) wl w9) := hg.out.trans hm9 (fun _ _ h => h) (fun _ _ h => h)
      clear hz9 hm9 x0 x1 x2 x3 x4 x5 x6 x7 x8 x9 x10 x11 x12 x13 x14 x15 x16 x17
      go_wp2
      go_roundw
      case rel => exact ⟨j + 1, a', max h d.n, by go_num, HLT.out, HZ9, (by have h1 := hh.out; have h2 := HON.out; have h3 := HN6.out; refine ⟨by omega, by omega, fun e => ?_⟩; have := h3 (by omega); omega), HM9⟩
      case measure =>
        have := HLT.out
        simp [intOf]
        omega
    · have hj6 : j = 6 := by omega
      subst hj6
      go_wp2
      go_ret
      have h7 := hh.out.2.2 (by simp)
      subst h7
      exact ⟨p, rfl, a, hz.out.less (fun _ hf => hf.elim)⟩
/-- A story's kin. -/
def kk (k : Int) : Int := if bits .and .i64 k 30 = 0 then 2 else bits .and .i64 k 30
theorem kk_nat (k : Int) : ∃ y : Fin 31, kk k = (y.val : Int) ∧ y.val &&& 30 = y.val ∧ y.val ≠ 0 := by
  have h := Cr.and_nat k 30 (by decide)
  unfold kk
  rw [show ((30 : Nat) : Int) = 30 from rfl] at h
  rw [h]
  generalize (k % 2 ^ 64).toNat = m
  by_cases h0 : ((m &&& 30 : Nat) : Int) = 0
  · rw [if_pos h0]
    exact ⟨2, rfl, rfl, by decide⟩
  · rw [if_neg h0]
    have hl : m &&& 30 ≤ 30 := Nat.and_le_right
    exact ⟨⟨m &&& 30, by omega⟩, rfl, by simp [Nat.and_assoc], fun e => h0 (by simp at e; simp [e])⟩
theorem kin_all : ∀ y : Fin 31, y.val &&& 30 = y.val → y.val ≠ 0 → kinOK (y.val : Int) 30 30 = true := by decide +kernel
theorem kk_ok (k : Int) : kinOK (kk k) 30 30 = true ∧ I64 (kk k) := by
  obtain ⟨y, h1, h2, h3⟩ := kk_nat k
  rw [h1]
  exact ⟨kin_all y h2 h3, by unfold I64; omega⟩
theorem kin_w (v : Value) (k : Int) (w : World) (hv : ∃ ao n c, v = .slice ao n c) : Calls Try.prog 18 #[.agg #[v, .int .i64 k]] w fun e w' => e = .returned (.int .i64 (kk k)) ∧ Mod (fun _ => False) w w' := by
  obtain ⟨ao, n, c, rfl⟩ := hv
  have hM : Hid (Mod (fun _ => False) w _) := (Mod.refl (fun _ => False) w).alloc (.cells #[.slice ao n c, .int .i64 k] 57)
  have hB := Bk.new w #[.slice ao n c, .int .i64 k] 57
  have c1 := hB.cellv (j := 1) rfl
  have hkk : kk k = if bits .and .i64 k 30 = 0 then 2 else bits .and .i64 k 30 := rfl
  rw [hkk]
  clear hB hkk
  generalize hz : bits .and .i64 k 30 = z
  by_cases h : z = 0
  · have hb : (z == 0) = true := by simp [h]
    rw [if_pos h]
    go_enter Try.func18, Try.ntmps18
    go_wp2
    go_ret
    exact ⟨rfl, hM.out⟩
  · have hb : (z == 0) = false := by simp [h]
    rw [if_neg h]
    go_enter Try.func18, Try.ntmps18
    go_wp2
    go_ret
    exact ⟨rfl, hM.out⟩
end Go.Proofs.Ytampdkbcijdpcaa
