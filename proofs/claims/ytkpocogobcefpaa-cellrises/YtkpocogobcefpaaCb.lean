/- The document's cell: its New, Write, Crash and Start answer as the program's, and leave what the program's leave; works; Bring by 4. Conditions: none. -/
import Derived.Test.YtkpocogobcefpaaCa
namespace Go.Proofs.Ytkpocogobcefpaa
open Go.RowKit

def I64 (n : Int) : Prop := -9223372036854775808 ≤ n ∧ n ≤ 9223372036854775807

/-- The document's cell that stands as the program's that keeps k and stands at s. -/
structure Ds (w : World) (p : Nat) (k s : Int) : Prop where
  at' : ∃ bh, Dc w p k (s == 4) (s == 2 || s == 3) bh ∧ (s = 2 → bh = false) ∧ (s = 3 → bh = true)
theorem Ds.mod {S : Nat → Prop} {w w' : World} {p : Nat} {k s : Int} (h : Ds w p k s) (hm : Mod S w w') (hp : ¬ S p) : Ds w' p k s := by
  obtain ⟨bh, h1, h2⟩ := h.at'
  exact ⟨bh, h1.mod hm hp, h2⟩
theorem Ds.c0 {w : World} {p : Nat} {k s : Int} (h : Ds w p k s) : w.cell? ⟨p, 0, none⟩ = some (.int .i64 k) := by
  obtain ⟨bh, h1, h2⟩ := h.at'
  exact h1.c0
theorem Ds.c1 {w : World} {p : Nat} {k s : Int} (h : Ds w p k s) : w.cell? ⟨p, 1, none⟩ = some (.bool (s == 4)) := by
  obtain ⟨bh, h1, h2⟩ := h.at'
  exact h1.c1
theorem Ds.lt {w : World} {p : Nat} {k s : Int} (h : Ds w p k s) : p < w.heap.size := by
  obtain ⟨bh, h1, h2⟩ := h.at'
  exact h1.lt
theorem Dc.set0 {w : World} {p : Nat} {k : Int} {a b c : Bool} (h : Dc w p k a b c) (k' : Int) : Dc (w.setCell ⟨p, 0, none⟩ (.int .i64 k')) p k' a b c := ⟨by simp [World.setCell, Array.getElem?_modify, h.blk]⟩
theorem Dc.set1 {w : World} {p : Nat} {k : Int} {a b c : Bool} (h : Dc w p k a b c) (x : Bool) : Dc (w.setCell ⟨p, 1, none⟩ (.bool x)) p k x b c := ⟨by simp [World.setCell, Array.getElem?_modify, h.blk]⟩
theorem Dc.set2 {w : World} {p : Nat} {k : Int} {a b c : Bool} (h : Dc w p k a b c) (x : Bool) : Dc (w.setCell ⟨p, 2, none⟩ (.bool x)) p k a x c := ⟨by simp [World.setCell, Array.getElem?_modify, h.blk]⟩
theorem Dc.set3 {w : World} {p : Nat} {k : Int} {a b c : Bool} (h : Dc w p k a b c) (x : Bool) : Dc (w.setCell ⟨p, 3, none⟩ (.bool x)) p k a b x := ⟨by simp [World.setCell, Array.getElem?_modify, h.blk]⟩
theorem Mod.put {w w' : World} {p : Nat} (h : Mod (fun i => i = p) w w') (j : Nat) (v : Value) : Mod (fun i => i = p) w (w'.setCell ⟨p, j, none⟩ v) := h.setCell ⟨p, j, none⟩ v (.inl rfl)

theorem mk1 {w : World} {p : Nat} {k : Int} {bh : Bool} (h : Dc w p k false false bh) : Ds w p k 1 := ⟨bh, h, (fun h => absurd h (by decide)), (fun h => absurd h (by decide))⟩
theorem mk2 {w : World} {p : Nat} {k : Int} (h : Dc w p k false true false) : Ds w p k 2 := ⟨false, h, fun _ => rfl, (fun h => absurd h (by decide))⟩
theorem mk3 {w : World} {p : Nat} {k : Int} (h : Dc w p k false true true) : Ds w p k 3 := ⟨true, h, (fun h => absurd h (by decide)), fun _ => rfl⟩
theorem mk4 {w : World} {p : Nat} {k : Int} {bh : Bool} (h : Dc w p k true false bh) : Ds w p k 4 := ⟨bh, h, (fun h => absurd h (by decide)), (fun h => absurd h (by decide))⟩
theorem dNew (w : World) : Calls Try.prog 8 #[] w fun e w' => ∃ p, e = .returned (.pointer (some ⟨p, 0, none⟩)) ∧ Ds w' p 0 1 ∧ Mod (fun _ => False) w w' ∧ w.heap.size ≤ p := by
  go_enter Try.func8, Try.ntmps8
  go_wp2
  go_ret
  exact ⟨_, rfl, mk1 ⟨heap_alloc_new w _⟩, (Mod.refl _ _).alloc _, Nat.le_refl _⟩

theorem dCrash (p : Nat) (k s : Int) (b : Bool) (w : World) (h : Ds w p k s) (hs : In s) : Calls Try.prog 13 #[.pointer (some ⟨p, 0, none⟩), .bool b] w fun e w' => e = .returned (.int .i64 (cE s)) ∧ Ds w' p k (cS s b) ∧ Mod (fun i => i = p) w w' := by
  obtain ⟨bh, h, h2, h3⟩ := h.at'
  have c1 := h.c1
  have f2 := h.f 2
  have f3 := h.f 3
  have c2 := h.c2
  have c3 := h.c3
  rcases hs with rfl | rfl | rfl | rfl
  case inr.inr.inr =>
    show Calls _ _ _ _ fun e w' => e = .returned (.int .i64 80) ∧ Ds w' p k 4 ∧ Mod (fun i => i = p) w w'
    go_enter Try.func13, Try.ntmps13
    go_wp2
    go_ret
    exact ⟨rfl, ⟨bh, h, h2, h3⟩, Mod.refl _ _⟩
  all_goals
    cases b
    · show Calls _ _ _ _ fun e w' => e = .returned (.int .i64 0) ∧ Ds w' p k 2 ∧ Mod (fun i => i = p) w w'
      clear h2 h3
      go_enter Try.func13, Try.ntmps13
      go_wp2
      go_ret
      exact ⟨rfl, mk2 ((h.set2 true).set3 false), ((Mod.refl _ _).put _ _).put _ _⟩
    · show Calls _ _ _ _ fun e w' => e = .returned (.int .i64 0) ∧ Ds w' p k 3 ∧ Mod (fun i => i = p) w w'
      clear h2 h3
      go_enter Try.func13, Try.ntmps13
      go_wp2
      go_ret
      exact ⟨rfl, mk3 ((h.set2 true).set3 true), ((Mod.refl _ _).put _ _).put _ _⟩
theorem dStart (p : Nat) (k s : Int) (w : World) (h : Ds w p k s) (hs : In s) : Calls Try.prog 15 #[.pointer (some ⟨p, 0, none⟩)] w fun e w' => e = .returned (.int .i64 (sE s)) ∧ Ds w' p k (sS s) ∧ Mod (fun i => i = p) w w' := by
  obtain ⟨bh, h, h2, h3⟩ := h.at'
  have c1 := h.c1
  have f1 := h.f 1
  rcases hs with rfl | rfl | rfl | rfl
  case inr.inr.inr =>
    show Calls _ _ _ _ fun e w' => e = .returned (.int .i64 0) ∧ Ds w' p k 1 ∧ Mod (fun i => i = p) w w'
    clear h2 h3
    go_enter Try.func15, Try.ntmps15
    go_wp2
    go_ret
    exact ⟨rfl, mk1 (h.set1 false), (Mod.refl _ _).put _ _⟩
  · show Calls _ _ _ _ fun e w' => e = .returned (.int .i64 80) ∧ Ds w' p k 1 ∧ Mod (fun i => i = p) w w'
    go_enter Try.func15, Try.ntmps15
    go_wp2
    go_ret
    exact ⟨rfl, ⟨bh, h, h2, h3⟩, Mod.refl _ _⟩
  · show Calls _ _ _ _ fun e w' => e = .returned (.int .i64 80) ∧ Ds w' p k 2 ∧ Mod (fun i => i = p) w w'
    go_enter Try.func15, Try.ntmps15
    go_wp2
    go_ret
    exact ⟨rfl, ⟨bh, h, fun _ => h2 trivial, h3⟩, Mod.refl _ _⟩
  · show Calls _ _ _ _ fun e w' => e = .returned (.int .i64 80) ∧ Ds w' p k 3 ∧ Mod (fun i => i = p) w w'
    go_enter Try.func15, Try.ntmps15
    go_wp2
    go_ret
    exact ⟨rfl, ⟨bh, h, h2, fun _ => h3 trivial⟩, Mod.refl _ _⟩
theorem dWrite (p : Nat) (k s n : Int) (w : World) (h : Ds w p k s) (hs : In s) : Calls Try.prog 11 #[.pointer (some ⟨p, 0, none⟩), .int .i64 n] w fun e w' =>
    e = .returned (.int .i64 (wE k s n)) ∧ Ds w' p (wK k s n) (wS k s n) ∧ Mod (fun i => i = p) w w' := by
  obtain ⟨bh, h, h2, h3⟩ := h.at'
  have c0 := h.c0
  have c1 := h.c1
  have c2 := h.c2
  have c3 := h.c3
  have f0 := h.f 0
  have f1 := h.f 1
  have f2 := h.f 2
  rcases Classical.em (s = 4) with h4 | h4
  · subst h4
    show Calls _ _ _ _ fun e w' => e = .returned (.int .i64 80) ∧ Ds w' p k 4 ∧ Mod (fun i => i = p) w w'
    go_enter Try.func11, Try.ntmps11
    go_wp2
    go_ret
    exact ⟨rfl, ⟨bh, h, h2, h3⟩, Mod.refl _ _⟩
  · have e4 : (s == 4) = false := by simp [h4]
    rw [e4] at c1 h
    have hn' : n ≤ k ∨ (¬ n ≤ k ∧ 9007199254740991 < n) ∨ (¬ n ≤ k ∧ ¬ 9007199254740991 < n) := by omega
    rcases hn' with hn | ⟨hn, hn2⟩ | ⟨hn, hn2⟩
    · have q : wE k s n = 9 ∧ wK k s n = k ∧ wS k s n = s := by simp [wE, wK, wS, h4, hn]
      rw [q.1, q.2.1, q.2.2]
      have H2 : Hid (s = 2 → bh = false) := h2
      have H3 : Hid (s = 3 → bh = true) := h3
      clear q h2 h3
      go_enter Try.func11, Try.ntmps11
      go_wp2
      go_ret
      exact ⟨rfl, ⟨bh, by rw [e4]; exact h, H2.out, H3.out⟩, Mod.refl _ _⟩
    · have q : wE k s n = 9 ∧ wK k s n = k ∧ wS k s n = s := by simp [wE, wK, wS, h4, hn2]
      rw [q.1, q.2.1, q.2.2]
      have H2 : Hid (s = 2 → bh = false) := h2
      have H3 : Hid (s = 3 → bh = true) := h3
      clear q h2 h3
      go_enter Try.func11, Try.ntmps11
      go_wp2
      go_ret
      exact ⟨rfl, ⟨bh, by rw [e4]; exact h, H2.out, H3.out⟩, Mod.refl _ _⟩
    · have q : wE k s n = (if s = 1 then 0 else 270) ∧ wK k s n = (if s = 2 then k else n) ∧ wS k s n = (if s = 1 then 1 else 4) := by simp [wE, wK, wS, h4, hn, hn2]
      rw [q.1, q.2.1, q.2.2]
      clear q
      rcases hs with rfl | rfl | rfl | rfl
      · show Calls _ _ _ _ fun e w' => e = .returned (.int .i64 0) ∧ Ds w' p n 1 ∧ Mod (fun i => i = p) w w'
        go_enter Try.func11, Try.ntmps11
        go_wp2
        go_ret
        exact ⟨rfl, mk1 (h.set0 n), (Mod.refl _ _).put _ _⟩
      · show Calls _ _ _ _ fun e w' => e = .returned (.int .i64 270) ∧ Ds w' p k 4 ∧ Mod (fun i => i = p) w w'
        obtain rfl := h2 rfl
        go_enter Try.func11, Try.ntmps11
        go_wp2
        go_ret
        exact ⟨rfl, mk4 ((h.set1 true).set2 false), ((Mod.refl _ _).put _ _).put _ _⟩
      · show Calls _ _ _ _ fun e w' => e = .returned (.int .i64 270) ∧ Ds w' p n 4 ∧ Mod (fun i => i = p) w w'
        obtain rfl := h3 rfl
        go_enter Try.func11, Try.ntmps11
        go_wp2
        go_ret
        exact ⟨rfl, mk4 (((h.set0 n).set1 true).set2 false), (((Mod.refl _ _).put _ _).put _ _).put _ _⟩
      · exact absurd rfl h4

theorem Bring4 (k : Int) (w : World) (hk : I64 k) : Calls Try.prog 9 #[.int .i64 k, .int .i64 4] w fun e w' => e = .returned (.int .i64 (k % 4)) ∧ w' = w := by
  unfold I64 at hk
  obtain ⟨h1, h2⟩ := hk
  have hneg : k < 0 → k.tmod 4 = -((-k) % 4) := fun h => by
    have := Int.neg_tmod (-k) 4
    rw [Int.neg_neg] at this
    rw [this, Int.tmod_eq_emod_of_nonneg (by omega)]
  rcases (show 0 ≤ k ∨ (k < 0 ∧ k % 4 = 0) ∨ (k < 0 ∧ k % 4 ≠ 0) from by omega) with h | ⟨h, h3⟩ | ⟨h, h3⟩
  · have e : k.tmod 4 = k % 4 := Int.tmod_eq_emod_of_nonneg h
    have hp : 0 ≤ k % 4 := by omega
    clear hneg
    go_enter Try.func9, Try.ntmps9
    go_wp2
    go_ret
    exact ⟨rfl, rfl⟩
  · have e : k.tmod 4 = 0 := by rw [hneg h]; omega
    clear hneg
    rw [h3]
    clear h3
    go_enter Try.func9, Try.ntmps9
    go_wp2
    go_ret
    exact ⟨rfl, rfl⟩
  · have e : k.tmod 4 = k % 4 - 4 := by rw [hneg h]; omega
    have hp : k % 4 - 4 < 0 := by omega
    clear hneg
    go_enter Try.func9, Try.ntmps9
    go_wp2
    go_ret
    exact ⟨rfl, rfl⟩
end Go.Proofs.Ytkpocogobcefpaa
