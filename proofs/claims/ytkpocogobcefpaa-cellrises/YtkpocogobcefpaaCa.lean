/- The program's cell: what New, Write, Crash, Start, Read and Down answer, and what they leave, of a cell that New made; of none. Conditions: none. -/
import Derived.Test.YtkpocogobcefpaaMem
namespace Go.Proofs.Ytkpocogobcefpaa
open Go.RowKit

/-- What a write answers, of a cell that keeps k and stands at s (1 up, 2 armed ahead, 3 armed behind, 4 down). -/
def wE (k s n : Int) : Int := if s = 4 then 80 else if n ≤ k ∨ 9007199254740991 < n then 9 else if s = 1 then 0 else 270
/-- What is kept behind it. -/
def wK (k s n : Int) : Int := if s = 4 then k else if n ≤ k ∨ 9007199254740991 < n then k else if s = 2 then k else n
/-- How it stands behind it. -/
def wS (k s n : Int) : Int := if s = 4 then s else if n ≤ k ∨ 9007199254740991 < n then s else if s = 1 then 1 else 4
/-- Of a crash. -/
def cE (s : Int) : Int := if s = 4 then 80 else 0
def cS (s : Int) (b : Bool) : Int := if s = 4 then 4 else if b then 3 else 2
/-- Of a start. -/
def sE (s : Int) : Int := if s = 4 then 0 else 80
def sS (s : Int) : Int := if s = 4 then 1 else s

def In (s : Int) : Prop := s = 1 ∨ s = 2 ∨ s = 3 ∨ s = 4
theorem In.bounds {s : Int} (h : In s) : 1 ≤ s ∧ s ≤ 4 := by unfold In at h; omega
theorem wS_in {k s n : Int} (h : In s) : In (wS k s n) := by unfold In wS at *; split <;> first | omega | (split <;> first | omega | (split <;> omega))
theorem cS_in {s : Int} (b : Bool) : In (cS s b) := by unfold In cS; split <;> first | omega | (split <;> omega)
theorem sS_in {s : Int} (h : In s) : In (sS s) := by unfold In sS at *; split <;> omega

theorem Cl.set0 {w : World} {p : Nat} {k s : Int} (h : Cl w p k s) (k' : Int) : Cl (w.setCell ⟨p, 0, none⟩ (.int .i64 k')) p k' s := ⟨by simp [World.setCell, Array.getElem?_modify, h.blk]⟩
theorem Cl.set1 {w : World} {p : Nat} {k s : Int} (h : Cl w p k s) (s' : Int) : Cl (w.setCell ⟨p, 1, none⟩ (.int .i64 s')) p k s' := ⟨by simp [World.setCell, Array.getElem?_modify, h.blk]⟩

theorem New_any (w : World) : Calls Try.prog 7 #[] w fun e w' => ∃ p, e = .returned (.pointer (some ⟨p, 0, none⟩)) ∧ Cl w' p 0 1 ∧ Mod (fun _ => False) w w' ∧ w.heap.size ≤ p := by
  go_enter Try.func7, Try.ntmps7
  go_wp2
  go_ret
  exact ⟨_, rfl, Cl.new _ _ _, (Mod.refl _ _).alloc _, Nat.le_refl _⟩

theorem isNone_any (p : Nat) (k s : Int) (w : World) (h : Cl w p k s) : Calls Try.prog 19 #[.pointer (some ⟨p, 0, none⟩)] w fun e w' => e = .returned (.bool (s == 0)) ∧ w' = w := by
  have c1 := h.c1
  go_enter Try.func19, Try.ntmps19
  go_wp2
  go_ret
  exact ⟨rfl, rfl⟩
theorem isNone_nil (w : World) : Calls Try.prog 19 #[.pointer none] w fun e w' => e = .returned (.bool true) ∧ w' = w := by
  go_enter Try.func19, Try.ntmps19
  go_wp2
  go_ret
  exact ⟨rfl, rfl⟩

theorem Read_any (p : Nat) (k s : Int) (w : World) (h : Cl w p k s) (hs : In s) : Calls Try.prog 16 #[.pointer (some ⟨p, 0, none⟩)] w fun e w' => e = .returned (.int .i64 k) ∧ w' = w := by
  have hN := isNone_any p k s w h
  have c0 := h.c0
  have e0 : (s == 0) = false := by have := hs.bounds; simp; omega
  rw [e0] at hN
  clear h hs e0
  go_enter Try.func16, Try.ntmps16
  go_wp2_with fail
  refine hN.mono ?_
  rintro e w' ⟨rfl, rfl⟩
  go_wp2
  go_ret
  exact ⟨rfl, rfl⟩
theorem Down_any (p : Nat) (k s : Int) (w : World) (h : Cl w p k s) (hs : In s) : Calls Try.prog 17 #[.pointer (some ⟨p, 0, none⟩)] w fun e w' => e = .returned (.bool (s == 4)) ∧ w' = w := by
  have hN := isNone_any p k s w h
  have c0 := h.c1
  have e0 : (s == 0) = false := by have := hs.bounds; simp; omega
  rw [e0] at hN
  clear h hs e0
  go_enter Try.func17, Try.ntmps17
  go_wp2_with fail
  refine hN.mono ?_
  rintro e w' ⟨rfl, rfl⟩
  go_wp2
  go_ret
  exact ⟨rfl, rfl⟩
theorem Crash_any (p : Nat) (k s : Int) (b : Bool) (w : World) (h : Cl w p k s) (hs : In s) : Calls Try.prog 12 #[.pointer (some ⟨p, 0, none⟩), .bool b] w fun e w' => e = .returned (.int .i64 (cE s)) ∧ Cl w' p k (cS s b) ∧ Mod (fun i => i = p) w w' := by
  have hN := isNone_any p k s w h
  have c1 := h.c1
  have f1 := h.f 1
  have e0 : (s == 0) = false := by have := hs.bounds; simp; omega
  rw [e0] at hN
  rcases hs with rfl | rfl | rfl | rfl
  case inr.inr.inr =>
    show Calls _ _ _ _ fun e w' => e = .returned (.int .i64 80) ∧ Cl w' p k 4 ∧ Mod (fun i => i = p) w w'
    go_enter Try.func12, Try.ntmps12
    go_wp2_with fail
    refine hN.mono ?_
    rintro e w' ⟨rfl, rfl⟩
    go_wp2
    go_ret
    exact ⟨rfl, h, Mod.refl _ _⟩
  all_goals
    cases b
    · show Calls _ _ _ _ fun e w' => e = .returned (.int .i64 0) ∧ Cl w' p k 2 ∧ Mod (fun i => i = p) w w'
      go_enter Try.func12, Try.ntmps12
      go_wp2_with fail
      refine hN.mono ?_
      rintro e w' ⟨rfl, rfl⟩
      go_wp2
      go_ret
      exact ⟨rfl, h.set1 2, (Mod.refl _ _).setCell _ _ (.inl rfl)⟩
    · show Calls _ _ _ _ fun e w' => e = .returned (.int .i64 0) ∧ Cl w' p k 3 ∧ Mod (fun i => i = p) w w'
      go_enter Try.func12, Try.ntmps12
      go_wp2_with fail
      refine hN.mono ?_
      rintro e w' ⟨rfl, rfl⟩
      go_wp2
      go_ret
      exact ⟨rfl, h.set1 3, (Mod.refl _ _).setCell _ _ (.inl rfl)⟩
theorem Start_any (p : Nat) (k s : Int) (w : World) (h : Cl w p k s) (hs : In s) : Calls Try.prog 14 #[.pointer (some ⟨p, 0, none⟩)] w fun e w' => e = .returned (.int .i64 (sE s)) ∧ Cl w' p k (sS s) ∧ Mod (fun i => i = p) w w' := by
  have hN := isNone_any p k s w h
  have c1 := h.c1
  have f1 := h.f 1
  have e0 : (s == 0) = false := by have := hs.bounds; simp; omega
  rw [e0] at hN
  rcases hs with rfl | rfl | rfl | rfl
  case inr.inr.inr =>
    show Calls _ _ _ _ fun e w' => e = .returned (.int .i64 0) ∧ Cl w' p k 1 ∧ Mod (fun i => i = p) w w'
    go_enter Try.func14, Try.ntmps14
    go_wp2_with fail
    refine hN.mono ?_
    rintro e w' ⟨rfl, rfl⟩
    go_wp2
    go_ret
    exact ⟨rfl, h.set1 1, (Mod.refl _ _).setCell _ _ (.inl rfl)⟩
  · show Calls _ _ _ _ fun e w' => e = .returned (.int .i64 80) ∧ Cl w' p k 1 ∧ Mod (fun i => i = p) w w'
    go_enter Try.func14, Try.ntmps14
    go_wp2_with fail
    refine hN.mono ?_
    rintro e w' ⟨rfl, rfl⟩
    go_wp2
    go_ret
    exact ⟨rfl, h, Mod.refl _ _⟩
  · show Calls _ _ _ _ fun e w' => e = .returned (.int .i64 80) ∧ Cl w' p k 2 ∧ Mod (fun i => i = p) w w'
    go_enter Try.func14, Try.ntmps14
    go_wp2_with fail
    refine hN.mono ?_
    rintro e w' ⟨rfl, rfl⟩
    go_wp2
    go_ret
    exact ⟨rfl, h, Mod.refl _ _⟩
  · show Calls _ _ _ _ fun e w' => e = .returned (.int .i64 80) ∧ Cl w' p k 3 ∧ Mod (fun i => i = p) w w'
    go_enter Try.func14, Try.ntmps14
    go_wp2_with fail
    refine hN.mono ?_
    rintro e w' ⟨rfl, rfl⟩
    go_wp2
    go_ret
    exact ⟨rfl, h, Mod.refl _ _⟩
theorem Write_down (p : Nat) (k n : Int) (w : World) (h : Cl w p k 4) : Calls Try.prog 10 #[.pointer (some ⟨p, 0, none⟩), .int .i64 n] w fun e w' => e = .returned (.int .i64 80) ∧ w' = w := by
  have hN := isNone_any p k 4 w h
  have c1 := h.c1
  go_enter Try.func10, Try.ntmps10
  go_wp2_with fail
  refine hN.mono ?_
  rintro e w' ⟨rfl, rfl⟩
  go_wp2
  go_ret
  exact ⟨rfl, rfl⟩
theorem Write_range (p : Nat) (k s n : Int) (w : World) (h : Cl w p k s) (hs : s = 1 ∨ s = 2 ∨ s = 3) (hn : n ≤ k ∨ 9007199254740991 < n) : Calls Try.prog 10 #[.pointer (some ⟨p, 0, none⟩), .int .i64 n] w fun e w' => e = .returned (.int .i64 9) ∧ w' = w := by
  have hN := isNone_any p k s w h
  have c1 := h.c1
  have c0 := h.c0
  have e0 : (s == 0) = false := by simp; omega
  have e4 : ¬ s = 4 := by omega
  rw [e0] at hN
  have hn' : n ≤ k ∨ (¬ n ≤ k ∧ 9007199254740991 < n) := by omega
  clear hn hs
  rcases hn' with hn | ⟨hn, hn2⟩
  all_goals
    go_enter Try.func10, Try.ntmps10
    go_wp2_with fail
    refine hN.mono ?_
    rintro e w' ⟨rfl, rfl⟩
    go_wp2
    go_ret
    exact ⟨rfl, rfl⟩
theorem Write_ok (p : Nat) (k s n : Int) (w : World) (h : Cl w p k s) (hs : s = 1 ∨ s = 2 ∨ s = 3) (h1 : ¬ n ≤ k) (h2 : ¬ 9007199254740991 < n) : Calls Try.prog 10 #[.pointer (some ⟨p, 0, none⟩), .int .i64 n] w fun e w' =>
    e = .returned (.int .i64 (if s = 1 then 0 else 270)) ∧ Cl w' p (if s = 2 then k else n) (if s = 1 then 1 else 4) ∧ Mod (fun i => i = p) w w' := by
  have hN := isNone_any p k s w h
  have c1 := h.c1
  have c0 := h.c0
  have f0 := h.f 0
  have f1 := h.f 1
  have e0 : (s == 0) = false := by simp; omega
  rw [e0] at hN
  rcases hs with rfl | rfl | rfl
  · show Calls _ _ _ _ fun e w' => e = .returned (.int .i64 0) ∧ Cl w' p n 1 ∧ Mod (fun i => i = p) w w'
    go_enter Try.func10, Try.ntmps10
    go_wp2_with fail
    refine hN.mono ?_
    rintro e w' ⟨rfl, rfl⟩
    go_wp2
    go_ret
    exact ⟨rfl, h.set0 n, (Mod.refl _ _).setCell _ _ (.inl rfl)⟩
  · show Calls _ _ _ _ fun e w' => e = .returned (.int .i64 270) ∧ Cl w' p k 4 ∧ Mod (fun i => i = p) w w'
    go_enter Try.func10, Try.ntmps10
    go_wp2_with fail
    refine hN.mono ?_
    rintro e w' ⟨rfl, rfl⟩
    go_wp2
    go_ret
    exact ⟨rfl, h.set1 4, (Mod.refl _ _).setCell _ _ (.inl rfl)⟩
  · show Calls _ _ _ _ fun e w' => e = .returned (.int .i64 270) ∧ Cl w' p n 4 ∧ Mod (fun i => i = p) w w'
    go_enter Try.func10, Try.ntmps10
    go_wp2_with fail
    refine hN.mono ?_
    rintro e w' ⟨rfl, rfl⟩
    go_wp2
    go_ret
    exact ⟨rfl, (h.set0 n).set1 4, ((Mod.refl (fun i => i = p) _).setCell ⟨p, 0, none⟩ _ (.inl rfl)).setCell ⟨p, 1, none⟩ _ (.inl rfl)⟩
theorem Write_any (p : Nat) (k s n : Int) (w : World) (h : Cl w p k s) (hs : In s) : Calls Try.prog 10 #[.pointer (some ⟨p, 0, none⟩), .int .i64 n] w fun e w' =>
    e = .returned (.int .i64 (wE k s n)) ∧ Cl w' p (wK k s n) (wS k s n) ∧ Mod (fun i => i = p) w w' := by
  rcases Classical.em (s = 4) with h4 | h4
  · subst h4
    refine (Write_down p k n w h).mono ?_
    rintro e w' ⟨rfl, rfl⟩
    exact ⟨by simp [wE], by simpa [wK, wS] using h, Mod.refl _ _⟩
  · have hs3 : s = 1 ∨ s = 2 ∨ s = 3 := by unfold In at hs; omega
    rcases Classical.em (n ≤ k ∨ 9007199254740991 < n) with hn | hn
    · refine (Write_range p k s n w h hs3 hn).mono ?_
      rintro e w' ⟨rfl, rfl⟩
      exact ⟨by rw [wE, if_neg h4, if_pos hn], by rw [wK, wS, if_neg h4, if_pos hn, if_neg h4, if_pos hn]; exact h, Mod.refl _ _⟩
    · refine (Write_ok p k s n w h hs3 (by omega) (by omega)).mono ?_
      rintro e w' ⟨rfl, hc, hm⟩
      exact ⟨by rw [wE, if_neg h4, if_neg hn], by rw [wK, wS, if_neg h4, if_neg hn, if_neg h4, if_neg hn]; exact hc, hm⟩
end Go.Proofs.Ytkpocogobcefpaa
