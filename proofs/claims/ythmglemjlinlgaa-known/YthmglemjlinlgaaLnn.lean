/- Lanes that are none: what each call answers. No conditions. -/
import Derived.Test.YthmglemjlinlgaaLi
namespace Go.Proofs.Ythmglemjlinlgaa
open Go.RowKit
/-- A lane that is none, in whatever is laid behind. -/
def Nn (w : World) (v : Value) : Prop := (∃ a, v = .pointer a) ∧ ∀ W, Mod (fun _ => False) w W → Calls Try.prog 29 #[v] W fun e w' => e = .returned (.bool true) ∧ w' = W
theorem Nn.mod {w w' : World} {v : Value} (h : Nn w v) (hm : Mod (fun _ => False) w w') : Nn w' v := ⟨h.1, fun W hW => h.2 W (hm.and hW)⟩
theorem Nn.nil (w : World) : Nn w (.pointer none) := ⟨⟨_, rfl⟩, fun W _ => isNone_nil W⟩
theorem Nn.zero {w : World} {p : Nat} (h : w.cell? ⟨p, 0, none⟩ = some (.bool false)) : Nn w (.pointer (some ⟨p, 0, none⟩)) := ⟨⟨_, rfl⟩, fun W hW => isNone_zero p W (hW.cell h (fun h => h))⟩
theorem nLen {w : World} {v : Value} (h : Nn w v) : Calls Try.prog 22 #[v] w fun e w' => e = .returned (.int .i64 0) ∧ w' = w := by
  have hN := h.2 w (Mod.refl _ _)
  obtain ⟨⟨a, rfl⟩, _⟩ := h
  go_enter Try.func22, Try.ntmps22
  go_wp2_with (go_at_call 29; refine hN.mono ?_; rintro e w' ⟨rfl, rfl⟩)
  go_ret
  exact ⟨rfl, rfl⟩
theorem nCut {w : World} {v : Value} (h : Nn w v) (s : Int) : Calls Try.prog 20 #[v, .int .i64 s] w fun e w' => e = .returned (.int .i64 1) ∧ w' = w := by
  have hN := h.2 w (Mod.refl _ _)
  obtain ⟨⟨a, rfl⟩, _⟩ := h
  go_enter Try.func20, Try.ntmps20
  go_wp2_with (go_at_call 29; refine hN.mono ?_; rintro e w' ⟨rfl, rfl⟩)
  go_ret
  exact ⟨rfl, rfl⟩
theorem ncheck {w : World} {v : Value} (h : Nn w v) (i : Int) : Calls Try.prog 33 #[v, .int .i64 i] w fun e w' => e = .returned (.int .i64 1) ∧ w' = w := by
  have hN := h.2 w (Mod.refl _ _)
  obtain ⟨⟨a, rfl⟩, _⟩ := h
  go_enter Try.func33, Try.ntmps33
  go_wp2_with (go_at_call 29; refine hN.mono ?_; rintro e w' ⟨rfl, rfl⟩)
  go_ret
  exact ⟨rfl, rfl⟩
theorem nDouble {w : World} {v : Value} (h : Nn w v) (i : Int) : Calls Try.prog 16 #[v, .int .i64 i] w fun e w' => e = .returned (.int .i64 1) ∧ w' = w := by
  have hN := ncheck h i
  obtain ⟨⟨a, rfl⟩, _⟩ := h
  go_enter Try.func16, Try.ntmps16
  go_wp2_with (go_at_call 33; refine hN.mono ?_; rintro e w' ⟨rfl, rfl⟩)
  go_ret
  exact ⟨rfl, rfl⟩
theorem nFlip {w : World} {v : Value} (h : Nn w v) (i t : Int) : Calls Try.prog 18 #[v, .int .i64 i, .int .i64 t] w fun e w' => e = .returned (.int .i64 1) ∧ w' = w := by
  have hN := ncheck h i
  obtain ⟨⟨a, rfl⟩, _⟩ := h
  go_enter Try.func18, Try.ntmps18
  go_wp2_with (go_at_call 33; refine hN.mono ?_; rintro e w' ⟨rfl, rfl⟩)
  go_ret
  exact ⟨rfl, rfl⟩
theorem nTake {w : World} {v : Value} (h : Nn w v) (i : Int) : Calls Try.prog 13 #[v, .int .i64 i] w fun e w' => e = .returned (.tuple #[.agg #[.int .i64 0, .int .i64 0, .slice none 0 0], .int .i64 1]) ∧ Mod (fun _ => False) w w' := by
  have hm := (Mod.refl (fun _ => False) w).alloc (.cells #[.int .i64 0, .int .i64 0, .slice none 0 0] 30)
  have hN := ncheck (h.mod hm) i
  obtain ⟨⟨a, rfl⟩, _⟩ := h
  go_enter Try.func13, Try.ntmps13
  go_wp2_with (go_at_call 33; refine hN.mono ?_; rintro e w' ⟨rfl, rfl⟩)
  exact bodyPost_ret (res3 (x := .int .i64 0) (y := .int .i64 0) (z := .slice none 0 0) rfl rfl rfl (heap_alloc_new w _)) rfl ⟨rfl, hm⟩
theorem nPut {w : World} {v : Value} (h : Nn w v) : Calls Try.prog 10 #[v, .agg #[.int .i64 0, .int .i64 0, .slice none 0 0]] w fun e w' => e = .returned (.int .i64 1) ∧ Mod (fun _ => False) w w' := by
  have hm := (Mod.refl (fun _ => False) w).alloc (.cells #[.int .i64 0, .int .i64 0, .slice none 0 0] 30)
  have hN := h.2 _ hm
  obtain ⟨⟨a, rfl⟩, _⟩ := h
  go_enter Try.func10, Try.ntmps10
  go_wp2_with (go_at_call 29; refine hN.mono ?_; rintro e w' ⟨rfl, rfl⟩)
  go_ret
  exact ⟨rfl, hm⟩
theorem nReaches {w : World} {v : Value} (h : Nn w v) : Calls Try.prog 24 #[v, .int .i64 1, .int .i64 1] w fun e w' => e = .returned (.bool false) ∧ Mod (fun _ => False) w w' := by
  have hN := fun n => h.2 (w.drewN n) ((Mod.refl _ _).drewN n)
  obtain ⟨⟨a, rfl⟩, _⟩ := h
  go_enter Try.func24, Try.ntmps24
  go_wp2
  go_quiet (first | (go_at_call 29; exact Calls.quiet_of_same (hN _)))
  go_wp2
  go_ret
  exact ⟨rfl, (Mod.refl _ w).drewN _⟩
/-- The full lane. -/
def eg (i : Nat) : Dg := ⟨1, 1, [(i : Int) % 256]⟩
def LL (n : Nat) : List Dg := ⟨8, 8, []⟩ :: (List.range n).map fun i => eg (i + 1)
theorem LL_len (n : Nat) : (LL n).length = n + 1 := by simp [LL]
theorem LL_succ (n : Nat) : LL (n + 1) = LL n ++ [eg (n + 1)] := by simp [LL, List.range_succ]
theorem LL_put {n : Nat} (h : n < 4095) : pE (LL n) (eg (n + 1)) = 0 ∧ pL (LL n) (eg (n + 1)) = LL (n + 1) := by
  have e : (nd (eg (n + 1)).f && nd (eg (n + 1)).t) = true := rfl
  unfold pE pL
  rw [if_pos e, if_pos e]
  unfold aE aL
  rw [LL_len, if_neg (by omega), if_neg (by omega), LL_succ]
  exact ⟨rfl, rfl⟩
theorem mod_last {α : Type} (A : List α) (x : α) (f : α → α) : (A ++ [x]).modify A.length f = A ++ [f x] := by
  induction A with
  | nil => rfl
  | cons a A ih => simp [List.modify_succ_cons, ih]
theorem get_last {α : Type} (A : List α) (x d : α) : (A ++ [x]).getD A.length d = x := by simp
theorem era_last {α : Type} (A : List α) (x : α) : (A ++ [x]).eraseIdx A.length = A := by
  induction A with
  | nil => rfl
  | cons a A ih => simp [ih]
end Go.Proofs.Ythmglemjlinlgaa
