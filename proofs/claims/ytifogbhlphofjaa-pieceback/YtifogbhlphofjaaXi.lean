/- Contracts of piece's Split and of the document's, of messages that may not be split by, and of too long payloads. Conditions: sizes that a slice of bytes has. -/
import Derived.Test.YtifogbhlphofjaaXh
import Derived.Test.YtifogbhlphofjaaRx
namespace Go.Proofs.Ytifogbhlphofjaa
open Go.RowKit Go.Maps
set_option maxRecDepth 100000 in
theorem Split_bad (k o lf i p ps g : Int) (s : Bool) (st rs rr sq : Int) (ao : Option Addr) (cap : Nat) (l : List Int) (ap : Option Addr) (cp : Nat) (pl : List Int) (w : World) (hs : Sl w (.slice ao l.length cap) l) (hB : isB ⟨k, o, lf, i, p, ps, g, s, st, rs, rr, sq, l⟩ = false) :
    Calls Try.prog 10 #[.agg #[.int .i64 k, .int .i64 o, .int .i64 lf, .int .i64 i, .int .i64 p, .int .i64 ps, .int .i64 g, .bool s, .int .i64 st, .int .i64 rs, .int .i64 rr, .int .i64 sq, .slice ao l.length cap], .slice ap pl.length cp] w fun e w' => e = .returned (.tuple #[.slice none 0 0, .int .i64 2]) ∧ Mod (fun _ => False) w w' := by
  have hA := (Mod.refl (fun _ => False) w).alloc (.cells #[.int .i64 k, .int .i64 o, .int .i64 lf, .int .i64 i, .int .i64 p, .int .i64 ps, .int .i64 g, .bool s, .int .i64 st, .int .i64 rs, .int .i64 rr, .int .i64 sq, .slice ao l.length cap] 28)
  have HB := isBlank_any k o lf i p ps g s st rs rr sq ao cap l _ (hs.mod hA (fun _ _ h => h))
  rw [hB] at HB
  clear hB
  go_enter Try.func10, Try.ntmps10
  go_wp2_with (go_at_call 26; refine HB.mono ?_; rintro e w1 ⟨rfl, hm1⟩)
  go_ret2
  exact ⟨rfl, hA.trans hm1 (fun _ _ h => h) (fun _ _ h => h)⟩
set_option maxRecDepth 100000 in
theorem Split_long (k o lf i p ps g : Int) (s : Bool) (st rs rr sq : Int) (ao : Option Addr) (cap : Nat) (l : List Int) (ap : Option Addr) (cp : Nat) (pl : List Int) (w : World) (hs : Sl w (.slice ao l.length cap) l) (hB : isB ⟨k, o, lf, i, p, ps, g, s, st, rs, rr, sq, l⟩ = true) (hL : 200 < pl.length) :
    Calls Try.prog 10 #[.agg #[.int .i64 k, .int .i64 o, .int .i64 lf, .int .i64 i, .int .i64 p, .int .i64 ps, .int .i64 g, .bool s, .int .i64 st, .int .i64 rs, .int .i64 rr, .int .i64 sq, .slice ao l.length cap], .slice ap pl.length cp] w fun e w' => e = .returned (.tuple #[.slice none 0 0, .int .i64 5]) ∧ Mod (fun _ => False) w w' := by
  have hA := (Mod.refl (fun _ => False) w).alloc (.cells #[.int .i64 k, .int .i64 o, .int .i64 lf, .int .i64 i, .int .i64 p, .int .i64 ps, .int .i64 g, .bool s, .int .i64 st, .int .i64 rs, .int .i64 rr, .int .i64 sq, .slice ao l.length cap] 28)
  have HB := isBlank_any k o lf i p ps g s st rs rr sq ao cap l _ (hs.mod hA (fun _ _ h => h))
  rw [hB] at HB
  have hLi : (200 : Int) < (pl.length : Int) := by omega
  clear hB
  go_enter Try.func10, Try.ntmps10
  go_wp2_with (go_at_call 26; refine HB.mono ?_; rintro e w1 ⟨rfl, hm1⟩)
  go_ret2
  exact ⟨rfl, hA.trans hm1 (fun _ _ h => h) (fun _ _ h => h)⟩
/-- The document's conditions, one behind the other. -/
theorem isB_cases {k o lf i p ps g : Int} {s : Bool} {st rs rr sq : Int} {l : List Int} (h : isB ⟨k, o, lf, i, p, ps, g, s, st, rs, rr, sq, l⟩ = false) : k ≠ 1 ∨ (k = 1 ∧ p ≠ 0) ∨ (k = 1 ∧ p = 0 ∧ ps ≠ 0) ∨ (k = 1 ∧ p = 0 ∧ ps = 0 ∧ l ≠ []) ∨ (k = 1 ∧ p = 0 ∧ ps = 0 ∧ l = [] ∧ (decide (st = 0) && (decide (rs = 0) && (decide (rr = 0) && decide (sq = 0)))) = false) ∨
    (k = 1 ∧ p = 0 ∧ ps = 0 ∧ l = [] ∧ (decide (st = 0) && (decide (rs = 0) && (decide (rr = 0) && decide (sq = 0)))) = true ∧ chk ⟨k, o, lf, i, p, 1, g, s, st, rs, rr, sq, l⟩ ≠ 0) := by
  have e : isB ⟨k, o, lf, i, p, ps, g, s, st, rs, rr, sq, l⟩ = (decide (p = 0) && (decide (ps = 0) && (decide (l.length = 0) && ((decide (st = 0) && (decide (rs = 0) && (decide (rr = 0) && decide (sq = 0)))) && (k == 1 && chk ⟨k, o, lf, i, p, 1, g, s, st, rs, rr, sq, l⟩ == 0))))) := rfl
  rw [e] at h
  clear e
  by_cases h1 : k = 1
  · by_cases h2 : p = 0
    · by_cases h3 : ps = 0
      · by_cases h4 : l = []
        · cases h5 : (decide (st = 0) && (decide (rs = 0) && (decide (rr = 0) && decide (sq = 0))))
          · exact .inr (.inr (.inr (.inr (.inl ⟨h1, h2, h3, h4, rfl⟩))))
          · refine .inr (.inr (.inr (.inr (.inr ⟨h1, h2, h3, h4, rfl, fun h6 => ?_⟩))))
            rw [h5, h6] at h
            simp [h1, h2, h3, h4] at h
        · exact .inr (.inr (.inr (.inl ⟨h1, h2, h3, h4⟩)))
      · exact .inr (.inr (.inl ⟨h1, h2, h3⟩))
    · exact .inr (.inl ⟨h1, h2⟩)
  · exact .inl h1
theorem isB_true {k o lf i p ps g : Int} {s : Bool} {st rs rr sq : Int} {l : List Int} (h : isB ⟨k, o, lf, i, p, ps, g, s, st, rs, rr, sq, l⟩ = true) : k = 1 ∧ p = 0 ∧ ps = 0 ∧ l = [] ∧ st = 0 ∧ rs = 0 ∧ rr = 0 ∧ sq = 0 ∧ chk ⟨k, o, lf, i, p, 1, g, s, st, rs, rr, sq, l⟩ = 0 := by
  have e : isB ⟨k, o, lf, i, p, ps, g, s, st, rs, rr, sq, l⟩ = (decide (p = 0) && (decide (ps = 0) && (decide (l.length = 0) && ((decide (st = 0) && (decide (rs = 0) && (decide (rr = 0) && decide (sq = 0)))) && (k == 1 && chk ⟨k, o, lf, i, p, 1, g, s, st, rs, rr, sq, l⟩ == 0))))) := rfl
  rw [e] at h
  simp only [Bool.and_eq_true, decide_eq_true_eq, beq_iff_eq] at h
  obtain ⟨a1, a2, a3, ⟨a4, a5, a6, a7⟩, a8, a9⟩ := h
  exact ⟨a8, a1, a2, List.eq_nil_of_length_eq_zero a3, a4, a5, a6, a7, a9⟩
set_option maxRecDepth 100000 in
set_option maxHeartbeats 2000000 in
theorem dSplit_bad (k o lf i p ps g : Int) (s : Bool) (st rs rr sq : Int) (ao : Option Addr) (cap : Nat) (l : List Int) (ap : Option Addr) (cp : Nat) (pl : List Int) (w : World) (hs : Sl w (.slice ao l.length cap) l) (hB : isB ⟨k, o, lf, i, p, ps, g, s, st, rs, rr, sq, l⟩ = false) :
    Calls Try.prog 11 #[.agg #[.int .i64 k, .int .i64 o, .int .i64 lf, .int .i64 i, .int .i64 p, .int .i64 ps, .int .i64 g, .bool s, .int .i64 st, .int .i64 rs, .int .i64 rr, .int .i64 sq, .slice ao l.length cap], .slice ap pl.length cp] w fun e w' => e = .returned (.tuple #[.slice none 0 0, .int .i64 2]) ∧ Mod (fun _ => False) w w' := by
  have EK := eqKey st rs rr sq 0 0 0 0
  rcases isB_cases hB with h | ⟨rfl, h⟩ | ⟨rfl, rfl, h⟩ | ⟨rfl, rfl, rfl, h⟩ | ⟨rfl, rfl, rfl, rfl, h⟩ | ⟨rfl, rfl, rfl, rfl, h, h6⟩
  · clear hB
    have hA := ((Mod.refl (fun _ => False) w).alloc (.cells #[.int .i64 k, .int .i64 o, .int .i64 lf, .int .i64 i, .int .i64 p, .int .i64 ps, .int .i64 g, .bool s, .int .i64 st, .int .i64 rs, .int .i64 rr, .int .i64 sq, .slice ao l.length cap] 28)).alloc (.cells #[.int .i64 k, .int .i64 o, .int .i64 lf, .int .i64 i, .int .i64 p, .int .i64 1, .int .i64 g, .bool s, .int .i64 st, .int .i64 rs, .int .i64 rr, .int .i64 sq, .slice ao l.length cap] 28)
    have e1 : (k != 1) = true := by simp [h]
    clear h
    go_enter Try.func11, Try.ntmps11
    go_wp2_with (fail)
    go_ret2
    exact ⟨rfl, hA⟩
  · clear hB
    have hA := ((Mod.refl (fun _ => False) w).alloc (.cells #[.int .i64 1, .int .i64 o, .int .i64 lf, .int .i64 i, .int .i64 p, .int .i64 ps, .int .i64 g, .bool s, .int .i64 st, .int .i64 rs, .int .i64 rr, .int .i64 sq, .slice ao l.length cap] 28)).alloc (.cells #[.int .i64 1, .int .i64 o, .int .i64 lf, .int .i64 i, .int .i64 p, .int .i64 1, .int .i64 g, .bool s, .int .i64 st, .int .i64 rs, .int .i64 rr, .int .i64 sq, .slice ao l.length cap] 28)
    have e1 : (p != 0) = true := by simp [h]
    clear h
    go_enter Try.func11, Try.ntmps11
    go_wp2_with (fail)
    go_ret2
    exact ⟨rfl, hA⟩
  · clear hB
    have hA := ((Mod.refl (fun _ => False) w).alloc (.cells #[.int .i64 1, .int .i64 o, .int .i64 lf, .int .i64 i, .int .i64 0, .int .i64 ps, .int .i64 g, .bool s, .int .i64 st, .int .i64 rs, .int .i64 rr, .int .i64 sq, .slice ao l.length cap] 28)).alloc (.cells #[.int .i64 1, .int .i64 o, .int .i64 lf, .int .i64 i, .int .i64 0, .int .i64 1, .int .i64 g, .bool s, .int .i64 st, .int .i64 rs, .int .i64 rr, .int .i64 sq, .slice ao l.length cap] 28)
    have e1 : (ps != 0) = true := by simp [h]
    clear h
    go_enter Try.func11, Try.ntmps11
    go_wp2_with (fail)
    go_ret2
    exact ⟨rfl, hA⟩
  · clear hB
    have hA := ((Mod.refl (fun _ => False) w).alloc (.cells #[.int .i64 1, .int .i64 o, .int .i64 lf, .int .i64 i, .int .i64 0, .int .i64 0, .int .i64 g, .bool s, .int .i64 st, .int .i64 rs, .int .i64 rr, .int .i64 sq, .slice ao l.length cap] 28)).alloc (.cells #[.int .i64 1, .int .i64 o, .int .i64 lf, .int .i64 i, .int .i64 0, .int .i64 1, .int .i64 g, .bool s, .int .i64 st, .int .i64 rs, .int .i64 rr, .int .i64 sq, .slice ao l.length cap] 28)
    have e3 : 0 < l.length := Nat.pos_of_ne_zero (fun e => h (List.eq_nil_of_length_eq_zero e))
    go_enter Try.func11, Try.ntmps11
    go_wp2_with (fail)
    go_ret2
    exact ⟨rfl, hA⟩
  · clear hB
    simp only [List.length_nil] at hs ⊢
    rw [h] at EK
    clear h
    have hA := ((Mod.refl (fun _ => False) w).alloc (.cells #[.int .i64 1, .int .i64 o, .int .i64 lf, .int .i64 i, .int .i64 0, .int .i64 0, .int .i64 g, .bool s, .int .i64 st, .int .i64 rs, .int .i64 rr, .int .i64 sq, .slice ao 0 cap] 28)).alloc (.cells #[.int .i64 1, .int .i64 o, .int .i64 lf, .int .i64 i, .int .i64 0, .int .i64 1, .int .i64 g, .bool s, .int .i64 st, .int .i64 rs, .int .i64 rr, .int .i64 sq, .slice ao 0 cap] 28)
    go_enter Try.func11, Try.ntmps11
    go_wp2_with (fail)
    go_ret2
    exact ⟨rfl, hA⟩
  · clear hB
    simp only [List.length_nil] at hs ⊢
    rw [h] at EK
    clear h
    have HC : ∀ W, Mod (fun _ => False) w W → _ := fun W (hm : Mod (fun _ => False) w W) => dCheck 1 o lf i 0 1 g s st rs rr sq ao cap [] W (hs.mod hm (fun _ _ h => h))
    simp only [List.length_nil] at HC
    generalize chk ⟨1, o, lf, i, 0, 1, g, s, st, rs, rr, sq, []⟩ = E at HC h6
    have e6 : (E != 0) = true := by simp [h6]
    clear h6
    have hA := ((Mod.refl (fun _ => False) w).alloc (.cells #[.int .i64 1, .int .i64 o, .int .i64 lf, .int .i64 i, .int .i64 0, .int .i64 0, .int .i64 g, .bool s, .int .i64 st, .int .i64 rs, .int .i64 rr, .int .i64 sq, .slice ao 0 cap] 28)).alloc (.cells #[.int .i64 1, .int .i64 o, .int .i64 lf, .int .i64 i, .int .i64 0, .int .i64 1, .int .i64 g, .bool s, .int .i64 st, .int .i64 rs, .int .i64 rr, .int .i64 sq, .slice ao 0 cap] 28)
    go_enter Try.func11, Try.ntmps11
    go_wp2_with (fail)
    refine (HC _ hA).mono ?_
    rintro e w2 ⟨rfl, hm2⟩
    go_wp2_with (fail)
    go_ret2
    exact ⟨rfl, hA.trans hm2 (fun _ _ h => h) (fun _ _ h => h)⟩
set_option maxRecDepth 100000 in
set_option maxHeartbeats 2000000 in
theorem dSplit_long (k o lf i p ps g : Int) (s : Bool) (st rs rr sq : Int) (ao : Option Addr) (cap : Nat) (l : List Int) (ap : Option Addr) (cp : Nat) (pl : List Int) (w : World) (hs : Sl w (.slice ao l.length cap) l) (hB : isB ⟨k, o, lf, i, p, ps, g, s, st, rs, rr, sq, l⟩ = true) (hL : 200 < pl.length) :
    Calls Try.prog 11 #[.agg #[.int .i64 k, .int .i64 o, .int .i64 lf, .int .i64 i, .int .i64 p, .int .i64 ps, .int .i64 g, .bool s, .int .i64 st, .int .i64 rs, .int .i64 rr, .int .i64 sq, .slice ao l.length cap], .slice ap pl.length cp] w fun e w' => e = .returned (.tuple #[.slice none 0 0, .int .i64 5]) ∧ Mod (fun _ => False) w w' := by
  have EK := eqKey 0 0 0 0 0 0 0 0
  obtain ⟨rfl, rfl, rfl, rfl, rfl, rfl, rfl, rfl, h6⟩ := isB_true hB
  clear hB
  have hLi : (200 : Int) < (pl.length : Int) := by omega
  simp only [List.length_nil] at hs ⊢
  simp only [decide_true, Bool.and_self] at EK
  have HC : ∀ W, Mod (fun _ => False) w W → _ := fun W (hm : Mod (fun _ => False) w W) => dCheck 1 o lf i 0 1 g s 0 0 0 0 ao cap [] W (hs.mod hm (fun _ _ h => h))
  simp only [List.length_nil] at HC
  rw [h6] at HC
  clear h6
  have hA := ((Mod.refl (fun _ => False) w).alloc (.cells #[.int .i64 1, .int .i64 o, .int .i64 lf, .int .i64 i, .int .i64 0, .int .i64 0, .int .i64 g, .bool s, .int .i64 0, .int .i64 0, .int .i64 0, .int .i64 0, .slice ao 0 cap] 28)).alloc (.cells #[.int .i64 1, .int .i64 o, .int .i64 lf, .int .i64 i, .int .i64 0, .int .i64 1, .int .i64 g, .bool s, .int .i64 0, .int .i64 0, .int .i64 0, .int .i64 0, .slice ao 0 cap] 28)
  go_enter Try.func11, Try.ntmps11
  go_wp2_with (fail)
  refine (HC _ hA).mono ?_
  rintro e w2 ⟨rfl, hm2⟩
  go_wp2_with (fail)
  go_ret2
  exact ⟨rfl, hA.trans hm2 (fun _ _ h => h) (fun _ _ h => h)⟩
end Go.Proofs.Ytifogbhlphofjaa
