/- Contracts for WordKnown: EqInts, and the calls of writers and readers that are none (nil, or zero ones). No conditions. -/
import Derived.Test.YtfinaabhmdnjfaaDe
import Derived.Deep.QuietTactic
import Derived.BigQuiet
namespace Go.Proofs.Ytfinaabhmdnjfaa
open Go.RowKit
/-- Ints that the call owns. -/
def OwnI (w : World) (v : Value) (l : List Int) : Prop := w.ownsRow 0 3 1 v l.length (l.map (Value.int .i64))
theorem OwnI.mod {S : Nat → Prop} {w w' : World} {v : Value} {l : List Int} (h : OwnI w v l) (hm : Mod S w w') (hv : ∀ g, v.ownBlock = some g → ¬ S g) : OwnI w' v l := by
  obtain ⟨h1, h2⟩ := h
  refine ⟨h1, ?_⟩
  rcases h2 with h2 | ⟨g, cap, cur, rfl, hb, hg, r⟩
  · exact Or.inl h2
  · exact Or.inr ⟨g, cap, cur, rfl, hb, hm.obj hg (hv g rfl), r⟩
theorem OwnI.lt {w : World} {v : Value} {l : List Int} (h : OwnI w v l) : ∀ g, v.ownBlock = some g → g < w.heap.size := fun g hg => (World.ownsRow.lt h g hg).2
theorem OwnI.lit (w : World) (l : List Int) (hm : l.length ≤ maxLen) : OwnI (w.alloc (.cells (l.map (Value.int .i64)).toArray 3)) (.slice (some ⟨w.heap.size, 0, none⟩) l.length l.length) l :=
  ⟨by simp, .inr ⟨w.heap.size, l.length, (l.map (Value.int .i64)).toArray, rfl, Nat.zero_le _, heap_alloc_new w _, Nat.le_refl _, hm, by simp, by rw [Nat.mul_one, List.take_of_length_le (by simp)]⟩⟩
theorem OwnI.form {w : World} {v : Value} {l : List Int} (h : OwnI w v l) (hl : 0 < l.length) : ∃ g cap, v = .slice (some ⟨g, 0, none⟩) l.length cap ∧ ∀ j, j < l.length → w.cell? ⟨g, 0 + j, none⟩ = some (.int .i64 (l.getD j 0)) := by
  rcases h.2 with ⟨_, h0⟩ | ⟨g, cap, cur, rfl, hb, hg, hn, hcm, hcs, ht⟩
  · omega
  · refine ⟨g, cap, rfl, fun j hj => ?_⟩
    have := World.ownsRow.cellAt h j (by omega)
    rw [Nat.zero_add, this]
    simp [hj]
set_option maxRecDepth 100000 in
theorem EqInts_some (b1 o1 c1 b2 o2 c2 : Nat) (a b : List Int) (w : World) (hl : a.length = b.length) (hmax : a.length ≤ 9223372036854775807)
   (hca : ∀ j, j < a.length → w.cell? ⟨b1, o1 + j, none⟩ = some (.int .i64 (a.getD j 0)))
   (hcb : ∀ j, j < b.length → w.cell? ⟨b2, o2 + j, none⟩ = some (.int .i64 (b.getD j 0))) :
    Calls Try.prog 32 #[.slice (some ⟨b1, o1, none⟩) a.length c1, .slice (some ⟨b2, o2, none⟩) b.length c2] w fun e w' => e = .returned (.bool (decide (a = b))) ∧ ∃ n, w' = w.drewN n := by
  have HL : Hid (a.length = b.length) := hl
  obtain ⟨n, hn⟩ : ∃ n, n = a.length := ⟨_, rfl⟩
  rw [← hl, ← hn]
  rw [← hl] at hcb
  rw [← hn] at hmax hca hcb
  have HN : Hid (n = a.length) := hn
  clear hl hn
  go_enter Try.func32, Try.ntmps32
  go_wp2
  go_loopw [5] (fun i wr => ∃ k q : Nat, i = .int .i64 k ∧ k ≤ n ∧ Hid (a.take k = b.take k) ∧ wr = w.drewN q) (fun i _ => n - (intOf i).toNat)
  case atStart => exact ⟨0, 0, rfl, by omega, rfl, rfl⟩
  case round =>
    obtain ⟨k, q, rfl, hk, ht, rfl⟩ := hrel
    by_cases hlt : k < n
    · have h1 := hca k hlt
      have h2 := hcb k hlt
      have hi : (k : Int) < (n : Int) := by omega
      obtain ⟨x, hx⟩ : ∃ x, x = a.getD k 0 := ⟨_, rfl⟩
      obtain ⟨y, hy⟩ : ∃ y, y = b.getD k 0 := ⟨_, rfl⟩
      rw [← hx] at h1
      rw [← hy] at h2
      have HX : Hid (x = a.getD k 0) := hx
      have HY : Hid (y = b.getD k 0) := hy
      clear hx hy hca hcb
      go_wp2
      go_quiet (fail)
      go_wp2
      · have hne : x ≠ y := by have : (x != y) = true := by assumption
                               simpa using this
        go_ret
        refine ⟨?_, q + nq, by simp⟩
        have : ¬ a = b := by
          intro e
          apply hne
          rw [HX.out, HY.out, e]
        simp [this]
      · have heq : x = y := by have : (x != y) = false := by assumption
                               simpa using this
        have HT : Hid (a.take (k + 1) = b.take (k + 1)) := eq_take (by have := HN.out; omega) (by have := HN.out; have := HL.out; omega) ht.out (by rw [← HX.out, ← HY.out, heq])
        go_roundw
        case rel => exact ⟨k + 1, q + nq, by go_num, by omega, HT, by simp⟩
        case measure => simp [intOf]; omega
    · have e : a = b := by
        have h := ht.out
        have h1 := HN.out
        have h2 := HL.out
        rwa [List.take_of_length_le (by omega), List.take_of_length_le (by omega)] at h
      have HE : Hid (a = b) := e
      clear e hca hcb
      go_wp2
      go_ret
      exact ⟨by simp [HE.out], q, rfl⟩
theorem EqInts_same {u v : Value} {l : List Int} {w : World} (hu : OwnI w u l) (hv : OwnI w v l) (h0 : 0 < l.length) (hm : l.length ≤ 9223372036854775807) :
    Calls Try.prog 32 #[u, v] w fun e w' => e = .returned (.bool true) ∧ Mod (fun _ => False) w w' := by
  obtain ⟨g1, c1, rfl, h1⟩ := hu.form h0
  obtain ⟨g2, c2, rfl, h2⟩ := hv.form h0
  refine (EqInts_some g1 0 c1 g2 0 c2 l l w rfl hm h1 h2).mono ?_
  rintro e w' ⟨rfl, n, rfl⟩
  exact ⟨by simp, (Mod.refl _ _).drewN n⟩

/-- A writer, a reader that is none: nil, or a zero one. -/
def NoneW (w : World) (a : Option Addr) : Prop := a = none ∨ ∃ p, a = some ⟨p, 0, none⟩ ∧ w.cell? ⟨p, 0, none⟩ = some (.bool false)
theorem noW (a : Option Addr) (w : World) (h : NoneW w a) : Calls Try.prog 33 #[.pointer a] w fun e w' => e = .returned (.bool true) ∧ w' = w := by
  rcases h with rfl | ⟨p, rfl, hc⟩
  · go_enter Try.func33, Try.ntmps33
    go_wp2
    go_ret
    exact ⟨rfl, rfl⟩
  · go_enter Try.func33, Try.ntmps33
    go_wp2
    go_ret
    exact ⟨rfl, rfl⟩
theorem noR (a : Option Addr) (w : World) (h : NoneW w a) : Calls Try.prog 37 #[.pointer a] w fun e w' => e = .returned (.bool true) ∧ w' = w := by
  rcases h with rfl | ⟨p, rfl, hc⟩
  · go_enter Try.func37, Try.ntmps37
    go_wp2
    go_ret
    exact ⟨rfl, rfl⟩
  · go_enter Try.func37, Try.ntmps37
    go_wp2
    go_ret
    exact ⟨rfl, rfl⟩
theorem noPut (a : Option Addr) (x : Int) (w : World) (h : NoneW w a) : Calls Try.prog 12 #[.pointer a, .int .i64 x] w fun e w' => e = .returned (.int .i64 1) ∧ w' = w := by
  have H := noW a w h
  clear h
  go_enter Try.func12, Try.ntmps12
  go_wp2_with (go_at_call 33; refine H.mono ?_; rintro e w' ⟨rfl, rfl⟩)
  go_ret
  exact ⟨rfl, rfl⟩
theorem noFixed (a : Option Addr) (x y : Int) (w : World) (h : NoneW w a) : Calls Try.prog 14 #[.pointer a, .int .i64 x, .int .i64 y] w fun e w' => e = .returned (.int .i64 1) ∧ w' = w := by
  have H := noW a w h
  clear h
  go_enter Try.func14, Try.ntmps14
  go_wp2_with (go_at_call 33; refine H.mono ?_; rintro e w' ⟨rfl, rfl⟩)
  go_ret
  exact ⟨rfl, rfl⟩
theorem noOctets (a : Option Addr) (v : Value) (w : World) (h : NoneW w a) : Calls Try.prog 17 #[.pointer a, v] w fun e w' => e = .returned (.int .i64 1) ∧ w' = w := by
  have H := noW a w h
  clear h
  go_enter Try.func17, Try.ntmps17
  go_wp2_with (go_at_call 33; refine H.mono ?_; rintro e w' ⟨rfl, rfl⟩)
  go_ret
  exact ⟨rfl, rfl⟩
theorem noBytes (a : Option Addr) (w : World) (h : NoneW w a) : Calls Try.prog 20 #[.pointer a] w fun e w' => e = .returned (.slice none 0 0) ∧ w' = w := by
  have H := noW a w h
  clear h
  go_enter Try.func20, Try.ntmps20
  go_wp2_with (go_at_call 33; refine H.mono ?_; rintro e w' ⟨rfl, rfl⟩)
  go_ret
  exact ⟨rfl, rfl⟩
theorem noGet (a : Option Addr) (w : World) (h : NoneW w a) : Calls Try.prog 24 #[.pointer a] w fun e w' => e = .returned (.tuple #[.int .i64 0, .int .i64 1]) ∧ w' = w := by
  have H := noR a w h
  clear h
  go_enter Try.func24, Try.ntmps24
  go_wp2_with (go_at_call 37; refine H.mono ?_; rintro e w' ⟨rfl, rfl⟩)
  go_ret2
  exact ⟨rfl, rfl⟩
theorem noRFixed (a : Option Addr) (x : Int) (w : World) (h : NoneW w a) : Calls Try.prog 26 #[.pointer a, .int .i64 x] w fun e w' => e = .returned (.tuple #[.int .i64 0, .int .i64 1]) ∧ w' = w := by
  have H := noR a w h
  clear h
  go_enter Try.func26, Try.ntmps26
  go_wp2_with (go_at_call 37; refine H.mono ?_; rintro e w' ⟨rfl, rfl⟩)
  go_ret2
  exact ⟨rfl, rfl⟩
theorem noROctets (a : Option Addr) (x : Int) (w : World) (h : NoneW w a) : Calls Try.prog 28 #[.pointer a, .int .i64 x] w fun e w' => e = .returned (.tuple #[.slice none 0 0, .int .i64 1]) ∧ w' = w := by
  have H := noR a w h
  clear h
  go_enter Try.func28, Try.ntmps28
  go_wp2_with (go_at_call 37; refine H.mono ?_; rintro e w' ⟨rfl, rfl⟩)
  go_ret2
  exact ⟨rfl, rfl⟩
theorem noLeft (a : Option Addr) (w : World) (h : NoneW w a) : Calls Try.prog 30 #[.pointer a] w fun e w' => e = .returned (.int .i64 0) ∧ w' = w := by
  have H := noR a w h
  clear h
  go_enter Try.func30, Try.ntmps30
  go_wp2_with (go_at_call 37; refine H.mono ?_; rintro e w' ⟨rfl, rfl⟩)
  go_ret
  exact ⟨rfl, rfl⟩
end Go.Proofs.Ytfinaabhmdnjfaa
