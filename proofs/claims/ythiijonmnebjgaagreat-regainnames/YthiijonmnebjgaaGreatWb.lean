/- Contracts of Put, Bytes, New and of the law's own put, for every number and every slice that reads as bytes. Conditions: what is written stays below 2^47 bytes. -/
import Derived.Test.YthiijonmnebjgaaGreatWa
namespace Go.Proofs.YthiijonmnebjgaaGreat
open Go.RowKit

theorem Put_ok (p : Nat) (v : Value) (l : List Int) (x : Int) (w : World) (h : Wr w p v l) (hx0 : 0 ≤ x) (hx : x ≤ 9007199254740991) (hb : l.length + 8 ≤ 140737488355328) :
    Calls Tryz.prog 84 #[.pointer (some ⟨p, 0, none⟩), .int .i64 x] w fun e w' => e = .returned (.int .i64 0) ∧ ∃ v', Wr w' p v' (l ++ enc x.toNat) ∧ Mod (fun k => k = p ∨ v.ownBlock = some k) w w' ∧ Fr w v v' := by
  obtain ⟨n, rfl⟩ := Int.eq_ofNat_of_zero_le hx0
  rw [Int.toNat_natCast]
  have h0 := h.c0
  have hn : n < 128 ^ 8 := by omega
  go_enter Tryz.func84, Tryz.ntmps84
  go_wp2_with (first | (go_at_call 85; refine (isnone_w p _ h0).mono ?_; rintro e w' ⟨rfl, rfl⟩) | (go_at_call 86; refine (put_any p v l n _ h hn hb).mono ?_; rintro e w' ⟨rfl, hp⟩))
  go_ret
  exact ⟨rfl, hp⟩
theorem Put_bad (p : Nat) (v : Value) (l : List Int) (x : Int) (w : World) (h : Wr w p v l) (hx : x < 0 ∨ 9007199254740991 < x) :
    Calls Tryz.prog 84 #[.pointer (some ⟨p, 0, none⟩), .int .i64 x] w fun e w' => e = .returned (.int .i64 9) ∧ w' = w := by
  have h0 := h.c0
  clear h
  rcases hx with hx | hx
  · go_enter Tryz.func84, Tryz.ntmps84
    go_wp2_with (go_at_call 85; refine (isnone_w p _ h0).mono ?_; rintro e w' ⟨rfl, rfl⟩)
    go_ret
    exact ⟨rfl, rfl⟩
  · have hx' : 0 ≤ x := by omega
    go_enter Tryz.func84, Tryz.ntmps84
    go_wp2_with (go_at_call 85; refine (isnone_w p _ h0).mono ?_; rintro e w' ⟨rfl, rfl⟩)
    go_ret
    exact ⟨rfl, rfl⟩
theorem Bytes_any (p : Nat) (v : Value) (l : List Int) (w : World) (h : Wr w p v l) (hb : l.length ≤ 140737488355328) :
    Calls Tryz.prog 66 #[.pointer (some ⟨p, 0, none⟩)] w fun e w' => ∃ v', e = .returned v' ∧ Own w' v' l ∧ Mod (fun _ => False) w w' ∧ (∀ g, v'.ownBlock = some g → w.heap.size ≤ g) := by
  have h0 := h.c0
  have h1 := h.c1
  have hs := h.own.sl h.rng
  go_enter Tryz.func66, Tryz.ntmps66
  go_wp2_with (first | (go_at_call 85; refine (isnone_w p _ h0).mono ?_; rintro e w' ⟨rfl, rfl⟩) | (go_at_call 58; refine (clone_any v l _ hs hb).mono ?_; rintro e w' ⟨v', rfl, ho, hm, hg⟩))
  go_ret
  exact ⟨_, rfl, ho, hm, hg⟩
/-- New: a reader of b. -/
theorem New_any (v : Value) (l : List Int) (w : World) (hs : Sl w v l) (hb : l.length ≤ 140737488355328) :
    Calls Tryz.prog 75 #[v] w fun e w' => ∃ p v', e = .returned (.pointer (some ⟨p, 0, none⟩)) ∧ Rd w' p v' l ∧ Mod (fun _ => False) w w' ∧ w.heap.size ≤ p ∧ p < w'.heap.size ∧ (∀ g, v'.ownBlock = some g → w.heap.size ≤ g ∧ g < w'.heap.size) := by
  go_enter Tryz.func75, Tryz.ntmps75
  go_wp2_with fail
  refine (clone_any v l _ hs hb).mono ?_
  rintro e w1 ⟨v', rfl, ho, hm, hg⟩
  obtain ⟨ao, cap, rfl⟩ := ho.shape
  go_wp2
  go_ret
  have hm2 := (Mod.refl (fun _ => False) w1).alloc (.cells #[.bool true, .slice ao l.length cap] 125)
  refine ⟨w1.heap.size, _, rfl, ⟨heap_alloc_new w1 _, ((ho.mod hm2 (fun _ _ h => h)).sl hs.rng), ?_⟩, hm.alloc _, hm.size, by simp, fun g h => ⟨hg g h, by have := ho.lt g h; simp; omega⟩⟩
  intro h
  have := ho.lt _ h
  omega
end Go.Proofs.YthiijonmnebjgaaGreat
