/- Contracts of packet's coder that reads, behind an error: nothing is read. Conditions: blocks apart. -/
import Derived.Test.YtajhpnfpjickbaaK44
namespace Go.Proofs.Ytajhpnfpjickbaa
open Go.RowKit
set_option maxRecDepth 100000 in
set_option maxHeartbeats 1000000 in
theorem numbers_bad (q pr : Nat) (E : Int) (hE : E ≠ 0) (pb m cap : Nat) (w : World) (h : Co w q pr E) (hp : ∀ k, k < m → ∃ a, w.cell? ⟨pb, k, none⟩ = some (.pointer a)) (hm : m ≤ 1000) :
    Calls Try.prog 105 #[.pointer (some ⟨q, 0, none⟩), .slice (some ⟨pb, 0, none⟩) m cap] w fun e w' => e = .returned (.tuple #[]) ∧ w' = w := by
  have HN := fun v => number_r1 q pr E v hE w h
  go_enter Try.func105, Try.ntmps105
  go_wp2
  go_loopw [8] (fun i wr => ∃ (k : Nat), i = .int .i64 k ∧ k ≤ m ∧ wr = w) (fun i _ => m - (intOf i).toNat)
  case atStart => exact ⟨0, rfl, by omega, rfl⟩
  case round =>
    obtain ⟨k, rfl, hk, rfl⟩ := hrel
    by_cases hlt : k < m
    · obtain ⟨a, ha⟩ := hp k hlt
      have hji : (k : Int) < m := by omega
      clear hp
      go_wp2_with (fail)
      refine (HN _).mono ?_
      rintro e w2 ⟨rfl, rfl⟩
      go_wp2
      go_roundw
      case rel => exact ⟨k + 1, by go_num, by omega, by first | rfl | trivial⟩
      case measure => simp [intOf]; omega
    · obtain rfl : k = m := by omega
      clear hp
      go_wp2
      go_end0
      exact ⟨rfl, rfl⟩
set_option maxRecDepth 100000 in
set_option maxHeartbeats 1000000 in
theorem ring_bad (q pr : Nat) (E : Int) (hE : E ≠ 0) (b off : Nat) (w : World) (h : Co w q pr E) :
    Calls Try.prog 107 #[.pointer (some ⟨q, 0, none⟩), .pointer (some ⟨b, off, none⟩)] w fun e w' => e = .returned (.tuple #[]) ∧ Co w' q pr E ∧ Mod (fun _ => False) w w' := by
  have hA : Mod (fun _ => False) w (w.alloc (.cells #[.pointer (some ⟨b, off, none⟩), .pointer (some ⟨b, off + 1, none⟩)] 131)).drew := ((Mod.refl _ w).alloc _).drew
  have hC : (w.alloc (.cells #[.pointer (some ⟨b, off, none⟩), .pointer (some ⟨b, off + 1, none⟩)] 131)).drew.heap[w.heap.size]? = some (.cells #[.pointer (some ⟨b, off, none⟩), .pointer (some ⟨b, off + 1, none⟩)] 131 (0, 0)) := heap_alloc_new w (.cells #[.pointer (some ⟨b, off, none⟩), .pointer (some ⟨b, off + 1, none⟩)] 131)
  have hD := h.mod hA (fun h => h)
  have HN := numbers_bad q pr E hE w.heap.size 2 2 _ hD (fun k hk => by
    unfold World.cell?
    dsimp only
    rw [hC]
    match k, hk with
    | 0, _ => exact ⟨_, rfl⟩
    | 1, _ => exact ⟨_, rfl⟩
    | k + 2, hk => omega) (by omega)
  clear hC
  clear h
  go_enter Try.func107, Try.ntmps107
  go_wp2_with (fail)
  go_region_held3 (fun _ => True) (trivial) ((go_at_call 105; refine HN.mono ?_; rintro e w1 ⟨rfl, rfl⟩))
  go_wp2
  go_end0
  exact ⟨rfl, hD, hA⟩
theorem message_bad (q pr : Nat) (E : Int) (hE : E ≠ 0) (v : Value) (w : World) (h : Co w q pr E) :
    Calls Try.prog 128 #[.pointer (some ⟨q, 0, none⟩), v] w fun e w' => e = .returned (.tuple #[]) ∧ w' = w := by
  have c2 := h.c2
  have he : (E != 0) = true := by simp [hE]
  go_enter Try.func128, Try.ntmps128
  go_wp2
  go_end0
  exact ⟨rfl, rfl⟩
set_option maxRecDepth 100000 in
set_option maxHeartbeats 1000000 in
theorem data_bad (q pr : Nat) (E : Int) (hE : E ≠ 0) (b off : Nat) (w : World) (h : Co w q pr E) :
    Calls Try.prog 103 #[.pointer (some ⟨q, 0, none⟩), .pointer (some ⟨b, off, none⟩)] w fun e w' => e = .returned (.tuple #[]) ∧ Co w' q pr E ∧ Mod (fun _ => False) w w' := by
  have H1 := ring_bad q pr E hE b off w h
  clear h
  go_enter Try.func103, Try.ntmps103
  go_wp2_with (fail)
  refine H1.mono ?_
  rintro e w1 ⟨rfl, h1, hm1⟩
  have hA : Mod (fun _ => False) w1 (w1.alloc (.cells #[.pointer (some ⟨b, off + 2, none⟩), .pointer (some ⟨b, off + 3, none⟩), .pointer (some ⟨b, off + 4, none⟩)] 131)).drew := ((Mod.refl _ w1).alloc _).drew
  have hC : (w1.alloc (.cells #[.pointer (some ⟨b, off + 2, none⟩), .pointer (some ⟨b, off + 3, none⟩), .pointer (some ⟨b, off + 4, none⟩)] 131)).drew.heap[w1.heap.size]? = some (.cells #[.pointer (some ⟨b, off + 2, none⟩), .pointer (some ⟨b, off + 3, none⟩), .pointer (some ⟨b, off + 4, none⟩)] 131 (0, 0)) := heap_alloc_new w1 (.cells #[.pointer (some ⟨b, off + 2, none⟩), .pointer (some ⟨b, off + 3, none⟩), .pointer (some ⟨b, off + 4, none⟩)] 131)
  have hD := h1.mod hA (fun h => h)
  have HN := numbers_bad q pr E hE w1.heap.size 3 3 _ hD (fun k hk => by
    unfold World.cell?
    dsimp only
    rw [hC]
    match k, hk with
    | 0, _ => exact ⟨_, rfl⟩
    | 1, _ => exact ⟨_, rfl⟩
    | 2, _ => exact ⟨_, rfl⟩
    | k + 3, hk => omega) (by omega)
  clear hC
  clear H1
  go_wp2_with (fail)
  go_region_held3 (fun _ => True) (trivial) ((go_at_call 105; refine HN.mono ?_; rintro e w2 ⟨rfl, rfl⟩))
  have H3 := fun v => message_bad q pr E hE v _ hD
  clear HN
  go_wp2_with (fail)
  refine (H3 _).mono ?_
  rintro e w3 ⟨rfl, rfl⟩
  go_wp2
  go_end0
  exact ⟨rfl, hD, hm1.trans hA (fun _ _ h => h) (fun _ _ h => h)⟩
theorem made0 (c : Array Value) : madeCells c 0 = #[] := Array.eq_empty_of_size_eq_zero (by rw [size_madeCells])
set_option maxRecDepth 100000 in
set_option maxHeartbeats 1000000 in
theorem listI_bad (q pr : Nat) (E : Int) (hE : E ≠ 0) (b off : Nat) (t : TypeId) (xs : Array Value) (ao : Option Addr) (cap : Nat) (w : World) (h : Co w q pr E) (hB : Bk w b t xs) (hx : xs[off]? = some (.slice ao 0 cap)) (hq : b ≠ q) :
    Calls Try.prog 129 #[.pointer (some ⟨q, 0, none⟩), .pointer (some ⟨b, off, none⟩), .int .i64 16, .func (.func 100) #[] #[]] w fun e w' => e = .returned (.tuple #[]) ∧ Co w' q pr E ∧ Mod (fun k => k = b) w w' := by
  obtain ⟨i0, hi, hz0, hz1, hz2⟩ := info_parts Cr.info3
  have hmk : ∀ W : World, (Instr.makeSlice 65 (.int .i64 0) (.int .i64 0)).run Try.prog W = .ok (.slice (some ⟨W.heap.size, 0, none⟩) 0 0) (W.alloc (.cells #[] 3)) := fun W => by
    have := run_make (P := Try.prog) W 65 3 i0 _ Try.underlying65 hi hz0 .i64 .i64 0 0 (by omega) (by omega) (by rw [hz2]; omega) (by omega)
    rw [this]
    show Result.ok _ (W.alloc (Obj.cells (madeCells _ (0 * i0.size)) _)) = _
    rw [Nat.zero_mul, made0]
    rfl
  have hql := lt_of_block h.blk
  have hbl := hB.lt
  have hA : Mod (fun _ => False) w (w.alloc (.cells #[.int .i64 0] 3)) := (Mod.refl _ w).alloc _
  have c0 := hB.cellv hx
  have h1 := h.mod hA (fun h => h)
  have H1 := fun v => number_r1 q pr E v hE _ h1
  have HR := reads_r q pr E _ h1
  have hb1 := hA.cell c0 (fun h => h)
  have hB1 := hB.mod hA (fun h => h)
  have hA2 := hA.alloc (.cells #[] 3)
  have hB2 := hB.mod hA2 (fun h => h)
  have h2 := h.mod hA2 (fun h => h)
  have hb2 := hB2.cellv hx
  have hf2 := hB2.frz off
  have hM : Mod (fun k => k = b) w (((w.alloc (.cells #[.int .i64 0] 3)).setCell ⟨b, off, none⟩ (.slice (some ⟨w.heap.size + 1, 0, none⟩) 0 0)).alloc (.cells #[] 3)) := ((hA.mono (T := fun k => k = b) (fun _ _ h => h.elim)).setCell ⟨b, off, none⟩ _ (.inl rfl)).alloc _
  have hC := (h1.other ⟨b, off, none⟩ (.slice (some ⟨w.heap.size + 1, 0, none⟩) 0 0) hq).mod ((Mod.refl (fun _ => False) _).alloc (.cells #[] 3)) (fun h => h)
  have hS := (hB2.set off (.slice (some ⟨w.heap.size + 1, 0, none⟩) 0 0)).cell off
  have hlt : off < xs.size := by
    rcases Nat.lt_or_ge off xs.size with h | h
    · exact h
    · rw [Array.getElem?_eq_none h] at hx; cases hx
  rw [Array.getElem?_setIfInBounds_self_of_lt hlt] at hS
  have hcn : (w.alloc (.cells #[.int .i64 0] 3)).cell? ⟨w.heap.size, 0, none⟩ = some (.int .i64 0) := by
    unfold World.cell?
    dsimp only
    rw [heap_alloc_new]
    rfl
  obtain ⟨w1, hw1⟩ : ∃ w1, w1 = w.alloc (.cells #[.int .i64 0] 3) := ⟨_, rfl⟩
  have hs1 : w1.heap.size = w.heap.size + 1 := by rw [hw1]; simp
  rw [← hw1] at H1 HR hcn hb1 hb2 hf2 hM hC hS
  clear h h1 h2 hB hB1 hB2 hA hA2 hx hi hz0 hz1 hz2
  go_enter Try.func129, Try.ntmps129
  go_wp2_with (fail)
  rw [← hw1]
  refine (H1 _).mono ?_
  rintro e w2 ⟨rfl, rfl⟩
  clear hw1
  go_wp2_with (fail)
  refine HR.mono ?_
  rintro e w3 ⟨rfl, rfl⟩
  rw [← hs1] at hS
  go_wp2
  go_loopw [31] (fun i wr => i = .int .i64 0 ∧ Co wr q pr E ∧ Mod (fun k => k = b) w wr) (fun _ _ => 0)
  case atStart => exact ⟨rfl, hC, hM⟩
  case round =>
    obtain ⟨rfl, hC', hM'⟩ := hrel
    go_wp2
    go_end0
    exact ⟨rfl, hC', hM'⟩
theorem infoE : (Try.prog.info? 167).map (fun i => (i.zero, i.size, i.bytes)) = some (some (.agg #[.int .i64 0, .int .i64 0, .int .i64 0, .int .i64 0, .int .i64 0, .int .i64 0]), 6, 48) := by kernel_rfl
set_option maxRecDepth 100000 in
set_option maxHeartbeats 1000000 in
theorem listE_bad (q pr : Nat) (E : Int) (hE : E ≠ 0) (b off : Nat) (t : TypeId) (xs : Array Value) (ao : Option Addr) (cap : Nat) (w : World) (h : Co w q pr E) (hB : Bk w b t xs) (hx : xs[off]? = some (.slice ao 0 cap)) (hq : b ≠ q) :
    Calls Try.prog 130 #[.pointer (some ⟨q, 0, none⟩), .pointer (some ⟨b, off, none⟩), .int .i64 8, .func (.func 131) #[] #[]] w fun e w' => e = .returned (.tuple #[]) ∧ Co w' q pr E ∧ Mod (fun k => k = b) w w' := by
  obtain ⟨i0, hi, hz0, hz1, hz2⟩ := info_parts infoE
  have hmk : ∀ W : World, (Instr.makeSlice 70 (.int .i64 0) (.int .i64 0)).run Try.prog W = .ok (.slice (some ⟨W.heap.size, 0, none⟩) 0 0) (W.alloc (.cells #[] 167)) := fun W => by
    have := run_make (P := Try.prog) W 70 167 i0 _ Try.underlying70 hi hz0 .i64 .i64 0 0 (by omega) (by omega) (by rw [hz2]; omega) (by omega)
    rw [this]
    show Result.ok _ (W.alloc (Obj.cells (madeCells _ (0 * i0.size)) _)) = _
    rw [Nat.zero_mul, made0]
    rfl
  have hql := lt_of_block h.blk
  have hbl := hB.lt
  have hA : Mod (fun _ => False) w (w.alloc (.cells #[.int .i64 0] 3)) := (Mod.refl _ w).alloc _
  have c0 := hB.cellv hx
  have h1 := h.mod hA (fun h => h)
  have H1 := fun v => number_r1 q pr E v hE _ h1
  have HR := reads_r q pr E _ h1
  have hb1 := hA.cell c0 (fun h => h)
  have hB1 := hB.mod hA (fun h => h)
  have hA2 := hA.alloc (.cells #[] 167)
  have hB2 := hB.mod hA2 (fun h => h)
  have h2 := h.mod hA2 (fun h => h)
  have hb2 := hB2.cellv hx
  have hf2 := hB2.frz off
  have hM : Mod (fun k => k = b) w (((w.alloc (.cells #[.int .i64 0] 3)).setCell ⟨b, off, none⟩ (.slice (some ⟨w.heap.size + 1, 0, none⟩) 0 0)).alloc (.cells #[] 167)) := ((hA.mono (T := fun k => k = b) (fun _ _ h => h.elim)).setCell ⟨b, off, none⟩ _ (.inl rfl)).alloc _
  have hC := (h1.other ⟨b, off, none⟩ (.slice (some ⟨w.heap.size + 1, 0, none⟩) 0 0) hq).mod ((Mod.refl (fun _ => False) _).alloc (.cells #[] 167)) (fun h => h)
  have hS := (hB2.set off (.slice (some ⟨w.heap.size + 1, 0, none⟩) 0 0)).cell off
  have hlt : off < xs.size := by
    rcases Nat.lt_or_ge off xs.size with h | h
    · exact h
    · rw [Array.getElem?_eq_none h] at hx; cases hx
  rw [Array.getElem?_setIfInBounds_self_of_lt hlt] at hS
  have hcn : (w.alloc (.cells #[.int .i64 0] 3)).cell? ⟨w.heap.size, 0, none⟩ = some (.int .i64 0) := by
    unfold World.cell?
    dsimp only
    rw [heap_alloc_new]
    rfl
  obtain ⟨w1, hw1⟩ : ∃ w1, w1 = w.alloc (.cells #[.int .i64 0] 3) := ⟨_, rfl⟩
  have hs1 : w1.heap.size = w.heap.size + 1 := by rw [hw1]; simp
  rw [← hw1] at H1 HR hcn hb1 hb2 hf2 hM hC hS
  clear h h1 h2 hB hB1 hB2 hA hA2 hx hi hz0 hz1 hz2
  go_enter Try.func130, Try.ntmps130
  go_wp2_with (fail)
  rw [← hw1]
  refine (H1 _).mono ?_
  rintro e w2 ⟨rfl, rfl⟩
  clear hw1
  go_wp2_with (fail)
  refine HR.mono ?_
  rintro e w3 ⟨rfl, rfl⟩
  rw [← hs1] at hS
  go_wp2
  go_loopw [31] (fun i wr => i = .int .i64 0 ∧ Co wr q pr E ∧ Mod (fun k => k = b) w wr) (fun _ _ => 0)
  case atStart => exact ⟨rfl, hC, hM⟩
  case round =>
    obtain ⟨rfl, hC', hM'⟩ := hrel
    go_wp2
    go_end0
    exact ⟨rfl, hC', hM'⟩
end Go.Proofs.Ytajhpnfpjickbaa
