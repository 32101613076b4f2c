/- The document's timers: New, has, Left, Set, Clear, Fire and Tick answer as the program's, and leave what those leave. Conditions: ints. -/
import Derived.Test.YtkbncndinfimnaaCb
import Derived.Deep.RegionHeld3
import Derived.Laws.MakeOwn
namespace Go.Proofs.Ytkbncndinfimnaa
open Go.RowKit
/-- The cells that hold the ticks f of n timers. -/
def arr (f : Int → Int) (n : Nat) : Array Value := ((List.range n).map (fun j : Nat => Value.int .i64 (f (j : Int)))).toArray
theorem arr_size (f : Int → Int) (n : Nat) : (arr f n).size = n := by simp [arr]
theorem arr_get (f : Int → Int) (n j : Nat) (h : j < n) : (arr f n)[j]? = some (.int .i64 (f (j : Int))) := by simp [arr, h]
theorem arr_set (f : Int → Int) (n j : Nat) (t : Int) : (arr f n).setIfInBounds j (.int .i64 t) = arr (upd f j t) n := by
  apply Array.ext
  · simp [arr]
  · intro i h1 h2
    by_cases e : j = i
    · subst e
      simp [arr, upd]
    · have e' : ¬ (i : Int) = j := by omega
      simp [arr, e, upd, e']
theorem arr_zero (n : Nat) : madeCells (Value.int .i64 0).cells n = arr (fun _ => 0) n := by
  apply Array.ext
  · simp [madeCells, arr]
  · intro i h1 h2
    simp [madeCells, arr, Value.cells, Nat.mod_one]
/-- The document's n timers at block p, their ticks at block b. -/
structure Dl (w : World) (p b n : Nat) (f : Int → Int) : Prop where
  blk : w.heap[p]? = some (.cells #[.slice (some ⟨b, 0, none⟩) n n] 52 (0, 0))
  row : w.heap[b]? = some (.cells (arr f n) 3 (0, 0))
theorem Dl.mod {S : Nat → Prop} {w w' : World} {p b n : Nat} {f : Int → Int} (h : Dl w p b n f) (hm : Mod S w w') (hp : ¬ S p) (hb : ¬ S b) : Dl w' p b n f := ⟨hm.obj h.blk hp, hm.obj h.row hb⟩
theorem Dl.c0 {w : World} {p b n : Nat} {f : Int → Int} (h : Dl w p b n f) : w.cell? ⟨p, 0, none⟩ = some (.slice (some ⟨b, 0, none⟩) n n) := by simp [World.cell?, h.blk]
theorem Dl.at {w : World} {p b n : Nat} {f : Int → Int} (h : Dl w p b n f) (k : Nat) (hk : k < n) : w.cell? ⟨b, k, none⟩ = some (.int .i64 (f k)) := by simp [World.cell?, h.row, arr_get f n k hk]
theorem Dl.fz {w : World} {p b n : Nat} {f : Int → Int} (h : Dl w p b n f) (j : Nat) : w.frozen? ⟨b, j, none⟩ = false := by simp [World.frozen?, h.row]
theorem Dl.lt {w : World} {p b n : Nat} {f : Int → Int} (h : Dl w p b n f) : p < w.heap.size := lt_of_block h.blk
theorem Dl.ltb {w : World} {p b n : Nat} {f : Int → Int} (h : Dl w p b n f) : b < w.heap.size := lt_of_block h.row
theorem Dl.ne {w : World} {p b n : Nat} {f : Int → Int} (h : Dl w p b n f) : ¬ p = b := by
  rintro rfl
  have h1 := h.blk
  rw [h.row] at h1
  simp at h1
theorem Dl.set {w : World} {p b n : Nat} {f : Int → Int} (h : Dl w p b n f) (k : Nat) (t : Int) : Dl (w.setCell ⟨b, k, none⟩ (.int .i64 t)) p b n (upd f k t) := by
  refine ⟨((Mod.refl (fun i => i = b) w).setCell ⟨b, k, none⟩ (.int .i64 t) (.inl rfl)).obj h.blk h.ne, ?_⟩
  have := arr_set f n k t
  simp [World.setCell, Array.getElem?_modify, h.row, this]
theorem make_int (n : Nat) (hn : n ≤ 16) (W : World) : (Instr.makeSlice 36 (.int .i64 (n : Int)) (.int .i64 (n : Int))).run Try.prog W = .ok (.slice (some ⟨W.heap.size, 0, none⟩) n n) (W.alloc (.cells (arr (fun _ => 0) n) 3)) := by
  obtain ⟨i0, hi, hz0, hz1, hz2⟩ := info_parts info3
  have h := run_make (P := Try.prog) W 36 3 i0 (.int .i64 0) Try.underlying36 hi hz0 .i64 .i64 (n : Int) (n : Int) (by omega) (by omega) (by rw [hz2]; omega) (by omega)
  rw [h, hz1, Nat.mul_one, Int.toNat_natCast, arr_zero]
theorem dNew_bad (n : Int) (w : World) (h : n < 1 ∨ 16 < n) : Calls Try.prog 8 #[.int .i64 n] w fun e w' => e = .returned (.tuple #[.pointer none, .int .i64 2]) ∧ w' = w := by
  have h' : n < 1 ∨ (¬ n < 1 ∧ 16 < n) := by omega
  clear h
  rcases h' with h | ⟨h, h2⟩
  all_goals
    go_enter Try.func8, Try.ntmps8
    go_wp2
    go_ret2
    exact ⟨rfl, rfl⟩
theorem dNew_ok (n : Nat) (w : World) (h : ¬ (n : Int) < 1) (h2 : ¬ 16 < (n : Int)) : Calls Try.prog 8 #[.int .i64 n] w fun e w' => ∃ p b, e = .returned (.tuple #[.pointer (some ⟨p, 0, none⟩), .int .i64 0]) ∧ Dl w' p b n (fun _ => 0) ∧ Mod (fun _ => False) w w' ∧ w.heap.size ≤ p ∧ w.heap.size ≤ b := by
  have hmk := make_int n (by omega)
  have hA : Hid (∀ w : World, ((w.alloc (.cells (arr (fun _ => 0) n) 3)).heap[w.heap.size]? = some (.cells (arr (fun _ => 0) n) 3 (0, 0)))) := fun w => heap_alloc_new w _
  generalize hZ : arr (fun _ => 0) n = Z at *
  have HZ : Hid (arr (fun _ => 0) n = Z) := hZ
  clear hZ
  go_enter Try.func8, Try.ntmps8
  go_wp2
  go_ret2
  refine ⟨_, rfl, w.heap.size, ⟨?_, ?_⟩, ((Mod.refl _ _).alloc _).alloc _, by omega, Nat.le_refl _⟩
  · have := heap_alloc_new (w.alloc (.cells Z 3)) (Obj.cells #[.slice (some ⟨w.heap.size, 0, none⟩) n n] 52)
    simpa using this
  · rw [HZ.out]
    exact ((Mod.refl (fun _ => False) _).alloc _).obj (hA.out w) (fun h => h)
theorem has_any (p b n : Nat) (f : Int → Int) (k : Int) (w : World) (h : Dl w p b n f) : Calls Try.prog 24 #[.pointer (some ⟨p, 0, none⟩), .int .i64 k] w fun e w' => e = .returned (.bool (!decide (k < 0 ∨ (n : Int) ≤ k))) ∧ w' = w := by
  have c0 := h.c0
  have hk : ((!decide (k < 0 ∨ (n : Int) ≤ k)) = false ∧ k < 0) ∨ ((!decide (k < 0 ∨ (n : Int) ≤ k)) = false ∧ ¬ k < 0 ∧ ¬ k < (n : Int)) ∨ ((!decide (k < 0 ∨ (n : Int) ≤ k)) = true ∧ ¬ k < 0 ∧ k < (n : Int)) := by
    simp
    omega
  clear h
  generalize (!decide (k < 0 ∨ (n : Int) ≤ k)) = E at hk
  rcases hk with ⟨rfl, h1⟩ | ⟨rfl, h1, h2⟩ | ⟨rfl, h1, h2⟩
  all_goals
    go_enter Try.func24, Try.ntmps24
    go_wp2
    go_ret
    exact ⟨rfl, rfl⟩
theorem has_not {p b n : Nat} {f : Int → Int} {k : Int} {w : World} (h : Dl w p b n f) (hk : k < 0 ∨ (n : Int) ≤ k) : Calls Try.prog 24 #[.pointer (some ⟨p, 0, none⟩), .int .i64 k] w fun e w' => e = .returned (.bool false) ∧ w' = w := by
  have := has_any p b n f k w h
  rwa [show (!decide (k < 0 ∨ (n : Int) ≤ k)) = false by simp; omega] at this
theorem has_yes {p b n : Nat} {f : Int → Int} {k : Nat} {w : World} (h : Dl w p b n f) (hk : k < n) : Calls Try.prog 24 #[.pointer (some ⟨p, 0, none⟩), .int .i64 k] w fun e w' => e = .returned (.bool true) ∧ w' = w := by
  have := has_any p b n f k w h
  rwa [show (!decide ((k : Int) < 0 ∨ (n : Int) ≤ k)) = true by simp; omega] at this
theorem dLeft (p b n : Nat) (f : Int → Int) (k : Int) (w : World) (h : Dl w p b n f) (ok : Ok n f) : Calls Try.prog 21 #[.pointer (some ⟨p, 0, none⟩), .int .i64 k] w fun e w' => e = .returned (.int .i64 (f k)) ∧ w' = w := by
  rcases Classical.em (k < 0 ∨ (n : Int) ≤ k) with hk | hk
  · have hH := has_not h hk
    have e : f k = 0 := by
      rcases Classical.em (f k = 0) with h0 | h0
      · exact h0
      · have := ok.out k h0; omega
    rw [e]
    clear h ok hk e
    go_enter Try.func21, Try.ntmps21
    go_wp2_with (go_at_call 24; refine hH.mono ?_; rintro e w' ⟨rfl, rfl⟩)
    go_ret
    exact ⟨rfl, rfl⟩
  · obtain ⟨j, rfl⟩ : ∃ j : Nat, k = j := ⟨k.toNat, by omega⟩
    have hj : j < n := by omega
    have hjn : (j : Int) < (n : Int) := by omega
    have hH := has_yes h hj
    have c0 := h.c0
    have c1 := h.at j hj
    clear h ok hk hj
    generalize f j = y at c1 ⊢
    go_enter Try.func21, Try.ntmps21
    go_wp2_with (go_at_call 24; refine hH.mono ?_; rintro e w' ⟨rfl, rfl⟩)
    go_ret
    exact ⟨rfl, rfl⟩
theorem dSet (p b n : Nat) (f : Int → Int) (k t : Int) (w : World) (h : Dl w p b n f) : Calls Try.prog 12 #[.pointer (some ⟨p, 0, none⟩), .int .i64 k, .int .i64 t] w fun e w' => e = .returned (.int .i64 (sE n k t)) ∧ Dl w' p b n (sF n f k t) ∧ Mod (fun i => i = b) w w' := by
  rcases Classical.em (k < 0 ∨ (n : Int) ≤ k) with hk | hk
  · have e : k < 0 ∨ (n : Int) ≤ k ∨ t < 1 ∨ 10000 < t := by omega
    rw [sE, sF, if_pos e, if_pos e]
    have hH := has_not h hk
    clear hk e
    go_enter Try.func12, Try.ntmps12
    go_wp2_with (go_at_call 24; refine hH.mono ?_; rintro e w' ⟨rfl, rfl⟩)
    go_ret
    exact ⟨rfl, h, Mod.refl _ _⟩
  · obtain ⟨j, rfl⟩ : ∃ j : Nat, k = j := ⟨k.toNat, by omega⟩
    have hj : j < n := by omega
    have hjn : (j : Int) < (n : Int) := by omega
    have hH := has_yes h hj
    have c0 := h.c0
    have c1 := h.at j hj
    have fz := h.fz j
    rcases Classical.em (t < 1 ∨ 10000 < t) with ht | ht
    · have e : (j : Int) < 0 ∨ (n : Int) ≤ j ∨ t < 1 ∨ 10000 < t := by omega
      rw [sE, sF, if_pos e, if_pos e]
      have ht' : t < 1 ∨ (¬ t < 1 ∧ 10000 < t) := by omega
      clear ht e hk
      rcases ht' with h1 | ⟨h1, h2⟩
      all_goals
        go_enter Try.func12, Try.ntmps12
        go_wp2_with (go_at_call 24; refine hH.mono ?_; rintro e w' ⟨rfl, rfl⟩)
        go_ret
        exact ⟨rfl, h, Mod.refl _ _⟩
    · have e : ¬ ((j : Int) < 0 ∨ (n : Int) ≤ j ∨ t < 1 ∨ 10000 < t) := by omega
      rw [sE, sF, if_neg e, if_neg e]
      have h1 : ¬ t < 1 := by omega
      have h2 : ¬ 10000 < t := by omega
      have R := h.set j t
      have M := (Mod.refl (fun i => i = b) w).setCell ⟨b, j, none⟩ (.int .i64 t) (.inl rfl)
      clear ht e hk h hj
      generalize f j = y at c1
      go_enter Try.func12, Try.ntmps12
      go_wp2_with (go_at_call 24; refine hH.mono ?_; rintro e w' ⟨rfl, rfl⟩)
      go_ret
      exact ⟨rfl, R, M⟩
theorem dClear (p b n : Nat) (f : Int → Int) (k : Int) (w : World) (h : Dl w p b n f) : Calls Try.prog 14 #[.pointer (some ⟨p, 0, none⟩), .int .i64 k] w fun e w' => e = .returned (.int .i64 (kE n k)) ∧ Dl w' p b n (cF n f k) ∧ Mod (fun i => i = b) w w' := by
  rcases Classical.em (k < 0 ∨ (n : Int) ≤ k) with hk | hk
  · rw [kE, cF, if_pos hk, if_pos hk]
    have hH := has_not h hk
    clear hk
    go_enter Try.func14, Try.ntmps14
    go_wp2_with (go_at_call 24; refine hH.mono ?_; rintro e w' ⟨rfl, rfl⟩)
    go_ret
    exact ⟨rfl, h, Mod.refl _ _⟩
  · rw [kE, cF, if_neg hk, if_neg hk]
    obtain ⟨j, rfl⟩ : ∃ j : Nat, k = j := ⟨k.toNat, by omega⟩
    have hj : j < n := by omega
    have hjn : (j : Int) < (n : Int) := by omega
    have hH := has_yes h hj
    have c0 := h.c0
    have c1 := h.at j hj
    have fz := h.fz j
    have R := h.set j 0
    have M := (Mod.refl (fun i => i = b) w).setCell ⟨b, j, none⟩ (.int .i64 0) (.inl rfl)
    clear hk h hj
    generalize f j = y at c1
    go_enter Try.func14, Try.ntmps14
    go_wp2_with (go_at_call 24; refine hH.mono ?_; rintro e w' ⟨rfl, rfl⟩)
    go_ret
    exact ⟨rfl, R, M⟩
theorem dFire (p b n : Nat) (f : Int → Int) (k : Int) (w : World) (h : Dl w p b n f) : Calls Try.prog 16 #[.pointer (some ⟨p, 0, none⟩), .int .i64 k] w fun e w' => e = .returned (.int .i64 (fE n f k)) ∧ Dl w' p b n (cF n f k) ∧ Mod (fun i => i = b) w w' := by
  rcases Classical.em (k < 0 ∨ (n : Int) ≤ k) with hk | hk
  · rw [fE, cF, if_pos hk, if_pos hk]
    have hH := has_not h hk
    clear hk
    go_enter Try.func16, Try.ntmps16
    go_wp2_with (go_at_call 24; refine hH.mono ?_; rintro e w' ⟨rfl, rfl⟩)
    go_ret
    exact ⟨rfl, h, Mod.refl _ _⟩
  · rw [fE, cF, if_neg hk, if_neg hk]
    obtain ⟨j, rfl⟩ : ∃ j : Nat, k = j := ⟨k.toNat, by omega⟩
    have hj : j < n := by omega
    have hjn : (j : Int) < (n : Int) := by omega
    have hH := has_yes h hj
    have c0 := h.c0
    have c1 := h.at j hj
    have fz := h.fz j
    rcases Classical.em (f j = 0) with h0 | h0
    · rw [if_pos h0, upd_self h0]
      rw [h0] at c1
      clear hk hj h0
      go_enter Try.func16, Try.ntmps16
      go_wp2_with (go_at_call 24; refine hH.mono ?_; rintro e w' ⟨rfl, rfl⟩)
      go_ret
      exact ⟨rfl, h, Mod.refl _ _⟩
    · rw [if_neg h0]
      have R := h.set j 0
      have M := (Mod.refl (fun i => i = b) w).setCell ⟨b, j, none⟩ (.int .i64 0) (.inl rfl)
      have e0 : (f j == 0) = false := by simpa using h0
      clear hk h hj h0
      generalize f j = y at c1 e0
      go_enter Try.func16, Try.ntmps16
      go_wp2_with (go_at_call 24; refine hH.mono ?_; rintro e w' ⟨rfl, rfl⟩)
      go_ret
      exact ⟨rfl, R, M⟩
set_option maxRecDepth 100000 in
set_option maxHeartbeats 1000000 in
theorem dTick (p b n : Nat) (f : Int → Int) (w : World) (h : Dl w p b n f) (ok : Ok n f) : Calls Try.prog 19 #[.pointer (some ⟨p, 0, none⟩)] w fun e w' => ∃ v, e = .returned v ∧ Own w' v (dl f n) ∧ Dl w' p b n (tF f) ∧ Mod (fun i => i = b) w w' ∧ New w v := by
  obtain ⟨i0, hi, hz0, hz1, hz2⟩ := info_parts info3
  have hne := h.ne
  have hpl := h.lt
  have hbl := h.ltb
  have hn16 : (n : Int) ≤ 16 := by have := ok.num; omega
  have HL : Hid (Dl w p b n f) := h
  have HO : Hid (Ok n f) := ok
  clear h ok
  go_enter Try.func19, Try.ntmps19
  go_wp2
  go_loopw [3, 4] (fun s i wr => ∃ k : Nat, i = .int .i64 k ∧ k ≤ n ∧ Hid (Own wr s (dl f k)) ∧ Hid (Dl wr p b n (tP f k)) ∧ Hid (Mod (fun i => i = b) w wr) ∧ Hid (New w s)) (fun _ i _ => n - (intOf i).toNat)
  case atStart => exact ⟨0, rfl, by omega, by show Own _ _ _; exact Own.nil _, by show Dl _ _ _ _ _; rw [tP_zero]; exact HL.out, Mod.refl _ _, by intro g hg; simp [Value.ownBlock] at hg⟩
  case round =>
    obtain ⟨k, rfl, hk, hown, hal, hmod, hnew⟩ := hrel
    clear HL
    have c0 := hal.out.c0
    by_cases hlt : k < n
    · have hkn : (k : Int) < (n : Int) := by omega
      have c1 := hal.out.at k hlt
      have fz := hal.out.fz k
      rw [tP_at] at c1
      have hr := HO.out.rng k
      have hnb : Hid (∀ g, u3.ownBlock = some g → ¬ g = b) := fun g hg e => by have := hnew.out g hg; omega
      by_cases h0 : f k = 0
      · have e1 : Hid (dl f (k + 1) = dl f k) := dl_not (by omega)
        have e2 : Hid (tP f (k + 1) = tP f k) := tP_none h0
        rw [h0] at c1
        clear h0 hr
        go_wp2
        go_roundw
        case rel => exact ⟨k + 1, by go_num, by omega, by show Own _ _ _; rw [e1.out]; exact hown, by show Dl _ _ _ _ _; rw [e2.out]; exact hal, hmod, hnew⟩
        case measure => simp [intOf]; omega
      · have e2 : Hid (upd (tP f k) k (f k - 1) = tP f (k + 1)) := tP_upd h0
        by_cases h1 : f k = 1
        · have e1 : Hid (dl f (k + 1) = dl f k ++ [(k : Int)]) := dl_due h1
          have hll : Hid ((dl f k).length ≤ 16) := by have := dl_len f k; show _ ≤ _; omega
          rw [h1] at c1 e2
          clear h0 h1 hr
          generalize dl f k = l1 at hown hll e1
          go_wp2_with (at_builtin; refine wpList_append_lies _ rfl _ _ 36 rfl 0 3 i0 (.int .i64 0) 1 8 Try.underlying36 hi hz0 hz1 hz2 rfl (by decide) u3 l1.length (U l1) rfl (hown.out.alloc _) ⟨wr.heap.size, 0, none⟩ 1 1 [.int .i64 (k : Int)] rfl rfl (app1 _ _ _) (U_one [(k : Int)]) (by omega) (by have := hll.out; simp only [maxLen]; omega) (by have := hll.out; omega) (Nat.zero_le _) (wr.heap.size + 1) (by simp) ?_; intro g cap1 w3 hown1 hgrow hg hlt; have R := Own.one hmod.out hnew.out hown1 hgrow hg; have hm3 : Mod (fun i => i ≠ p ∧ i ≠ b) wr w3 := ((Mod.refl _ _).alloc _).grown hgrow (fun q hq hlt => by have := hnew.out q hq; constructor <;> omega); have hD3 : Hid (Dl w3 p b n (tP f k)) := hal.out.mod hm3 (by simp) (by simp); replace c0 := hm3.cell c0 (by simp); replace c1 := hm3.cell c1 (by simp); replace fz := hD3.out.fz k; clear hal hown1 hgrow hm3)
          have hgb : Hid (∀ q, (Value.slice (some ⟨g, 0, none⟩) (l1.length + 1) cap1).ownBlock = some q → ¬ q = b) := fun q hq e => by have := R.2.2 q hq; omega
          have M := ((Mod.refl (fun i => i = b) w3).setCell ⟨b, k, none⟩ (.int .i64 0) (.inl rfl)).drew
          have hD4 : Hid (Dl (w3.setCell ⟨b, k, none⟩ (.int .i64 0)).drew p b n (tP f (k + 1))) := by
            have := hD3.out.set k 0
            rw [show upd (tP f k) k 0 = tP f (k + 1) from e2.out] at this
            exact ⟨this.blk, this.row⟩
          go_region
          go_wp2
          go_roundw
          case rel => exact ⟨k + 1, by go_num, by omega, by show Own _ _ _; rw [e1.out]; exact R.1.mod M hgb.out, hD4, R.2.1.trans M (fun _ _ h => h) (fun _ _ h => h), R.2.2⟩
          case measure => simp [intOf]; omega
        · have e1 : Hid (dl f (k + 1) = dl f k) := dl_not h1
          have z1 : (f k == 1) = false := by simpa using h1
          have hy0 : ¬ f k ≤ 0 := by omega
          generalize hy : f k = y at *
          clear hy
          have M := ((Mod.refl (fun i => i = b) wr).setCell ⟨b, k, none⟩ (.int .i64 (y - 1)) (.inl rfl)).drew
          have hD4 : Hid (Dl (wr.setCell ⟨b, k, none⟩ (.int .i64 (y - 1))).drew p b n (tP f (k + 1))) := by
            have := hal.out.set k (y - 1)
            rw [e2.out] at this
            exact ⟨this.blk, this.row⟩
          go_wp2
          go_region
          go_wp2
          go_roundw
          case rel => exact ⟨k + 1, by go_num, by omega, by show Own _ _ _; rw [e1.out]; exact hown.out.mod M hnb.out, hD4, hmod.out.trans M (fun _ _ h => h) (fun _ _ h => h), hnew⟩
          case measure => simp [intOf]; omega
    · obtain rfl : k = n := by omega
      have e := tP_all HO.out
      have hA : Dl wr p b k (tF f) := by rw [← e]; exact hal.out
      clear hal e
      go_wp2
      go_ret
      exact ⟨_, rfl, hown.out, hA, hmod.out, hnew.out⟩
end Go.Proofs.Ytkbncndinfimnaa
