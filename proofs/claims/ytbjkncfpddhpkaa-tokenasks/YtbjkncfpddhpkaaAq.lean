/- Contracts of the closure of token's Answer, and of the library's DeleteFunc with it. Conditions: sizes that a slice has. -/
import Derived.Test.YtbjkncfpddhpkaaAp
import Derived.Lib.SliceRun
namespace Go.Proofs.Ytbjkncfpddhpkaa
open Go.Shelf Go.RowKit Go.Lib Go.Sort
/-- A sorted slice, as its cells say it. -/
structure Th (W : World) (tv : Value) (T : List Int) : Prop where
  form : (tv = .slice none 0 0 ∧ T = []) ∨ ∃ g cap, tv = .slice (some ⟨g, 0, none⟩) T.length cap ∧ ∀ j, j < T.length → W.cell? ⟨g, 0 + j, none⟩ = some (.int .i64 (T.getD j 0))
  up : T.Pairwise (· ≤ ·)
  len : T.length ≤ 140737488355328
theorem bs_th {W : World} {tv : Value} {T : List Int} (h : Th W tv T) (x : Int) : Calls Try.prog 35 #[tv, .int .i64 x] W fun e w' => e = .returned (.tuple #[.int .i64 (T.countP (· < x) : Nat), .bool (T.contains x)]) ∧ ∃ q, w' = W.drewN q := by
  rcases h.form with ⟨rfl, rfl⟩ | ⟨g, cap, rfl, hc⟩
  · refine (Any.slices_BinarySearch_int_empty lays25 none 0 x W).mono ?_
    rintro e w' ⟨rfl, rfl⟩
    exact ⟨rfl, 0, rfl⟩
  · have hk := Any.slices_BinarySearch_int lays25 g 0 T.length cap T x W (Nat.le_refl _) (by have := h.len; omega) (fun j hj => hc j hj) (by rw [List.take_length]; exact h.up)
    rw [List.take_length] at hk
    exact hk
/-- The closure: whether a number is there. -/
theorem gives (B : Nat) (tv : Value) (T : List Int) (x : Int) (W : World) (hB : W.cell? ⟨B, 0, none⟩ = some tv) (h : Th W tv T) : FnGives Try.prog 34 #[.pointer (some ⟨B, 0, none⟩)] #[.int .i64 x] (.bool (T.contains x)) W := by
  show Calls Try.prog 34 #[.int .i64 x, .pointer (some ⟨B, 0, none⟩)] W _
  have HB := bs_th h x
  have hone : tv.oneCell' = true := by
    rcases h.form with ⟨rfl, _⟩ | ⟨g, cap, rfl, _⟩ <;> rfl
  obtain ⟨ao, n, cp, rfl⟩ : ∃ ao n cp, tv = .slice ao n cp := by
    rcases h.form with ⟨rfl, _⟩ | ⟨g, cap, rfl, _⟩
    · exact ⟨none, 0, 0, rfl⟩
    · exact ⟨_, _, _, rfl⟩
  clear h hone
  generalize T.contains x = r at HB ⊢
  generalize T.countP (· < x) = cn at HB
  go_enter Try.func34, Try.ntmps34
  go_wp2_with (go_at_call 35; refine HB.mono ?_; rintro e w' ⟨rfl, q, rfl⟩)
  go_ret
  exact ⟨rfl, q, rfl⟩
theorem Th.below {w W : World} {tv : Value} {T : List Int} (h : Th w tv T) (hl : ∀ g, tv.ownBlock = some g → g < w.heap.size) (hb : Below w.heap.size w W) : Th W tv T := by
  refine ⟨?_, h.up, h.len⟩
  rcases h.form with h1 | ⟨g, cap, rfl, hc⟩
  · exact .inl h1
  · exact .inr ⟨g, cap, rfl, fun j hj => (hb.cell (p := ⟨g, 0 + j, none⟩) (hl g rfl)).trans (hc j hj)⟩
theorem eg34 : ∀ args w, (callFunc 34 args).run Try.prog w = .ok (.enter 34 args) w := enters_of Try.func34 (by kernel_rfl) rfl
theorem sort_cell {w : World} {blk off n : Nat} {dk : Array Int} {os : Array Obj} {b j : Nat} (hb : b < w.heap.size) (hne : b ≠ blk) : (sortWorld (Value.int .i64) w blk off n dk os).cell? ⟨b, j, none⟩ = w.cell? ⟨b, j, none⟩ := by
  unfold sortWorld
  rw [cell?_grow _ _ _ (by show b < (putRow _ _ _ _ _).heap.size; rw [size_putRow]; exact hb), cell?_putRow_other _ _ blk off _ _ (Or.inl hne)]
  rfl
/-- Numbers that are there are struck. -/
theorem del_some (B g cap : Nat) (tv : Value) (T l : List Int) (w : World) (hB : w.cell? ⟨B, 0, none⟩ = some tv) (hT : Th w tv T) (hlt : ∀ q, tv.ownBlock = some q → q < w.heap.size ∧ q ≠ g) (hBl : B < w.heap.size ∧ B ≠ g) (h : Aw w (.slice (some ⟨g, 0, none⟩) l.length cap) l) :
    Calls Try.prog 33 #[.slice (some ⟨g, 0, none⟩) l.length cap, .func (.func 34) #[] #[.pointer (some ⟨B, 0, none⟩)]] w fun e w' => e = .returned (.slice (some ⟨g, 0, none⟩) (l.filter fun x => !T.contains x).length cap) ∧ Aw w' (.slice (some ⟨g, 0, none⟩) (l.filter fun x => !T.contains x).length cap) (l.filter fun x => !T.contains x) ∧ Mod (fun i => i = g) w w' := by
  have hl16 : l.length ≤ 9223372036854775807 := by
    obtain ⟨ao, cp, e, h1, h2, _⟩ := h
    cases e
    unfold maxLen at h2
    omega
  have hcap : l.length ≤ cap := by
    obtain ⟨ao, cp, e, h1, _⟩ := h
    cases e
    exact h1
  have hH : Holds (Value.int .i64) w g 0 l.toArray := fun j hj => by
    obtain ⟨ao, cp, e, h1, h2, h3, h4⟩ := h
    cases e
    obtain ⟨g', cur, e2, hg, hcs, hcc⟩ := h4 _ rfl
    cases e2
    have hj' : j < l.length := by simpa using hj
    refine ⟨?_, by simp [World.frozen?, hg]⟩
    rw [Nat.zero_add, (Bk.mk hg : Bk w g 3 cur).cell, hcc j hj']
    simp [hj', List.getD_eq_getElem?_getD]
  have hcon := AnyE.slices_DeleteFunc laysDel (Value.int .i64) (fun _ => rfl) (fun x => T.contains x) 34 #[.pointer (some ⟨B, 0, none⟩)] eg34 0 Try.zeroValue3 g 0 cap l.toArray w
    (fun W x hb => gives B tv T x W ((hb.cell (p := ⟨B, 0, none⟩) hBl.1).trans hB) (hT.below (fun q hq => (hlt q hq).1) hb))
    (fun n os dk x _ => gives B tv T x _ ((sort_cell hBl.1 hBl.2).trans hB) ⟨by
      rcases hT.form with h1 | ⟨q, cp, rfl, hc⟩
      · exact .inl h1
      · exact .inr ⟨q, cp, rfl, fun j hj => (sort_cell (hlt q rfl).1 (hlt q rfl).2).trans (hc j hj)⟩, hT.up, hT.len⟩)
    hH (by simpa using hl16) (by simpa using hcap)
  have hfl : (l.filter fun x => !T.contains x).length ≤ l.length := List.length_filter_le _ _
  change Calls Try.prog 33 _ _ _ at hcon
  simp only [List.size_toArray] at hcon
  refine hcon.mono ?_
  rintro e w' ⟨rfl, q, rfl⟩
  obtain ⟨ao, cp, e, h1, h2, h3, h4⟩ := h
  cases e
  obtain ⟨g', cur, e2, hg, hcs, hcc⟩ := h4 _ rfl
  cases e2
  generalize (l.filter fun x => !T.contains x) = F at hfl ⊢
  have hD : (F ++ List.replicate (l.length - F.length) 0).length = l.length := by simp; omega
  have hg' := heap_sortedI (n := q) (os := #[]) (F ++ List.replicate (l.length - F.length) 0).toArray hg
  have hgr := grownBy_sortedI (w := w) (g := g) (n := q) (os := #[]) (F ++ List.replicate (l.length - F.length) 0).toArray
  rw [grow_empty] at hg' hgr
  have htk := take_putCellsI cur (F ++ List.replicate (l.length - F.length) 0) (by omega)
  refine ⟨rfl, Aw.of_bk hg' (by omega) h2 (by simp [putCells]; omega) (fun j hj => ?_), (Mod.refl (fun i => i = g) w).grown hgr (fun k hk _ => by cases hk; rfl)⟩
  have h5 := congrArg (fun z => z[j]?) htk
  rw [List.getElem?_take_of_lt (by omega), List.getElem?_map, List.getElem?_append_left hj] at h5
  rw [← Array.getElem?_toList, h5, List.getElem?_eq_getElem hj]
  simp [List.getD_eq_getElem?_getD, hj]
theorem del_nil (f : Value) (w : World) : Calls Try.prog 33 #[.slice none 0 0, f] w fun e w' => e = .returned (.slice none 0 0) ∧ w' = w := by
  have HI : Calls Try.prog 50 #[.slice none 0 0, f] w fun e w' => e = .returned (.int .i64 (-1)) ∧ w' = w := by
    go_enter Try.func50, Try.ntmps50
    go_wp2_with (fail)
    go_loop [8] (fun i => i = .int .i64 0) (fun _ => 0)
    case atStart => rfl
    case round =>
      obtain rfl := hrel
      go_wp2
      go_ret
      exact ⟨rfl, rfl⟩
  go_enter Try.func33, Try.ntmps33
  go_wp2_with (go_at_call 50; refine HI.mono ?_; rintro e w' ⟨rfl, rfl⟩)
  go_ret
  exact ⟨rfl, rfl⟩
end Go.Proofs.Ytbjkncfpddhpkaa
