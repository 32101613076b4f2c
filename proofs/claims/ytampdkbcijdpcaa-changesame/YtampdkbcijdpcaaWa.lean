/- Contracts of the writer's calls and of bytes.Clone: what each call of package word that writes returns and which blocks it turns, for a writer that has written l. Conditions: what is written stays below 2^47 bytes. -/
import Derived.Test.YtampdkbcijdpcaaMem
import Derived.Test.YtampdkbcijdpcaaPlain
import Derived.Lib.BufferMore
namespace Go.Proofs.Ytampdkbcijdpcaa
open Go.RowKit
theorem info5 : (Try.prog.info? 5).map (fun i => (i.zero, i.size, i.bytes)) = some (some (.int .u8 0), 1, 1) := by kernel_rfl

theorem add_at (b off j : Nat) : (⟨b, off, none⟩ : Addr).add j = ⟨b, off + j, none⟩ := by
  unfold Addr.add
  by_cases h : j = 0 <;> simp [h]

/-- The cells of a slice that reads as l, in the form that append asks. -/
theorem cells_of {w : World} {b off : Nat} {l : List Int} (hc : ∀ j, j < l.length → w.cell? ⟨b, off + j, none⟩ = some (.int .u8 (l.getD j 0))) : ∀ j u, (U l)[j]? = some u → w.cell? ((⟨b, off, none⟩ : Addr).add j) = some u := by
  intro j u hu
  have hj : j < l.length := by
    rcases Nat.lt_or_ge j l.length with h | h
    · exact h
    · rw [List.getElem?_eq_none (by rw [U_len]; exact h)] at hu; cases hu
  rw [U_get l j hj] at hu
  cases hu
  rw [add_at]
  exact hc j hj

theorem clone_some (b off cap : Nat) (l : List Int) (w : World) (h0 : 0 < l.length)
   (hc : ∀ j, j < l.length → w.cell? ⟨b, off + j, none⟩ = some (.int .u8 (l.getD j 0))) (hb : l.length ≤ 140737488355328):
    Calls Try.prog 53 #[.slice (some ⟨b, off, none⟩) l.length cap] w fun e w' => ∃ v, e = .returned v ∧ Own w' v l ∧ Mod (fun _ => False) w w' ∧ (∀ g, v.ownBlock = some g → w.heap.size ≤ g) := by
  have hnil : ∀ W, (binOp .eql 40 (.slice (some ⟨b, off, none⟩) l.length cap) (.slice none 0 0)).run Try.prog W = .ok (.bool false) W := fun W => Lib.run_eql_slice_some_nil W _ _ _ Try.underlying40
  obtain ⟨i0, hi, hz0, hz1, hz2⟩ := info_parts info5
  have hcells : ∀ (o : Obj) j u, (U l)[j]? = some u → (w.alloc o).cell? ((⟨b, off, none⟩ : Addr).add j) = some u := fun o =>
    cells_of fun j hj => ((Mod.refl (fun _ => False) w).alloc o).cell (hc j hj) (fun h => h)
  have hrow : ∀ W : World, (W.alloc (.cells #[] 5)).ownsRow 0 5 1 (.slice (some ⟨W.heap.size, 0, none⟩) 0 0) 0 [] := fun W => World.ownsRow_made W #[] 0 (Nat.zero_le _) (by simp [maxLen]) (by simp)
  go_enter Try.func53, Try.ntmps53
  go_wp2_with (at_builtin; refine wpList_append_lies _ rfl _ _ 40 rfl 0 5 i0 (.int .u8 0) 1 1 Try.underlying40 hi hz0 hz1 hz2 rfl (by decide) (.slice (some ⟨w.heap.size, 0, none⟩) 0 0) 0 [] rfl (hrow _) ⟨b, off, none⟩ l.length cap (U l) rfl (by simp [U]) (hcells _) (U_one l) h0 (by simp only [maxLen]; omega) (by omega) (Nat.zero_le _) (w.heap.size + 1) (by simp) ?_; intro g cap1 w1 hown hgrow hg hlt; simp only [Nat.zero_add, List.nil_append] at hown)
  go_ret
  refine ⟨_, rfl, hown, ((Mod.refl _ w).alloc _).grown hgrow ?_, ?_⟩
  · intro k hk hlt'; simp [Value.ownBlock] at hk; omega
  · intro g' hg'; simp [Value.ownBlock] at hg' hg; omega
theorem clone_empty (a : Addr) (cap : Nat) (w : World) :
    Calls Try.prog 53 #[.slice (some a) 0 cap] w fun e w' => ∃ v, e = .returned v ∧ Own w' v [] ∧ Mod (fun _ => False) w w' ∧ (∀ g, v.ownBlock = some g → w.heap.size ≤ g) := by
  have hnil : ∀ W, (binOp .eql 40 (.slice (some a) 0 cap) (.slice none 0 0)).run Try.prog W = .ok (.bool false) W := fun W => Lib.run_eql_slice_some_nil W _ _ _ Try.underlying40
  have hrow : ∀ W : World, (W.alloc (.cells #[] 5)).ownsRow 0 5 1 (.slice (some ⟨W.heap.size, 0, none⟩) 0 0) 0 [] := fun W => World.ownsRow_made W #[] 0 (Nat.zero_le _) (by simp [maxLen]) (by simp)
  have H := hrow w
  clear hrow
  have HH : Hid ((w.alloc (.cells #[] 5)).ownsRow 0 5 1 (.slice (some ⟨w.heap.size, 0, none⟩) 0 0) 0 []) := H
  clear H
  go_enter Try.func53, Try.ntmps53
  go_wp2
  go_ret
  exact ⟨_, rfl, HH.out, (Mod.refl _ w).alloc _, by intro g hg; simp [Value.ownBlock] at hg; omega⟩
theorem clone_nil (w : World) :
    Calls Try.prog 53 #[.slice none 0 0] w fun e w' => e = .returned (.slice none 0 0) ∧ w' = w := by
  have hnil : ∀ W, (binOp .eql 40 (.slice none 0 0) (.slice none 0 0)).run Try.prog W = .ok (.bool true) W := fun W => Lib.run_eql_slice_nil_nil W _ _ Try.underlying40
  go_enter Try.func53, Try.ntmps53
  go_wp2
  go_ret
  exact ⟨rfl, rfl⟩
/-- bytes.Clone: as it reads, in memory of its own. -/
theorem clone_any (v : Value) (l : List Int) (w : World) (hs : Sl w v l) (hb : l.length ≤ 140737488355328) :
    Calls Try.prog 53 #[v] w fun e w' => ∃ v', e = .returned v' ∧ Own w' v' l ∧ Mod (fun _ => False) w w' ∧ (∀ g, v'.ownBlock = some g → w.heap.size ≤ g) := by
  obtain ⟨ao, cap, rfl, h1, h2, h3, h4⟩ := hs.form
  by_cases hl : l = []
  · subst hl
    cases ao with
    | none =>
      obtain rfl := h3 rfl
      refine (clone_nil w).mono ?_
      rintro e w' ⟨rfl, rfl⟩
      exact ⟨_, rfl, Own.nil _, Mod.refl _ _, by intro g hg; simp [Value.ownBlock] at hg⟩
    | some a => exact clone_empty a cap w
  · obtain ⟨b, off, rfl, hc⟩ := h4 hl
    exact clone_some b off cap l w (by cases l with | nil => exact absurd rfl hl | cons _ _ => simp) hc hb

/-- One byte is appended to what a writer has, and stored. -/
theorem app1 (w : World) (c : Int) (t : TypeId) : ∀ j u, [Value.int .u8 c][j]? = some u → (w.alloc (.cells #[.int .u8 c] t)).cell? ((⟨w.heap.size, 0, none⟩ : Addr).add j) = some u := by
  intro j u hj
  match j, hj with
  | 0, hj => simp at hj; subst hj; simp [Addr.add]
  | j + 1, hj => simp at hj

/-- One byte more, appended and stored. -/
theorem Wr.byte {w wr w1 : World} {p g cap : Nat} {v v' : Value} {l : List Int} {c : Int} {t : TypeId} (hw : Wr wr p v' l) (hm : Mod (fun k => k = p ∨ v.ownBlock = some k) w wr) (hfr : Fr w v v')
    (hc : 0 ≤ c ∧ c ≤ 255) (hown : w1.ownsRow 0 5 1 (.slice (some ⟨g, 0, none⟩) (l.length + 1) cap) (l.length + 1) (U l ++ [.int .u8 c]))
    (hgrow : (wr.alloc (.cells #[.int .u8 c] t)).grownBy w1 v'.ownBlock) (hg : v'.ownBlock = some g ∨ g = wr.heap.size + 1) :
    Wr (w1.setCell ⟨p, 1, none⟩ (.slice (some ⟨g, 0, none⟩) (l.length + 1) cap)) p (.slice (some ⟨g, 0, none⟩) (l.length + 1) cap) (l ++ [c]) ∧
      Mod (fun k => k = p ∨ v.ownBlock = some k) w (w1.setCell ⟨p, 1, none⟩ (.slice (some ⟨g, 0, none⟩) (l.length + 1) cap)) ∧ Fr w v (.slice (some ⟨g, 0, none⟩) (l.length + 1) cap) := by
  have hf : Fr wr v' (.slice (some ⟨g, 0, none⟩) (l.length + 1) cap) := by
    intro g' hg'
    simp only [Value.ownBlock, Option.some.injEq] at hg'
    subst hg'
    rcases hg with h | h
    · exact .inl h
    · right; omega
  have hm1 : Mod (fun k => v'.ownBlock = some k) wr w1 := ((Mod.refl _ wr).alloc _).grown hgrow (fun k hk _ => hk)
  have ho : Own w1 (.slice (some ⟨g, 0, none⟩) (l.length + 1) cap) (l ++ [c]) := by
    unfold Own
    rw [U_app]
    simpa [U] using hown
  have R := hw.stored hm1 ho (by intro c' hc'; simp only [List.mem_singleton] at hc'; subst hc'; exact hc) hf
  refine ⟨R.1, hm.trans R.2 (fun _ _ h => h) ?_, hfr.trans hf hm.size⟩
  rintro i hi (h | h)
  · exact .inl h
  · rcases hfr i h with h' | h'
    · exact .inr h'
    · omega

end Go.Proofs.Ytampdkbcijdpcaa
