/- Contracts of the writer's calls and of bytes.Clone: what each call of package word that writes returns and which blocks it turns, for a writer that has written l. Conditions: what is written stays below 2^47 bytes. -/
import Derived.Test.YthiijonmnebjgaaGreatMem
import Derived.Test.YthiijonmnebjgaaGreatPlain
import Derived.Lib.BufferMore
namespace Go.Proofs.YthiijonmnebjgaaGreat
open Go.RowKit
theorem info5 : (Tryz.prog.info? 5).map (fun i => (i.zero, i.size, i.bytes)) = some (some (.int .u8 0), 1, 1) := by kernel_rfl

theorem add_at (b off j : Nat) : (⟨b, off, none⟩ : Addr).add j = ⟨b, off + j, none⟩ := by
  unfold Addr.add
  by_cases h : j = 0 <;> simp [h]

/-- The cells of a slice that reads as l, in the form that append asks. -/
theorem cells_of {w : World} {b off : Nat} {l : List Int} (hc : ∀ j, j < l.length → w.cell? ⟨b, off + j, none⟩ = some (.int .u8 (l.getD j 0))) : ∀ j u, (U l)[j]? = some u → w.cell? ((⟨b, off, none⟩ : Addr).add j) = some u := by
  intro j u hu
  have hj : j < l.length := by
    rcases Nat.lt_or_ge j l.length with h | h
    · exact h
    · rw [List.getElem?_eq_none (by rw [U_len]; exact h)] at hu; cases hu
  rw [U_get l j hj] at hu
  cases hu
  rw [add_at]
  exact hc j hj

theorem clone_some (b off cap : Nat) (l : List Int) (w : World) (h0 : 0 < l.length)
   (hc : ∀ j, j < l.length → w.cell? ⟨b, off + j, none⟩ = some (.int .u8 (l.getD j 0))) (hb : l.length ≤ 140737488355328):
    Calls Tryz.prog 58 #[.slice (some ⟨b, off, none⟩) l.length cap] w fun e w' => ∃ v, e = .returned v ∧ Own w' v l ∧ Mod (fun _ => False) w w' ∧ (∀ g, v.ownBlock = some g → w.heap.size ≤ g) := by
  have hnil : ∀ W, (binOp .eql 41 (.slice (some ⟨b, off, none⟩) l.length cap) (.slice none 0 0)).run Tryz.prog W = .ok (.bool false) W := fun W => Lib.run_eql_slice_some_nil W _ _ _ Tryz.underlying41
  obtain ⟨i0, hi, hz0, hz1, hz2⟩ := info_parts info5
  have hcells : ∀ (o : Obj) j u, (U l)[j]? = some u → (w.alloc o).cell? ((⟨b, off, none⟩ : Addr).add j) = some u := fun o =>
    cells_of fun j hj => ((Mod.refl (fun _ => False) w).alloc o).cell (hc j hj) (fun h => h)
  have hrow : ∀ W : World, (W.alloc (.cells #[] 5)).ownsRow 0 5 1 (.slice (some ⟨W.heap.size, 0, none⟩) 0 0) 0 [] := fun W => World.ownsRow_made W #[] 0 (Nat.zero_le _) (by simp [maxLen]) (by simp)
  go_enter Tryz.func58, Tryz.ntmps58
  go_wp2_with (at_builtin; refine wpList_append_lies _ rfl _ _ 41 rfl 0 5 i0 (.int .u8 0) 1 1 Tryz.underlying41 hi hz0 hz1 hz2 rfl (by decide) (.slice (some ⟨w.heap.size, 0, none⟩) 0 0) 0 [] rfl (hrow _) ⟨b, off, none⟩ l.length cap (U l) rfl (by simp [U]) (hcells _) (U_one l) h0 (by simp only [maxLen]; omega) (by omega) (Nat.zero_le _) (w.heap.size + 1) (by simp) ?_; intro g cap1 w1 hown hgrow hg hlt; simp only [Nat.zero_add, List.nil_append] at hown)
  go_ret
  refine ⟨_, rfl, hown, ((Mod.refl _ w).alloc _).grown hgrow ?_, ?_⟩
  · intro k hk hlt'; simp [Value.ownBlock] at hk; omega
  · intro g' hg'; simp [Value.ownBlock] at hg' hg; omega
theorem clone_empty (a : Addr) (cap : Nat) (w : World) :
    Calls Tryz.prog 58 #[.slice (some a) 0 cap] w fun e w' => ∃ v, e = .returned v ∧ Own w' v [] ∧ Mod (fun _ => False) w w' ∧ (∀ g, v.ownBlock = some g → w.heap.size ≤ g) := by
  have hnil : ∀ W, (binOp .eql 41 (.slice (some a) 0 cap) (.slice none 0 0)).run Tryz.prog W = .ok (.bool false) W := fun W => Lib.run_eql_slice_some_nil W _ _ _ Tryz.underlying41
  have hrow : ∀ W : World, (W.alloc (.cells #[] 5)).ownsRow 0 5 1 (.slice (some ⟨W.heap.size, 0, none⟩) 0 0) 0 [] := fun W => World.ownsRow_made W #[] 0 (Nat.zero_le _) (by simp [maxLen]) (by simp)
  have H := hrow w
  clear hrow
  have HH : Hid ((w.alloc (.cells #[] 5)).ownsRow 0 5 1 (.slice (some ⟨w.heap.size, 0, none⟩) 0 0) 0 []) := H
  clear H
  go_enter Tryz.func58, Tryz.ntmps58
  go_wp2
  go_ret
  exact ⟨_, rfl, HH.out, (Mod.refl _ w).alloc _, by intro g hg; simp [Value.ownBlock] at hg; omega⟩
theorem clone_nil (w : World) :
    Calls Tryz.prog 58 #[.slice none 0 0] w fun e w' => e = .returned (.slice none 0 0) ∧ w' = w := by
  have hnil : ∀ W, (binOp .eql 41 (.slice none 0 0) (.slice none 0 0)).run Tryz.prog W = .ok (.bool true) W := fun W => Lib.run_eql_slice_nil_nil W _ _ Tryz.underlying41
  go_enter Tryz.func58, Tryz.ntmps58
  go_wp2
  go_ret
  exact ⟨rfl, rfl⟩
/-- bytes.Clone: as it reads, in memory of its own. -/
theorem clone_any (v : Value) (l : List Int) (w : World) (hs : Sl w v l) (hb : l.length ≤ 140737488355328) :
    Calls Tryz.prog 58 #[v] w fun e w' => ∃ v', e = .returned v' ∧ Own w' v' l ∧ Mod (fun _ => False) w w' ∧ (∀ g, v'.ownBlock = some g → w.heap.size ≤ g) := by
  obtain ⟨ao, cap, rfl, h1, h2, h3, h4⟩ := hs.form
  by_cases hl : l = []
  · subst hl
    cases ao with
    | none =>
      obtain rfl := h3 rfl
      refine (clone_nil w).mono ?_
      rintro e w' ⟨rfl, rfl⟩
      exact ⟨_, rfl, Own.nil _, Mod.refl _ _, by intro g hg; simp [Value.ownBlock] at hg⟩
    | some a => exact clone_empty a cap w
  · obtain ⟨b, off, rfl, hc⟩ := h4 hl
    exact clone_some b off cap l w (by cases l with | nil => exact absurd rfl hl | cons _ _ => simp) hc hb

theorem isnone_w (p : Nat) (w : World) (h : w.cell? ⟨p, 0, none⟩ = some (.bool true)) :
    Calls Tryz.prog 85 #[.pointer (some ⟨p, 0, none⟩)] w fun e w' => e = .returned (.bool false) ∧ w' = w := by
  go_enter Tryz.func85, Tryz.ntmps85
  go_wp2
  go_ret
  exact ⟨rfl, rfl⟩
theorem isnone_r (p : Nat) (w : World) (h : w.cell? ⟨p, 0, none⟩ = some (.bool true)) :
    Calls Tryz.prog 99 #[.pointer (some ⟨p, 0, none⟩)] w fun e w' => e = .returned (.bool false) ∧ w' = w := by
  go_enter Tryz.func99, Tryz.ntmps99
  go_wp2
  go_ret
  exact ⟨rfl, rfl⟩
theorem write_any (w : World) :
    Calls Tryz.prog 63 #[] w fun e w' => e = .returned (.pointer (some ⟨w.heap.size, 0, none⟩)) ∧ Wr w' w.heap.size (.slice none 0 0) [] ∧ Mod (fun _ => False) w w' := by
  go_enter Tryz.func63, Tryz.ntmps63
  go_wp2
  go_ret
  exact ⟨rfl, ⟨heap_alloc_new w _, Own.nil _, by intro c hc; cases hc⟩, (Mod.refl _ w).alloc _⟩

/-- One byte is appended to what a writer has, and stored. -/
theorem app1 (w : World) (c : Int) (t : TypeId) : ∀ j u, [Value.int .u8 c][j]? = some u → (w.alloc (.cells #[.int .u8 c] t)).cell? ((⟨w.heap.size, 0, none⟩ : Addr).add j) = some u := by
  intro j u hj
  match j, hj with
  | 0, hj => simp at hj; subst hj; simp [Addr.add]
  | j + 1, hj => simp at hj

/-- One byte more, appended and stored. -/
theorem Wr.byte {w wr w1 : World} {p g cap : Nat} {v v' : Value} {l : List Int} {c : Int} {t : TypeId} (hw : Wr wr p v' l) (hm : Mod (fun k => k = p ∨ v.ownBlock = some k) w wr) (hfr : Fr w v v')
    (hc : 0 ≤ c ∧ c ≤ 255) (hown : w1.ownsRow 0 5 1 (.slice (some ⟨g, 0, none⟩) (l.length + 1) cap) (l.length + 1) (U l ++ [.int .u8 c]))
    (hgrow : (wr.alloc (.cells #[.int .u8 c] t)).grownBy w1 v'.ownBlock) (hg : v'.ownBlock = some g ∨ g = wr.heap.size + 1) :
    Wr (w1.setCell ⟨p, 1, none⟩ (.slice (some ⟨g, 0, none⟩) (l.length + 1) cap)) p (.slice (some ⟨g, 0, none⟩) (l.length + 1) cap) (l ++ [c]) ∧
      Mod (fun k => k = p ∨ v.ownBlock = some k) w (w1.setCell ⟨p, 1, none⟩ (.slice (some ⟨g, 0, none⟩) (l.length + 1) cap)) ∧ Fr w v (.slice (some ⟨g, 0, none⟩) (l.length + 1) cap) := by
  have hf : Fr wr v' (.slice (some ⟨g, 0, none⟩) (l.length + 1) cap) := by
    intro g' hg'
    simp only [Value.ownBlock, Option.some.injEq] at hg'
    subst hg'
    rcases hg with h | h
    · exact .inl h
    · right; omega
  have hm1 : Mod (fun k => v'.ownBlock = some k) wr w1 := ((Mod.refl _ wr).alloc _).grown hgrow (fun k hk _ => hk)
  have ho : Own w1 (.slice (some ⟨g, 0, none⟩) (l.length + 1) cap) (l ++ [c]) := by
    unfold Own
    rw [U_app]
    simpa [U] using hown
  have R := hw.stored hm1 ho (by intro c' hc'; simp only [List.mem_singleton] at hc'; subst hc'; exact hc) hf
  refine ⟨R.1, hm.trans R.2 (fun _ _ h => h) ?_, hfr.trans hf hm.size⟩
  rintro i hi (h | h)
  · exact .inl h
  · rcases hfr i h with h' | h'
    · exact .inr h'
    · omega

set_option maxRecDepth 100000 in
theorem put_any (p : Nat) (v : Value) (l : List Int) (x : Nat) (w : World) (h : Wr w p v l) (hx : x < 128 ^ 8) (hb : l.length + 8 ≤ 140737488355328) :
    Calls Tryz.prog 86 #[.pointer (some ⟨p, 0, none⟩), .int .u64 (x : Int)] w fun e w' => e = .returned (.tuple #[]) ∧ ∃ v', Wr w' p v' (l ++ enc x) ∧ Mod (fun k => k = p ∨ v.ownBlock = some k) w w' ∧ Fr w v v' := by
  obtain ⟨i0, hi, hz0, hz1, hz2⟩ := info_parts info5
  have HX : Hid (x < 128 ^ 8) := hx
  clear hx
  go_enter Tryz.func86, Tryz.ntmps86
  go_wp2
  go_loopw [1] (fun i wr => ∃ (f y : Nat) (v' : Value) (l' : List Int), i = .int .u64 y ∧ Hid (y < 128 ^ f) ∧ f ≤ 8 ∧ 0 < f ∧ Hid (l' ++ encF f y = l ++ enc x) ∧ l'.length + f ≤ l.length + 8 ∧ Wr wr p v' l' ∧ Mod (fun k => k = p ∨ v.ownBlock = some k) w wr ∧ Fr w v v') (fun i _ => (intOf i).toNat)
  case atStart => exact ⟨8, x, v, l, rfl, HX, by omega, by omega, rfl, by omega, h, Mod.refl _ _, Fr.refl _ _⟩
  case round =>
    obtain ⟨f, y, v', l', rfl, hy, hf, hf1, hl, hlen, hw, hm, hfr⟩ := hrel
    clear h HX
    have h1 := hw.c1
    have hfz := hw.f1
    have hown := hw.own
    have hne := hw.ne
    by_cases h128 : 128 ≤ y
    · obtain ⟨f', hf', hy', hg0⟩ := pow_step h128 hy.out
      subst hf'
      have hy56 : y < 128 ^ 8 := Nat.lt_of_lt_of_le hy.out (Nat.pow_le_pow_right (by omega) hf)
      have hmask := mask127_u64 (y := y) (by omega) (by omega)
      have hor := or128_u64 (y := (y : Int) % 128) (by omega) (by omega)
      have HY : Hid (y / 128 < 128 ^ f') := hy'
      have hl2 : l' ++ [(y : Int) % 128 + 128] ++ encF f' (y / 128) = l ++ enc x := by
        rw [← hl.out, encF, if_pos h128]
        simp
      have HL : Hid (l' ++ [(y : Int) % 128 + 128] ++ encF f' (y / 128) = l ++ enc x) := hl2
      clear hy' hy56 hy hl hl2
      have hc1 : ∀ w1 : World, (wr.alloc (.cells #[.int .u8 ((y : Int) % 128 + 128)] 5)).grownBy w1 v'.ownBlock → w1.cell? ⟨p, 1, none⟩ = some v' ∧ w1.frozen? ⟨p, 1, none⟩ = false := fun w1 hg => by
        have hm1 : Mod (fun k => v'.ownBlock = some k) wr w1 := ((Mod.refl _ wr).alloc _).grown hg (fun k hk _ => hk)
        have hb := hm1.obj hw.blk hne
        exact ⟨by simp [World.cell?, hb], by simp [World.frozen?, hb]⟩
      have HC := hc1
      clear hc1
      go_wp2_with (at_builtin; refine wpList_append_lies _ rfl _ _ 41 rfl 0 5 i0 (.int .u8 0) 1 1 Tryz.underlying41 hi hz0 hz1 hz2 rfl (by decide) v' l'.length (U l') rfl (hown.alloc _) ⟨wr.heap.size, 0, none⟩ 1 1 [.int .u8 ((y : Int) % 128 + 128)] rfl rfl (app1 _ _ _) (U_one [(y : Int) % 128 + 128]) (by omega) (by simp only [maxLen]; omega) (by omega) (Nat.zero_le _) (wr.heap.size + 1) (by simp) ?_; intro g cap1 w1 hown1 hgrow hg hlt; obtain ⟨hk1, hk2⟩ := HC w1 hgrow)
      have R := hw.byte hm hfr ⟨by omega, by omega⟩ hown1 hgrow hg
      go_roundw
      case rel => exact ⟨f', y / 128, _, l' ++ [(y : Int) % 128 + 128], by go_num, HY, by omega, by omega, HL, by simp; omega, R.1, R.2.1, R.2.2⟩
      case measure => simp [intOf]; omega
    · have hc1 : ∀ w1 : World, (wr.alloc (.cells #[.int .u8 (y : Int)] 5)).grownBy w1 v'.ownBlock → w1.cell? ⟨p, 1, none⟩ = some v' ∧ w1.frozen? ⟨p, 1, none⟩ = false := fun w1 hg => by
        have hm1 : Mod (fun k => v'.ownBlock = some k) wr w1 := ((Mod.refl _ wr).alloc _).grown hg (fun k hk _ => hk)
        have hb := hm1.obj hw.blk hne
        exact ⟨by simp [World.cell?, hb], by simp [World.frozen?, hb]⟩
      have HC := hc1
      clear hc1
      have hyb : 0 ≤ (y : Int) ∧ (y : Int) ≤ 255 := ⟨by omega, by omega⟩
      go_wp2_with (at_builtin; refine wpList_append_lies _ rfl _ _ 41 rfl 0 5 i0 (.int .u8 0) 1 1 Tryz.underlying41 hi hz0 hz1 hz2 rfl (by decide) v' l'.length (U l') rfl (hown.alloc _) ⟨wr.heap.size, 0, none⟩ 1 1 [.int .u8 (y : Int)] rfl rfl (app1 _ _ _) (U_one [(y : Int)]) (by omega) (by simp only [maxLen]; omega) (by omega) (Nat.zero_le _) (wr.heap.size + 1) (by simp) ?_; intro g cap1 w1 hown1 hgrow hg hlt; obtain ⟨hk1, hk2⟩ := HC w1 hgrow)
      have R := hw.byte (c := (y : Int)) hm hfr hyb hown1 hgrow hg
      have HL : l' ++ [(y : Int)] = l ++ enc x := by
        rw [← hl.out]
        cases f with
        | zero => omega
        | succ f => rw [encF, if_neg h128]
      go_end0
      exact ⟨rfl, _, HL ▸ R.1, R.2.1, R.2.2⟩
end Go.Proofs.YthiijonmnebjgaaGreat
