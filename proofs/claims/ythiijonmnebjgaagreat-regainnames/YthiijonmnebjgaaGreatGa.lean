/- Contracts of the document's own writer (package hauberkref01): what its calls answer and which blocks they turn, for a writer that has written l. Conditions: what is written stays below 2^47 bytes. -/
import Derived.Test.YthiijonmnebjgaaGreatRb
import Derived.Deep.RegionLaw
namespace Go.Proofs.YthiijonmnebjgaaGreat
open Go.RowKit
/-- The document's writer at block p that has written l. -/
structure Wg (w : World) (p : Nat) (v : Value) (l : List Int) : Prop where
  blk : w.heap[p]? = some (.cells #[v] 123 (0, 0))
  own : Own w v l
  rng : ∀ c ∈ l, 0 ≤ c ∧ c ≤ 255
theorem Wg.mod {S : Nat → Prop} {w w' : World} {p : Nat} {v : Value} {l : List Int} (h : Wg w p v l) (hm : Mod S w w') (hp : ¬ S p) (hv : ∀ g, v.ownBlock = some g → ¬ S g) : Wg w' p v l :=
  ⟨hm.obj h.blk hp, h.own.mod hm hv, h.rng⟩
theorem Wg.c0 {w : World} {p : Nat} {v : Value} {l : List Int} (h : Wg w p v l) : w.cell? ⟨p, 0, none⟩ = some v := cell_of_one h.blk
theorem Wg.f0 {w : World} {p : Nat} {v : Value} {l : List Int} (h : Wg w p v l) : w.frozen? ⟨p, 0, none⟩ = false := free_of_one h.blk
theorem Wg.ne {w : World} {p : Nat} {v : Value} {l : List Int} (h : Wg w p v l) : v.ownBlock ≠ some p := fun e => by
  obtain ⟨cur, hc⟩ := h.own.kind e
  rw [h.blk] at hc
  simp at hc
/-- Behind an append and the store of what came of it. -/
theorem Wg.more {w wr w1 : World} {p : Nat} {v v' v1 : Value} {l m : List Int} (hw : Wg wr p v' l) (hm : Mod (fun k => k = p ∨ v.ownBlock = some k) w wr) (hfr : Fr w v v')
    (hc : ∀ c ∈ m, 0 ≤ c ∧ c ≤ 255) (ho : Own w1 v1 (l ++ m)) (hm1 : Mod (fun k => v'.ownBlock = some k) wr w1) (hf : Fr wr v' v1) :
    Wg (w1.setCell ⟨p, 0, none⟩ v1) p v1 (l ++ m) ∧ Mod (fun k => k = p ∨ v.ownBlock = some k) w (w1.setCell ⟨p, 0, none⟩ v1) ∧ Fr w v v1 := by
  have hb := hm1.obj hw.blk hw.ne
  have hlt := lt_of_block hw.blk
  have hne : ∀ g, v1.ownBlock = some g → g ≠ p := fun g hg e => by
    rcases hf g hg with h1 | h1
    · exact hw.ne (e ▸ h1)
    · omega
  refine ⟨⟨one_setCell hb, ?_, rng_app hw.rng hc⟩, ?_, hfr.trans hf hm.size⟩
  · exact ho.mod ((Mod.refl (fun k => k = p) w1).setCell _ _ (.inl rfl)) hne
  · have h2 : Mod (fun k => k = p ∨ v'.ownBlock = some k) wr (w1.setCell ⟨p, 0, none⟩ v1) := (hm1.mono fun i _ hi => .inr hi).setCell _ _ (.inl (.inl rfl))
    refine hm.trans h2 (fun _ _ h => h) ?_
    rintro i hi (h | h)
    · exact .inl h
    · rcases hfr i h with h' | h'
      · exact .inr h'
      · omega
/-- One byte more. -/
theorem Wg.byte {w wr w1 : World} {p g cap : Nat} {v v' : Value} {l : List Int} {c : Int} {t : TypeId} (hw : Wg wr p v' l) (hm : Mod (fun k => k = p ∨ v.ownBlock = some k) w wr) (hfr : Fr w v v')
    (hc : 0 ≤ c ∧ c ≤ 255) (hown : w1.ownsRow 0 5 1 (.slice (some ⟨g, 0, none⟩) (l.length + 1) cap) (l.length + 1) (U l ++ [.int .u8 c]))
    (hgrow : (wr.alloc (.cells #[.int .u8 c] t)).grownBy w1 v'.ownBlock) (hg : v'.ownBlock = some g ∨ g = wr.heap.size + 1) :
    Wg (w1.setCell ⟨p, 0, none⟩ (.slice (some ⟨g, 0, none⟩) (l.length + 1) cap)) p (.slice (some ⟨g, 0, none⟩) (l.length + 1) cap) (l ++ [c]) ∧
      Mod (fun k => k = p ∨ v.ownBlock = some k) w (w1.setCell ⟨p, 0, none⟩ (.slice (some ⟨g, 0, none⟩) (l.length + 1) cap)) ∧ Fr w v (.slice (some ⟨g, 0, none⟩) (l.length + 1) cap) := by
  have hf : Fr wr v' (.slice (some ⟨g, 0, none⟩) (l.length + 1) cap) := by
    intro g' hg'
    simp only [Value.ownBlock, Option.some.injEq] at hg'
    subst hg'
    rcases hg with h | h
    · exact .inl h
    · right; omega
  have hm1 : Mod (fun k => v'.ownBlock = some k) wr w1 := ((Mod.refl _ wr).alloc _).grown hgrow (fun k hk _ => hk)
  have ho : Own w1 (.slice (some ⟨g, 0, none⟩) (l.length + 1) cap) (l ++ [c]) := by
    unfold Own
    rw [U_app]
    simpa [U] using hown
  exact hw.more hm hfr (by intro c' hc'; simp only [List.mem_singleton] at hc'; subst hc'; exact hc) ho hm1 hf
theorem gWrite (w : World) :
    Calls Tryz.prog 71 #[] w fun e w' => e = .returned (.pointer (some ⟨w.heap.size, 0, none⟩)) ∧ Wg w' w.heap.size (.slice none 0 0) [] ∧ Mod (fun _ => False) w w' := by
  go_enter Tryz.func71, Tryz.ntmps71
  go_wp2
  go_ret
  exact ⟨rfl, ⟨heap_alloc_new w _, Own.nil _, by intro c hc; cases hc⟩, (Mod.refl _ w).alloc _⟩
theorem gPut_bad (p : Nat) (x : Int) (w : World) (hx : x < 0 ∨ 9007199254740991 < x) :
    Calls Tryz.prog 72 #[.pointer (some ⟨p, 0, none⟩), .int .i64 x] w fun e w' => e = .returned (.int .i64 9) ∧ w' = w := by
  rcases hx with hx | hx
  · go_enter Tryz.func72, Tryz.ntmps72
    go_wp2
    go_ret
    exact ⟨rfl, rfl⟩
  · have hx' : 0 ≤ x := by omega
    go_enter Tryz.func72, Tryz.ntmps72
    go_wp2
    go_ret
    exact ⟨rfl, rfl⟩
set_option maxRecDepth 100000 in
set_option maxHeartbeats 1000000 in
theorem gPut_go (p : Nat) (v : Value) (l : List Int) (x : Nat) (w : World) (h : Wg w p v l) (hx : x ≤ 9007199254740991) (hb : l.length + 8 ≤ 140737488355328) :
    Calls Tryz.prog 72 #[.pointer (some ⟨p, 0, none⟩), .int .i64 (x : Int)] w fun e w' => e = .returned (.int .i64 0) ∧ ∃ v', Wg w' p v' (l ++ enc x) ∧ Mod (fun k => k = p ∨ v.ownBlock = some k) w w' ∧ Fr w v v' := by
  obtain ⟨i0, hi, hz0, hz1, hz2⟩ := info_parts info5
  have HX : Hid (x < 128 ^ 8) := by show _ < _; omega
  go_enter Tryz.func72, Tryz.ntmps72
  go_wp2
  go_loopw [1] (fun i wr => ∃ (f y : Nat) (v' : Value) (l' : List Int), i = .int .i64 y ∧ Hid (y < 128 ^ f) ∧ y ≤ 9007199254740991 ∧ f ≤ 8 ∧ 0 < f ∧ Hid (l' ++ encF f y = l ++ enc x) ∧ l'.length + f ≤ l.length + 8 ∧ Wg wr p v' l' ∧ Mod (fun k => k = p ∨ v.ownBlock = some k) w wr ∧ Fr w v v') (fun i _ => (intOf i).toNat)
  case atStart => exact ⟨8, x, v, l, rfl, HX, hx, by omega, by omega, rfl, by omega, h, Mod.refl _ _, Fr.refl _ _⟩
  case round =>
    obtain ⟨f, y, v', l', rfl, hy, hym, hf, hf1, hl, hlen, hw, hm, hfr⟩ := hrel
    clear h HX hx
    have h1 := hw.c0
    have hfz := hw.f0
    have hown := hw.own
    have hne := hw.ne
    by_cases h128 : 128 ≤ y
    · obtain ⟨f', hf', hy', hg0⟩ := pow_step h128 hy.out
      subst hf'
      have HY : Hid (y / 128 < 128 ^ f') := hy'
      have hl2 : l' ++ [(y : Int) % 128 + 128] ++ encF f' (y / 128) = l ++ enc x := by
        rw [← hl.out, encF, if_pos h128]
        simp
      have HL : Hid (l' ++ [(y : Int) % 128 + 128] ++ encF f' (y / 128) = l ++ enc x) := hl2
      have hcr : 0 ≤ (y : Int) % 128 + 128 ∧ (y : Int) % 128 + 128 ≤ 255 := by omega
      clear hy' hy hl hl2
      have HC : ∀ w1 : World, (wr.alloc (.cells #[.int .u8 ((y : Int) % 128 + 128)] 5)).grownBy w1 v'.ownBlock → w1.cell? ⟨p, 0, none⟩ = some v' ∧ w1.frozen? ⟨p, 0, none⟩ = false := fun w1 hg => by
        have hm1 : Mod (fun k => v'.ownBlock = some k) wr w1 := ((Mod.refl _ wr).alloc _).grown hg (fun k hk _ => hk)
        have hb := hm1.obj hw.blk hne
        exact ⟨cell_of_one hb, free_of_one hb⟩
      go_wp2_with (at_builtin; refine wpList_append_lies _ rfl _ _ 41 rfl 0 5 i0 (.int .u8 0) 1 1 Tryz.underlying41 hi hz0 hz1 hz2 rfl (by decide) v' l'.length (U l') rfl (hown.alloc _) ⟨wr.heap.size, 0, none⟩ 1 1 [.int .u8 ((y : Int) % 128 + 128)] rfl rfl (app1 _ _ _) (U_one [(y : Int) % 128 + 128]) (by omega) (by simp only [maxLen]; omega) (by omega) (Nat.zero_le _) (wr.heap.size + 1) (by simp) ?_; intro g cap1 w1 hown1 hgrow hg hlt; obtain ⟨hk1, hk2⟩ := HC w1 hgrow)
      have R := hw.byte (c := (y : Int) % 128 + 128) hm hfr hcr hown1 hgrow hg
      go_roundw
      case rel => exact ⟨f', y / 128, _, l' ++ [(y : Int) % 128 + 128], by go_num, HY, by omega, by omega, by omega, HL, by simp; omega, R.1, R.2.1, R.2.2⟩
      case measure => simp [intOf]; omega
    · have HC : ∀ w1 : World, (wr.alloc (.cells #[.int .u8 (y : Int)] 5)).grownBy w1 v'.ownBlock → w1.cell? ⟨p, 0, none⟩ = some v' ∧ w1.frozen? ⟨p, 0, none⟩ = false := fun w1 hg => by
        have hm1 : Mod (fun k => v'.ownBlock = some k) wr w1 := ((Mod.refl _ wr).alloc _).grown hg (fun k hk _ => hk)
        have hb := hm1.obj hw.blk hne
        exact ⟨cell_of_one hb, free_of_one hb⟩
      have hyb : 0 ≤ (y : Int) ∧ (y : Int) ≤ 255 := ⟨by omega, by omega⟩
      go_wp2_with (at_builtin; refine wpList_append_lies _ rfl _ _ 41 rfl 0 5 i0 (.int .u8 0) 1 1 Tryz.underlying41 hi hz0 hz1 hz2 rfl (by decide) v' l'.length (U l') rfl (hown.alloc _) ⟨wr.heap.size, 0, none⟩ 1 1 [.int .u8 (y : Int)] rfl rfl (app1 _ _ _) (U_one [(y : Int)]) (by omega) (by simp only [maxLen]; omega) (by omega) (Nat.zero_le _) (wr.heap.size + 1) (by simp) ?_; intro g cap1 w1 hown1 hgrow hg hlt; obtain ⟨hk1, hk2⟩ := HC w1 hgrow)
      have R := hw.byte (c := (y : Int)) hm hfr hyb hown1 hgrow hg
      have HL : l' ++ [(y : Int)] = l ++ enc x := by
        rw [← hl.out]
        cases f with
        | zero => omega
        | succ f => rw [encF, if_neg h128]
      go_ret
      exact ⟨rfl, _, HL ▸ R.1, R.2.1, R.2.2⟩
set_option maxRecDepth 100000 in
set_option maxHeartbeats 1000000 in
theorem gOctets_some (p : Nat) (v : Value) (l m : List Int) (a : Addr) (cap : Nat) (w : World) (h : Wg w p v l) (hr : ∀ c ∈ m, 0 ≤ c ∧ c ≤ 255) (hml : m.length ≤ 1048576)
    (hs : ∀ w', Mod (fun k => k = p ∨ v.ownBlock = some k) w w' → ∀ j u, (U m)[j]? = some u → w'.cell? (a.add j) = some u) (hb : l.length + m.length + 8 ≤ 140737488355328) :
    Calls Tryz.prog 73 #[.pointer (some ⟨p, 0, none⟩), .slice (some a) m.length cap] w fun e w' => e = .returned (.int .i64 0) ∧ ∃ v', Wg w' p v' (l ++ enc m.length ++ m) ∧ Mod (fun k => k = p ∨ v.ownBlock = some k) w w' ∧ Fr w v v' := by
  obtain ⟨i0, hi, hz0, hz1, hz2⟩ := info_parts info5
  go_enter Tryz.func73, Tryz.ntmps73
  go_wp2_with fail
  refine (gPut_go p v l m.length _ h (by omega) (by omega)).mono ?_
  rintro e w1 ⟨rfl, v1, hw1, hm1, hf1⟩
  have hcell := hs w1 hm1
  have h1 := hw1.c0
  have hfz := hw1.f0
  have hown := hw1.own
  have hlen := enc_len m.length
  have hll : (l ++ enc m.length).length ≤ l.length + 8 := by simp; omega
  have hne := hw1.ne
  have hgr : ∀ (w2 : World), w1.grownBy w2 v1.ownBlock → w2.cell? ⟨p, 0, none⟩ = some v1 ∧ w2.frozen? ⟨p, 0, none⟩ = false := fun w2 hg => by
    have hm1 : Mod (fun k => v1.ownBlock = some k) w1 w2 := (Mod.refl _ w1).grown hg (fun k hk _ => hk)
    have hb := hm1.obj hw1.blk hne
    exact ⟨cell_of_one hb, free_of_one hb⟩
  clear hs
  generalize hq : l ++ enc m.length = q at hw1 hown hll
  have HQ : Hid (l ++ enc m.length = q) := hq
  clear hq hlen h
  go_wp2_with (at_builtin; refine wpList_append_own_at _ rfl _ _ 41 rfl 0 5 i0 (.int .u8 0) 1 1 Tryz.underlying41 hi hz0 hz1 hz2 rfl (by decide) v1 q.length (U q) rfl hown a m.length cap (U m) rfl (by simp [U]) hcell (U_one m) (by simp only [maxLen]; omega) (by omega) (Nat.zero_le _) ?_; intro v2 w2 hown2 hgrow hnil hat; obtain ⟨hk1, hk2⟩ := hgr w2 hgrow; obtain ⟨ao2, cap2, rfl⟩ := row_shape hown2)
  have hmm : Mod (fun k => v1.ownBlock = some k) w1 w2 := (Mod.refl _ w1).grown hgrow (fun k hk _ => hk)
  have hff : Fr w1 v1 (.slice ao2 (q.length + m.length) cap2) := by
    intro g' hg'
    rcases hat with h | h
    · exact .inl (h ▸ hg')
    · right; rw [h] at hg'; simp at hg'; omega
  have hoo : Own w2 (.slice ao2 (q.length + m.length) cap2) (q ++ m) := by
    unfold Own
    rw [U_app, List.length_append]
    exact hown2
  have R := hw1.more hm1 hf1 hr hoo hmm hff
  go_ret
  rw [HQ.out]
  exact ⟨rfl, _, R⟩
set_option maxRecDepth 100000 in
theorem gOctets_none (p : Nat) (v : Value) (l : List Int) (w : World) (h : Wg w p v l) (hb : l.length + 8 ≤ 140737488355328) :
    Calls Tryz.prog 73 #[.pointer (some ⟨p, 0, none⟩), .slice none 0 0] w fun e w' => e = .returned (.int .i64 0) ∧ ∃ v', Wg w' p v' (l ++ enc 0) ∧ Mod (fun k => k = p ∨ v.ownBlock = some k) w w' ∧ Fr w v v' := by
  go_enter Tryz.func73, Tryz.ntmps73
  go_wp2_with fail
  refine (gPut_go p v l 0 _ h (by omega) (by omega)).mono ?_
  rintro e w1 ⟨rfl, v1, hw1, hm1, hf1⟩
  have h1 := hw1.c0
  have hfz := hw1.f0
  have hown := hw1.own
  obtain ⟨g1, c1, rfl, _⟩ := hown.form (by have := enc_ne 0; simp; omega)
  clear h hown
  have R : Wg (w1.setCell ⟨p, 0, none⟩ (.slice (some ⟨g1, 0, none⟩) (l ++ enc 0).length c1)) p (.slice (some ⟨g1, 0, none⟩) (l ++ enc 0).length c1) (l ++ enc 0) := by
    have hm2 : Mod (fun k => k = p) w1 (w1.setCell ⟨p, 0, none⟩ (.slice (some ⟨g1, 0, none⟩) (l ++ enc 0).length c1)) := (Mod.refl _ w1).setCell _ _ (.inl rfl)
    exact ⟨one_setCell hw1.blk, hw1.own.mod hm2 (fun g hg e => hw1.ne (e ▸ hg)), hw1.rng⟩
  generalize hq : l ++ enc 0 = q at *
  have HQ : Hid (l ++ enc 0 = q) := hq
  clear hq
  go_wp2
  go_ret
  rw [HQ.out]
  exact ⟨rfl, _, R, hm1.setCell _ _ (.inl (.inl rfl)), hf1⟩
theorem gOctets (p : Nat) (v u : Value) (l m : List Int) (w : World) (h : Wg w p v l) (hs : Sl w u m) (hd : m ≠ [] → ∀ g, u.ownBlock = some g → g ≠ p ∧ v.ownBlock ≠ some g) (hml : m.length ≤ 1048576) (hb : l.length + m.length + 8 ≤ 140737488355328) :
    Calls Tryz.prog 73 #[.pointer (some ⟨p, 0, none⟩), u] w fun e w' => e = .returned (.int .i64 0) ∧ ∃ v', Wg w' p v' (l ++ enc m.length ++ m) ∧ Mod (fun k => k = p ∨ v.ownBlock = some k) w w' ∧ Fr w v v' := by
  have hk : ∀ w', Mod (fun k => k = p ∨ v.ownBlock = some k) w w' → Sl w' u m := fun w' hm => hs.mod2 hm (fun hne g hg => by have := hd hne g hg; rintro (h | h); exact this.1 h; exact this.2 h)
  obtain ⟨ao, cap, rfl, _, _, hn, _⟩ := hs.form
  cases ao with
  | none =>
    obtain rfl := hn rfl
    obtain ⟨ao', cap', e, hl, _⟩ := hs.form
    have hm0 : m = [] := by
      apply List.eq_nil_of_length_eq_zero
      simp only [Value.slice.injEq] at e
      omega
    subst hm0
    have := gOctets_none p v l w h (by simp at hb; omega)
    simpa using this
  | some a => exact gOctets_some p v l m a cap w h hs.rng hml (fun w' hm => (hk w' hm).srcCells) hb
theorem gBytes (p : Nat) (v : Value) (l : List Int) (w : World) (h : Wg w p v l) (hb : l.length ≤ 140737488355328) :
    Calls Tryz.prog 74 #[.pointer (some ⟨p, 0, none⟩)] w fun e w' => ∃ v', e = .returned v' ∧ Own w' v' l ∧ Mod (fun _ => False) w w' ∧ (∀ g, v'.ownBlock = some g → w.heap.size ≤ g) := by
  obtain ⟨i0, hi, hz0, hz1, hz2⟩ := info_parts info5
  have h0 := h.c0
  have hs := h.own.sl h.rng
  obtain ⟨ao, cap, rfl, h1, h2, h3, h4⟩ := hs.form
  cases ao with
  | none =>
    obtain rfl := h3 rfl
    obtain rfl : l = [] := List.eq_nil_of_length_eq_zero (by omega)
    clear h hs
    go_enter Tryz.func74, Tryz.ntmps74
    go_wp2
    go_ret
    exact ⟨_, rfl, Own.nil _, Mod.refl _ _, by intro g hg; simp [Value.ownBlock] at hg⟩
  | some a =>
    have hcells : ∀ j u, (U l)[j]? = some u → w.cell? (a.add j) = some u := hs.srcCells
    clear h4 h hs
    go_enter Tryz.func74, Tryz.ntmps74
    go_wp2_with (at_builtin; refine wpList_append_own_at _ rfl _ _ 41 rfl 0 5 i0 (.int .u8 0) 1 1 Tryz.underlying41 hi hz0 hz1 hz2 rfl (by decide) (.slice none 0 0) 0 [] rfl (World.ownsRow_nil _ _ _ _) a l.length cap (U l) rfl (by simp [U]) hcells (U_one l) (by simp only [maxLen]; omega) (by omega) (Nat.zero_le _) ?_; intro v2 w2 hown2 hgrow hnil hat; simp only [Nat.zero_add, List.nil_append] at hown2)
    go_ret
    refine ⟨v2, rfl, hown2, (Mod.refl _ w).grown hgrow (by intro k hk; simp [Value.ownBlock] at hk), ?_⟩
    intro g hg
    rcases hat with h | h
    · rw [h] at hg; simp [Value.ownBlock] at hg
    · rw [h] at hg; simp at hg; omega
end Go.Proofs.YthiijonmnebjgaaGreat
