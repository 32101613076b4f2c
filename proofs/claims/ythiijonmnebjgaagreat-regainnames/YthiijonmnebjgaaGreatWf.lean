/- Contracts of the writer's Fixed and Octets, for every number and every slice of bytes that does not lie in the writer itself. Conditions: what is written stays below 2^47 bytes. -/
import Derived.Test.YthiijonmnebjgaaGreatWd
import Derived.Deep.RegionLaw
namespace Go.Proofs.YthiijonmnebjgaaGreat
open Go.RowKit
theorem enc_ne (x : Nat) : 0 < (enc x).length := encF_pos 8 x (by omega)
theorem row_shape {w : World} {v : Value} {n : Nat} {xs : List Value} (h : w.ownsRow 0 5 1 v n xs) : ∃ ao cap, v = .slice ao n cap := by
  rcases h.2 with ⟨rfl, h0⟩ | ⟨g, cap, cur, rfl, _⟩
  · exact ⟨none, 0, by rw [h0]⟩
  · exact ⟨_, cap, rfl⟩
/-- Bytes appended to what a writer has, and stored. -/
theorem Wr.more {w wr w1 : World} {p : Nat} {v v' v1 : Value} {l m : List Int} (hw : Wr wr p v' l) (hm : Mod (fun k => k = p ∨ v.ownBlock = some k) w wr) (hfr : Fr w v v')
    (hc : ∀ c ∈ m, 0 ≤ c ∧ c ≤ 255) (hown : w1.ownsRow 0 5 1 v1 (l.length + m.length) (U l ++ U m))
    (hgrow : wr.grownBy w1 v'.ownBlock) (hg : v1.ownBlock = v'.ownBlock ∨ v1.ownBlock = some wr.heap.size) :
    Wr (w1.setCell ⟨p, 1, none⟩ v1) p v1 (l ++ m) ∧ Mod (fun k => k = p ∨ v.ownBlock = some k) w (w1.setCell ⟨p, 1, none⟩ v1) ∧ Fr w v v1 := by
  have hf : Fr wr v' v1 := by
    intro g' hg'
    rcases hg with h | h
    · exact .inl (h ▸ hg')
    · right; rw [h] at hg'; simp at hg'; omega
  have hm1 : Mod (fun k => v'.ownBlock = some k) wr w1 := (Mod.refl _ wr).grown hgrow (fun k hk _ => hk)
  have ho : Own w1 v1 (l ++ m) := by
    unfold Own
    rw [U_app, List.length_append]
    exact hown
  have R := hw.stored hm1 ho hc hf
  refine ⟨R.1, hm.trans R.2 (fun _ _ h => h) ?_, hfr.trans hf hm.size⟩
  rintro i hi (h | h)
  · exact .inl h
  · rcases hfr i h with h' | h'
    · exact .inr h'
    · omega
set_option maxRecDepth 100000 in
set_option maxHeartbeats 1000000 in
theorem WOctets_some (p : Nat) (v : Value) (l m : List Int) (a : Addr) (cap : Nat) (w : World) (h : Wr w p v l) (hr : ∀ c ∈ m, 0 ≤ c ∧ c ≤ 255)
    (hs : ∀ w', Mod (fun k => k = p ∨ v.ownBlock = some k) w w' → ∀ j u, (U m)[j]? = some u → w'.cell? (a.add j) = some u) (hb : l.length + m.length + 8 ≤ 140737488355328) :
    Calls Tryz.prog 65 #[.pointer (some ⟨p, 0, none⟩), .slice (some a) m.length cap] w fun e w' => e = .returned (.int .i64 0) ∧ ∃ v', Wr w' p v' (l ++ enc m.length ++ m) ∧ Mod (fun k => k = p ∨ v.ownBlock = some k) w w' ∧ Fr w v v' := by
  obtain ⟨i0, hi, hz0, hz1, hz2⟩ := info_parts info5
  have h0 := h.c0
  go_enter Tryz.func65, Tryz.ntmps65
  go_wp2_with fail
  refine (isnone_w p _ h0).mono ?_
  rintro e w' ⟨rfl, rfl⟩
  go_wp2_with fail
  refine (put_any p v l m.length _ h (by omega) (by omega)).mono ?_
  rintro e w1 ⟨rfl, v1, hw1, hm1, hf1⟩
  have hcell := hs w1 hm1
  have h1 := hw1.c1
  have hfz := hw1.f1
  have hown := hw1.own
  have hlen := enc_len m.length
  have hll : (l ++ enc m.length).length ≤ l.length + 8 := by simp; omega
  have hne := hw1.ne
  have hgr : ∀ (w2 : World), w1.grownBy w2 v1.ownBlock → w2.cell? ⟨p, 1, none⟩ = some v1 ∧ w2.frozen? ⟨p, 1, none⟩ = false := fun w2 hg => by
    have hm1 : Mod (fun k => v1.ownBlock = some k) w1 w2 := (Mod.refl _ w1).grown hg (fun k hk _ => hk)
    have hb := hm1.obj hw1.blk hne
    exact ⟨by simp [World.cell?, hb], by simp [World.frozen?, hb]⟩
  clear hs
  generalize hq : l ++ enc m.length = q at hw1 hown hll
  have HQ : Hid (l ++ enc m.length = q) := hq
  clear hq hlen h
  go_wp2_with (at_builtin; refine wpList_append_own_at _ rfl _ _ 41 rfl 0 5 i0 (.int .u8 0) 1 1 Tryz.underlying41 hi hz0 hz1 hz2 rfl (by decide) v1 q.length (U q) rfl hown a m.length cap (U m) rfl (by simp [U]) hcell (U_one m) (by simp only [maxLen]; omega) (by omega) (Nat.zero_le _) ?_; intro v2 w2 hown2 hgrow hnil hat; obtain ⟨hk1, hk2⟩ := hgr w2 hgrow; obtain ⟨ao2, cap2, rfl⟩ := row_shape hown2)
  have R := hw1.more hm1 hf1 hr hown2 hgrow hat
  go_ret
  rw [HQ.out]
  exact ⟨rfl, _, R⟩
set_option maxRecDepth 100000 in
theorem WOctets_none (p : Nat) (v : Value) (l : List Int) (w : World) (h : Wr w p v l) (hb : l.length + 8 ≤ 140737488355328) :
    Calls Tryz.prog 65 #[.pointer (some ⟨p, 0, none⟩), .slice none 0 0] w fun e w' => e = .returned (.int .i64 0) ∧ ∃ v', Wr w' p v' (l ++ enc 0) ∧ Mod (fun k => k = p ∨ v.ownBlock = some k) w w' ∧ Fr w v v' := by
  obtain ⟨i0, hi, hz0, hz1, hz2⟩ := info_parts info5
  have h0 := h.c0
  go_enter Tryz.func65, Tryz.ntmps65
  go_wp2_with fail
  refine (isnone_w p _ h0).mono ?_
  rintro e w' ⟨rfl, rfl⟩
  go_wp2_with fail
  refine (put_any p v l 0 _ h (by omega) (by omega)).mono ?_
  rintro e w1 ⟨rfl, v1, hw1, hm1, hf1⟩
  have h1 := hw1.c1
  have hfz := hw1.f1
  have hown := hw1.own
  obtain ⟨g1, c1, rfl, _⟩ := hown.form (by have := enc_ne 0; simp; omega)
  clear h hown
  have R : Wr (w1.setCell ⟨p, 1, none⟩ (.slice (some ⟨g1, 0, none⟩) (l ++ enc 0).length c1)) p (.slice (some ⟨g1, 0, none⟩) (l ++ enc 0).length c1) (l ++ enc 0) := by
    have hm2 : Mod (fun k => k = p) w1 (w1.setCell ⟨p, 1, none⟩ (.slice (some ⟨g1, 0, none⟩) (l ++ enc 0).length c1)) := (Mod.refl _ w1).setCell _ _ (.inl rfl)
    exact ⟨two_setCell hw1.blk, hw1.own.mod hm2 (fun g hg e => hw1.ne (e ▸ hg)), hw1.rng⟩
  generalize hq : l ++ enc 0 = q at *
  have HQ : Hid (l ++ enc 0 = q) := hq
  clear hq
  go_wp2
  go_ret
  rw [HQ.out]
  exact ⟨rfl, _, R, hm1.setCell _ _ (.inl (.inl rfl)), hf1⟩
/-- Octets of a writer: the bytes behind how many they are. -/
theorem WOctets_any (p : Nat) (v u : Value) (l m : List Int) (w : World) (h : Wr w p v l) (hs : Sl w u m) (hd : m ≠ [] → ∀ g, u.ownBlock = some g → g ≠ p ∧ v.ownBlock ≠ some g) (hb : l.length + m.length + 8 ≤ 140737488355328) :
    Calls Tryz.prog 65 #[.pointer (some ⟨p, 0, none⟩), u] w fun e w' => e = .returned (.int .i64 0) ∧ ∃ v', Wr w' p v' (l ++ enc m.length ++ m) ∧ Mod (fun k => k = p ∨ v.ownBlock = some k) w w' ∧ Fr w v v' := by
  have hk : ∀ w', Mod (fun k => k = p ∨ v.ownBlock = some k) w w' → Sl w' u m := fun w' hm => hs.mod2 hm (fun hne g hg => by have := hd hne g hg; rintro (h | h); exact this.1 h; exact this.2 h)
  obtain ⟨ao, cap, rfl, _, _, hn, _⟩ := hs.form
  cases ao with
  | none =>
    obtain rfl := hn rfl
    obtain ⟨ao', cap', e, hl, _⟩ := hs.form
    have hm0 : m = [] := by
      apply List.eq_nil_of_length_eq_zero
      simp only [Value.slice.injEq] at e
      omega
    subst hm0
    have := WOctets_none p v l w h (by simp at hb; omega)
    simpa using this
  | some a =>
    refine WOctets_some p v l m a cap w h hs.rng (fun w' hm j x hx => ?_) hb
    have hs' := hk w' hm
    obtain ⟨ao', cap', e, _, _, _, h4⟩ := hs'.form
    by_cases hm0 : m = []
    · subst hm0; simp [U] at hx
    · obtain ⟨b, off, e', hc⟩ := h4 hm0
      simp only [Value.slice.injEq] at e
      obtain ⟨e1, _, _⟩ := e
      rw [e'] at e1
      cases e1
      exact cells_of hc j x hx
end Go.Proofs.YthiijonmnebjgaaGreat
