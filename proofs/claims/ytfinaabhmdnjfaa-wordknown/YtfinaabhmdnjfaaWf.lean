/- Contracts of the writer's Fixed and Octets, for every number and every slice of bytes that does not lie in the writer itself. Conditions: what is written stays below 2^47 bytes. -/
import Derived.Test.YtfinaabhmdnjfaaWe
import Derived.Deep.RegionLaw
namespace Go.Proofs.Ytfinaabhmdnjfaa
open Go.RowKit
/-- A number in n bytes, the highest first. -/
def fenc : Nat → Nat → List Int
  | 0, _ => []
  | n + 1, v => ((v / 256 ^ n % 256 : Nat) : Int) :: fenc n v
/-- What the writer's Fixed answers for an error. -/
def fwE (v size : Int) : Int := if size < 1 ∨ 8 < size then 2 else if v < 0 ∨ 256 ^ size.toNat ≤ v then 9 else 0
theorem pow8 (n : Nat) : (2 : Int) ^ (8 * n) = ((256 ^ n : Nat) : Int) := by rw [Int.pow_mul]; simp
set_option maxRecDepth 100000 in
theorem WFixed_bad (p : Nat) (v : Value) (l : List Int) (x size : Int) (w : World) (h : Wr w p v l) (hx : x ≤ 9223372036854775807) (hE : fwE x size ≠ 0) :
    Calls Try.prog 14 #[.pointer (some ⟨p, 0, none⟩), .int .i64 x, .int .i64 size] w fun e w' => e = .returned (.int .i64 (fwE x size)) ∧ w' = w := by
  have h0 := h.c0
  unfold fwE at hE ⊢
  by_cases ha : size < 1 ∨ 8 < size
  · rw [if_pos ha]
    clear hE h
    rcases ha with ha | ha
    · go_enter Try.func14, Try.ntmps14
      go_wp2_with (go_at_call 33; refine (isnone_w p _ h0).mono ?_; rintro e w' ⟨rfl, rfl⟩)
      go_ret
      exact ⟨rfl, rfl⟩
    · have ha' : ¬ size < 1 := by omega
      go_enter Try.func14, Try.ntmps14
      go_wp2_with (go_at_call 33; refine (isnone_w p _ h0).mono ?_; rintro e w' ⟨rfl, rfl⟩)
      go_ret
      exact ⟨rfl, rfl⟩
  · rw [if_neg ha] at hE ⊢
    have hb : x < 0 ∨ 256 ^ size.toNat ≤ x := by
      rcases Classical.em (x < 0 ∨ 256 ^ size.toNat ≤ x) with h | h
      · exact h
      · rw [if_neg h] at hE; omega
    rw [if_pos hb]
    clear hE h
    have a1 : 1 ≤ size := by omega
    have a2 : size ≤ 8 := by omega
    clear ha
    obtain ⟨n, rfl⟩ := Int.eq_ofNat_of_zero_le (a := size) (by omega)
    rcases Int.lt_or_le x 0 with hneg | hpos
    · clear hb
      go_enter Try.func14, Try.ntmps14
      go_wp2_with (go_at_call 33; refine (isnone_w p _ h0).mono ?_; rintro e w' ⟨rfl, rfl⟩)
      go_ret
      exact ⟨rfl, rfl⟩
    · rw [Int.toNat_natCast] at hb
      have hb2 : 256 ^ n ≤ x := by omega
      have hdiv : (x / 2 ^ (8 * n) != 0) = true := by
        have h1 : (1 : Int) ≤ x / 2 ^ (8 * n) := by
          rw [pow8]
          refine (Int.le_ediv_iff_mul_le (by have := Nat.pow_pos (n := n) (show 0 < 256 by omega); omega)).2 ?_
          simpa using hb2
        rw [bne_iff_ne]
        omega
      clear hb hb2
      go_enter Try.func14, Try.ntmps14
      go_wp2_with (go_at_call 33; refine (isnone_w p _ h0).mono ?_; rintro e w' ⟨rfl, rfl⟩)
      go_ret
      exact ⟨rfl, rfl⟩
theorem fenc_rng : ∀ n v, ∀ c ∈ fenc n v, 0 ≤ c ∧ c ≤ 255
  | 0, _ => by simp [fenc]
  | n + 1, v => by
    intro c hc
    rcases List.mem_cons.1 hc with rfl | hc
    · omega
    · exact fenc_rng n v c hc
theorem fenc_len : ∀ n v, (fenc n v).length = n
  | 0, _ => rfl
  | n + 1, v => by simp [fenc, fenc_len n v]
set_option maxRecDepth 100000 in
set_option maxHeartbeats 1000000 in
theorem WFixed_go (p : Nat) (v : Value) (l : List Int) (x n : Nat) (w : World) (h : Wr w p v l) (hx : x ≤ 9223372036854775807) (h1n : 1 ≤ n) (hn8 : n ≤ 8) (hfit : x < 256 ^ n) (hb : l.length + 8 ≤ 140737488355328) :
    Calls Try.prog 14 #[.pointer (some ⟨p, 0, none⟩), .int .i64 (x : Int), .int .i64 (n : Int)] w fun e w' => e = .returned (.int .i64 0) ∧ ∃ v', Wr w' p v' (l ++ fenc n x) ∧ Mod (fun k => k = p ∨ v.ownBlock = some k) w w' ∧ Fr w v v' := by
  obtain ⟨i0, hi, hz0, hz1, hz2⟩ := info_parts info5
  have h0 := h.c0
  have hdiv : ((x : Int) / 2 ^ (8 * n) != 0) = false := by
    rw [pow8, ← Int.natCast_ediv, Nat.div_eq_of_lt hfit]
    rfl
  clear hfit
  go_enter Try.func14, Try.ntmps14
  go_wp2_with (go_at_call 33; refine (isnone_w p _ h0).mono ?_; rintro e w' ⟨rfl, rfl⟩)
  go_loopw [7] (fun i wr => ∃ (m : Nat) (v' : Value) (l' : List Int), i = .int .i64 ((m : Int) - 1) ∧ m ≤ n ∧ Hid (l' ++ fenc m x = l ++ fenc n x) ∧ l'.length + m ≤ l.length + 8 ∧ Wr wr p v' l' ∧ Mod (fun k => k = p ∨ v.ownBlock = some k) w' wr ∧ Fr w' v v') (fun i _ => (intOf i + 1).toNat)
  case atStart => exact ⟨n, v, l, by go_num, by omega, rfl, by omega, h, Mod.refl _ _, Fr.refl _ _⟩
  case round =>
    obtain ⟨m, v', l', rfl, hmn, hl, hlen, hw, hm, hfr⟩ := hrel
    clear h
    have h1 := hw.c1
    have hfz := hw.f1
    have hown := hw.own
    have hne := hw.ne
    cases m with
    | zero =>
      have HL := hl.out
      simp only [fenc, List.append_nil] at HL
      subst HL
      go_wp2
      go_ret
      exact ⟨rfl, _, hw, hm, hfr⟩
    | succ m =>
      have e1 : (((m + 1 : Nat) : Int) - 1) = (m : Int) := by omega
      rw [e1]
      have hw1 : IntKind.i64.wrap (8 * (m : Int)) = 8 * (m : Int) := by rw [IntKind.wrap_i64]; omega
      have hw2 : IntKind.u64.wrap (x : Int) = (x : Int) := by rw [IntKind.wrap_u64]; omega
      have hw3 : IntKind.u8.wrap ((x : Int) / 2 ^ (8 * (m : Int)).toNat) = ((x / 256 ^ m % 256 : Nat) : Int) := by
        rw [show (8 * (m : Int)).toNat = 8 * m from by omega, pow8, IntKind.wrap_u8, ← Int.natCast_ediv]
        omega
      have hcr : (0 : Int) ≤ ((x / 256 ^ m % 256 : Nat) : Int) ∧ ((x / 256 ^ m % 256 : Nat) : Int) ≤ 255 := by omega
      have hl2 : l' ++ [((x / 256 ^ m % 256 : Nat) : Int)] ++ fenc m x = l ++ fenc n x := by
        rw [← hl.out, fenc]
        simp
      have HL : Hid (l' ++ [((x / 256 ^ m % 256 : Nat) : Int)] ++ fenc m x = l ++ fenc n x) := hl2
      clear hl2 hl
      generalize ((x / 256 ^ m % 256 : Nat) : Int) = c at hw3 hcr HL
      have hal : ∀ o : Obj, (wr.alloc o).drew.cell? ⟨p, 1, none⟩ = some v' ∧ (wr.alloc o).drew.frozen? ⟨p, 1, none⟩ = false := fun o => by
        have hb := (((Mod.refl (fun _ => False) wr).alloc o).drew).obj hw.blk (fun h => h)
        exact ⟨by simp [World.cell?, hb], by simp [World.frozen?, hb]⟩
      have hal1 : ∀ o : Obj, (wr.alloc o).drew.cell? ⟨p, 1, none⟩ = some v' := fun o => (hal o).1
      have hal2 : ∀ o : Obj, (wr.alloc o).drew.frozen? ⟨p, 1, none⟩ = false := fun o => (hal o).2
      have hgr : ∀ (o : Obj) (w1 : World), (wr.alloc o).drew.grownBy w1 v'.ownBlock → w1.cell? ⟨p, 1, none⟩ = some v' ∧ w1.frozen? ⟨p, 1, none⟩ = false := fun o w1 hg => by
        have hm1 : Mod (fun k => v'.ownBlock = some k) wr w1 := (((Mod.refl _ wr).alloc o).drew).grown hg (fun k hk _ => hk)
        have hb := hm1.obj hw.blk hne
        exact ⟨by simp [World.cell?, hb], by simp [World.frozen?, hb]⟩
      clear hal
      go_wp2
      go_region_law ((refine step_append_lies _ (by rfl) _ _ 29 (by rfl) 0 5 i0 (.int .u8 0) 1 1 Try.underlying29 hi hz0 hz1 hz2 rfl (by decide) v' l'.length (U l') (by rfl) (hown.alloc _) ⟨wr.heap.size, 0, none⟩ 1 1 [.int .u8 c] (by rfl) rfl (by exact app1 _ _ _) (U_one [c]) (by omega) (by simp only [maxLen]; omega) (by omega) (Nat.zero_le _) (wr.heap.size + 1) (by simp) ?_; intro g cap1 w1 hown1 hgrow hg hlt; obtain ⟨hk1, hk2⟩ := hgr _ w1 hgrow))
      all_goals
        have hgrow' : (wr.alloc (.cells #[.int .u8 c] 5)).grownBy w1 v'.ownBlock := ⟨hgrow.os, hgrow.tape, hgrow.output, hgrow.size, hgrow.block⟩
        have R := hw.byte (c := c) hm hfr hcr hown1 hgrow' hg
        clear hgrow hgrow' hown1 hk1 hk2 hal1 hal2 hgr
        go_wp2
        go_roundw
        case rel => exact ⟨m, _, l' ++ [c], by go_num, by omega, HL, by simp; omega, R.1, R.2.1, R.2.2⟩
        case measure => simp [intOf]
theorem WFixed_ok (p : Nat) (v : Value) (l : List Int) (x size : Int) (w : World) (h : Wr w p v l) (hx : x ≤ 9223372036854775807) (hE : fwE x size = 0) (hb : l.length + 8 ≤ 140737488355328) :
    Calls Try.prog 14 #[.pointer (some ⟨p, 0, none⟩), .int .i64 x, .int .i64 size] w fun e w' => e = .returned (.int .i64 0) ∧ ∃ v', Wr w' p v' (l ++ fenc size.toNat x.toNat) ∧ Mod (fun k => k = p ∨ v.ownBlock = some k) w w' ∧ Fr w v v' := by
  unfold fwE at hE
  have ha : ¬ (size < 1 ∨ 8 < size) := by intro ha; rw [if_pos ha] at hE; omega
  rw [if_neg ha] at hE
  have hc : ¬ (x < 0 ∨ 256 ^ size.toNat ≤ x) := by intro ha; rw [if_pos ha] at hE; omega
  obtain ⟨n, rfl⟩ := Int.eq_ofNat_of_zero_le (a := size) (by omega)
  obtain ⟨y, rfl⟩ := Int.eq_ofNat_of_zero_le (a := x) (by omega)
  rw [Int.toNat_natCast] at hc
  rw [Int.toNat_natCast, Int.toNat_natCast]
  have hfit : y < 256 ^ n := by
    have h1 : ¬ (256 : Int) ^ n ≤ (y : Int) := fun h => hc (.inr h)
    have h2 : ((256 ^ n : Nat) : Int) = (256 : Int) ^ n := by simp
    omega
  exact WFixed_go p v l y n w h (by omega) (by omega) (by omega) hfit hb
theorem enc_ne (x : Nat) : 0 < (enc x).length := encF_pos 8 x (by omega)
theorem row_shape {w : World} {v : Value} {n : Nat} {xs : List Value} (h : w.ownsRow 0 5 1 v n xs) : ∃ ao cap, v = .slice ao n cap := by
  rcases h.2 with ⟨rfl, h0⟩ | ⟨g, cap, cur, rfl, _⟩
  · exact ⟨none, 0, by rw [h0]⟩
  · exact ⟨_, cap, rfl⟩
/-- Bytes appended to what a writer has, and stored. -/
theorem Wr.more {w wr w1 : World} {p : Nat} {v v' v1 : Value} {l m : List Int} (hw : Wr wr p v' l) (hm : Mod (fun k => k = p ∨ v.ownBlock = some k) w wr) (hfr : Fr w v v')
    (hc : ∀ c ∈ m, 0 ≤ c ∧ c ≤ 255) (hown : w1.ownsRow 0 5 1 v1 (l.length + m.length) (U l ++ U m))
    (hgrow : wr.grownBy w1 v'.ownBlock) (hg : v1.ownBlock = v'.ownBlock ∨ v1.ownBlock = some wr.heap.size) :
    Wr (w1.setCell ⟨p, 1, none⟩ v1) p v1 (l ++ m) ∧ Mod (fun k => k = p ∨ v.ownBlock = some k) w (w1.setCell ⟨p, 1, none⟩ v1) ∧ Fr w v v1 := by
  have hf : Fr wr v' v1 := by
    intro g' hg'
    rcases hg with h | h
    · exact .inl (h ▸ hg')
    · right; rw [h] at hg'; simp at hg'; omega
  have hm1 : Mod (fun k => v'.ownBlock = some k) wr w1 := (Mod.refl _ wr).grown hgrow (fun k hk _ => hk)
  have ho : Own w1 v1 (l ++ m) := by
    unfold Own
    rw [U_app, List.length_append]
    exact hown
  have R := hw.stored hm1 ho hc hf
  refine ⟨R.1, hm.trans R.2 (fun _ _ h => h) ?_, hfr.trans hf hm.size⟩
  rintro i hi (h | h)
  · exact .inl h
  · rcases hfr i h with h' | h'
    · exact .inr h'
    · omega
set_option maxRecDepth 100000 in
set_option maxHeartbeats 1000000 in
theorem WOctets_some (p : Nat) (v : Value) (l m : List Int) (a : Addr) (cap : Nat) (w : World) (h : Wr w p v l) (hr : ∀ c ∈ m, 0 ≤ c ∧ c ≤ 255)
    (hs : ∀ w', Mod (fun k => k = p ∨ v.ownBlock = some k) w w' → ∀ j u, (U m)[j]? = some u → w'.cell? (a.add j) = some u) (hb : l.length + m.length + 8 ≤ 140737488355328) :
    Calls Try.prog 17 #[.pointer (some ⟨p, 0, none⟩), .slice (some a) m.length cap] w fun e w' => e = .returned (.int .i64 0) ∧ ∃ v', Wr w' p v' (l ++ enc m.length ++ m) ∧ Mod (fun k => k = p ∨ v.ownBlock = some k) w w' ∧ Fr w v v' := by
  obtain ⟨i0, hi, hz0, hz1, hz2⟩ := info_parts info5
  have h0 := h.c0
  go_enter Try.func17, Try.ntmps17
  go_wp2_with fail
  refine (isnone_w p _ h0).mono ?_
  rintro e w' ⟨rfl, rfl⟩
  go_wp2_with fail
  refine (put_any p v l m.length _ h (by omega) (by omega)).mono ?_
  rintro e w1 ⟨rfl, v1, hw1, hm1, hf1⟩
  have hcell := hs w1 hm1
  have h1 := hw1.c1
  have hfz := hw1.f1
  have hown := hw1.own
  have hlen := enc_len m.length
  have hll : (l ++ enc m.length).length ≤ l.length + 8 := by simp; omega
  have hne := hw1.ne
  have hgr : ∀ (w2 : World), w1.grownBy w2 v1.ownBlock → w2.cell? ⟨p, 1, none⟩ = some v1 ∧ w2.frozen? ⟨p, 1, none⟩ = false := fun w2 hg => by
    have hm1 : Mod (fun k => v1.ownBlock = some k) w1 w2 := (Mod.refl _ w1).grown hg (fun k hk _ => hk)
    have hb := hm1.obj hw1.blk hne
    exact ⟨by simp [World.cell?, hb], by simp [World.frozen?, hb]⟩
  clear hs
  generalize hq : l ++ enc m.length = q at hw1 hown hll
  have HQ : Hid (l ++ enc m.length = q) := hq
  clear hq hlen h
  go_wp2_with (at_builtin; refine wpList_append_own_at _ rfl _ _ 29 rfl 0 5 i0 (.int .u8 0) 1 1 Try.underlying29 hi hz0 hz1 hz2 rfl (by decide) v1 q.length (U q) rfl hown a m.length cap (U m) rfl (by simp [U]) hcell (U_one m) (by simp only [maxLen]; omega) (by omega) (Nat.zero_le _) ?_; intro v2 w2 hown2 hgrow hnil hat; obtain ⟨hk1, hk2⟩ := hgr w2 hgrow; obtain ⟨ao2, cap2, rfl⟩ := row_shape hown2)
  have R := hw1.more hm1 hf1 hr hown2 hgrow hat
  go_ret
  rw [HQ.out]
  exact ⟨rfl, _, R⟩
set_option maxRecDepth 100000 in
theorem WOctets_none (p : Nat) (v : Value) (l : List Int) (w : World) (h : Wr w p v l) (hb : l.length + 8 ≤ 140737488355328) :
    Calls Try.prog 17 #[.pointer (some ⟨p, 0, none⟩), .slice none 0 0] w fun e w' => e = .returned (.int .i64 0) ∧ ∃ v', Wr w' p v' (l ++ enc 0) ∧ Mod (fun k => k = p ∨ v.ownBlock = some k) w w' ∧ Fr w v v' := by
  obtain ⟨i0, hi, hz0, hz1, hz2⟩ := info_parts info5
  have h0 := h.c0
  go_enter Try.func17, Try.ntmps17
  go_wp2_with fail
  refine (isnone_w p _ h0).mono ?_
  rintro e w' ⟨rfl, rfl⟩
  go_wp2_with fail
  refine (put_any p v l 0 _ h (by omega) (by omega)).mono ?_
  rintro e w1 ⟨rfl, v1, hw1, hm1, hf1⟩
  have h1 := hw1.c1
  have hfz := hw1.f1
  have hown := hw1.own
  obtain ⟨g1, c1, rfl, _⟩ := hown.form (by have := enc_ne 0; simp; omega)
  clear h hown
  have R : Wr (w1.setCell ⟨p, 1, none⟩ (.slice (some ⟨g1, 0, none⟩) (l ++ enc 0).length c1)) p (.slice (some ⟨g1, 0, none⟩) (l ++ enc 0).length c1) (l ++ enc 0) := by
    have hm2 : Mod (fun k => k = p) w1 (w1.setCell ⟨p, 1, none⟩ (.slice (some ⟨g1, 0, none⟩) (l ++ enc 0).length c1)) := (Mod.refl _ w1).setCell _ _ (.inl rfl)
    exact ⟨two_setCell hw1.blk, hw1.own.mod hm2 (fun g hg e => hw1.ne (e ▸ hg)), hw1.rng⟩
  generalize hq : l ++ enc 0 = q at *
  have HQ : Hid (l ++ enc 0 = q) := hq
  clear hq
  go_wp2
  go_ret
  rw [HQ.out]
  exact ⟨rfl, _, R, hm1.setCell _ _ (.inl (.inl rfl)), hf1⟩
/-- Octets of a writer: the bytes behind how many they are. -/
theorem WOctets_any (p : Nat) (v u : Value) (l m : List Int) (w : World) (h : Wr w p v l) (hs : Sl w u m) (hd : m ≠ [] → ∀ g, u.ownBlock = some g → g ≠ p ∧ v.ownBlock ≠ some g) (hb : l.length + m.length + 8 ≤ 140737488355328) :
    Calls Try.prog 17 #[.pointer (some ⟨p, 0, none⟩), u] w fun e w' => e = .returned (.int .i64 0) ∧ ∃ v', Wr w' p v' (l ++ enc m.length ++ m) ∧ Mod (fun k => k = p ∨ v.ownBlock = some k) w w' ∧ Fr w v v' := by
  have hk : ∀ w', Mod (fun k => k = p ∨ v.ownBlock = some k) w w' → Sl w' u m := fun w' hm => hs.mod2 hm (fun hne g hg => by have := hd hne g hg; rintro (h | h); exact this.1 h; exact this.2 h)
  obtain ⟨ao, cap, rfl, _, _, hn, _⟩ := hs.form
  cases ao with
  | none =>
    obtain rfl := hn rfl
    obtain ⟨ao', cap', e, hl, _⟩ := hs.form
    have hm0 : m = [] := by
      apply List.eq_nil_of_length_eq_zero
      simp only [Value.slice.injEq] at e
      omega
    subst hm0
    have := WOctets_none p v l w h (by simp at hb; omega)
    simpa using this
  | some a =>
    refine WOctets_some p v l m a cap w h hs.rng (fun w' hm j x hx => ?_) hb
    have hs' := hk w' hm
    obtain ⟨ao', cap', e, _, _, _, h4⟩ := hs'.form
    by_cases hm0 : m = []
    · subst hm0; simp [U] at hx
    · obtain ⟨b, off, e', hc⟩ := h4 hm0
      simp only [Value.slice.injEq] at e
      obtain ⟨e1, _, _⟩ := e
      rw [e'] at e1
      cases e1
      exact cells_of hc j x hx
end Go.Proofs.Ytfinaabhmdnjfaa
