/- Contracts of the document's own reader, the other calls (Get, Fixed, Octets, New), and of CopyBytes. Conditions: slices of at most 2^47 bytes. -/
import Derived.Test.YtfinaabhmdnjfaaRa
namespace Go.Proofs.Ytfinaabhmdnjfaa
open Go.RowKit
theorem rGet (p : Nat) (v : Value) (l : List Int) (w : World) (h : Rf w p v l) :
    Calls Try.prog 25 #[.pointer (some ⟨p, 0, none⟩)] w fun e w' => e = .returned (.tuple #[.int .i64 (num 0 0 l).1, .int .i64 (num 0 0 l).2.2]) ∧
      ∃ v', Rf w' p v' (l.drop (num 0 0 l).2.1.toNat) ∧ Mod (fun i => i = p) w w' ∧ (∀ g, v'.ownBlock = some g → v.ownBlock = some g) := by
  have h0 := h.c0
  have hf := h.f0
  obtain ⟨ao, cap, rfl, hlc, _⟩ := h.sl.form
  have hnum := rnumber _ _ _ _ h
  obtain ⟨hn0, hn1⟩ := num_size l 0 0
  generalize hN : num 0 0 l = N at hn0 hn1 hnum ⊢
  obtain ⟨x, z, e⟩ := N
  simp only at hn0 hn1 hnum ⊢
  obtain ⟨k, rfl⟩ := Int.eq_ofNat_of_zero_le hn0
  have hkl : k ≤ l.length := by omega
  have R := h.stored k hkl _ rfl
  rw [Int.toNat_natCast]
  by_cases hck : cap = k
  · subst hck
    rw [if_pos rfl, Nat.sub_self, Nat.sub_eq_zero_of_le hlc] at R
    clear hn1 hN
    go_enter Try.func25, Try.ntmps25
    go_wp2_with (go_at_call 39; refine hnum.mono ?_; rintro e w' ⟨rfl, rfl⟩)
    go_ret2
    exact ⟨rfl, _, R⟩
  · rw [if_neg hck, Nat.mul_one] at R
    clear hn1 hN
    go_enter Try.func25, Try.ntmps25
    go_wp2_with (go_at_call 39; refine hnum.mono ?_; rintro e w' ⟨rfl, rfl⟩)
    go_ret2
    exact ⟨rfl, _, R⟩
theorem fx_mono (l : List Int) (n : Nat) (hn : n ≤ l.length) : ∀ m, fx (l.take (n - m)) ≤ fx (l.take n)
  | 0 => Nat.le_refl _
  | m + 1 => by
    have ih := fx_mono l n hn m
    by_cases h : n ≤ m
    · rw [show n - (m + 1) = n - m from by omega]; exact ih
    · have h2 := fx_take (l := l) (k := n - (m + 1)) (by omega)
      rw [show n - (m + 1) + 1 = n - m from by omega] at h2
      omega
theorem fx_top {l : List Int} (hr : ∀ c ∈ l, 0 ≤ c ∧ c ≤ 255) (hl : 8 ≤ l.length) : (9223372036854775807 < fx (l.take 8)) ↔ 127 < l.getD 0 0 := by
  match l, hl with
  | c :: r, hl =>
    have hc := hr c (by simp)
    have hr' : ∀ c ∈ r, 0 ≤ c ∧ c ≤ 255 := fun c' hc' => hr c' (by simp [hc'])
    have hl' : 7 ≤ r.length := by simp at hl; omega
    have h1 := fx_lt r hr' 7 hl'
    have h2 : (r.take 7).length = 7 := by simp; omega
    rw [show (c :: r).take 8 = c :: r.take 7 from rfl, fx_cons, h2]
    simp only [List.getD_cons_zero]
    omega
set_option maxRecDepth 100000 in
theorem rFixed_bad (p : Nat) (v : Value) (l : List Int) (size : Int) (w : World) (h : Rf w p v l) (hE : fixE size l ≠ 0) :
    Calls Try.prog 27 #[.pointer (some ⟨p, 0, none⟩), .int .i64 size] w fun e w' => e = .returned (.tuple #[.int .i64 0, .int .i64 (fixE size l)]) ∧ w' = w := by
  have h0 := h.c0
  obtain ⟨ao, cap, rfl, hlc, hcm, _, hcell⟩ := h.sl.form
  have hr := h.sl.rng
  unfold maxLen at hcm
  unfold fixE at hE ⊢
  clear h
  by_cases ha : size < 1 ∨ 8 < size
  · rw [if_pos ha]
    clear hE hcell
    rcases ha with ha | ha
    · go_enter Try.func27, Try.ntmps27
      go_wp2
      go_ret2
      exact ⟨rfl, rfl⟩
    · have ha' : ¬ size < 1 := by omega
      go_enter Try.func27, Try.ntmps27
      go_wp2
      go_ret2
      exact ⟨rfl, rfl⟩
  · rw [if_neg ha] at hE ⊢
    have a1 : 1 ≤ size := by omega
    have a2 : size ≤ 8 := by omega
    by_cases ht : (l.length : Int) < size
    · rw [if_pos ht]
      clear hE ha hcell
      go_enter Try.func27, Try.ntmps27
      go_wp2
      go_ret2
      exact ⟨rfl, rfl⟩
    · rw [if_neg ht] at hE ⊢
      have hb : 9223372036854775807 < fx (l.take size.toNat) := by
        rcases Nat.lt_or_ge 9223372036854775807 (fx (l.take size.toNat)) with h | h
        · exact h
        · rw [if_neg (by omega)] at hE; omega
      rw [if_pos hb]
      have h8 : size = 8 := by
        rcases Classical.em (size = 8) with h | h
        · exact h
        · have h1 := fx_lt l hr size.toNat (by omega)
          have h2 : 256 ^ size.toNat ≤ 256 ^ 7 := Nat.pow_le_pow_right (by omega) (by omega)
          omega
      subst h8
      have hl8 : 8 ≤ l.length := by omega
      have hc0 := (fx_top hr hl8).1 hb
      obtain ⟨b, off, rfl, hc⟩ := hcell (by rintro rfl; simp at hl8)
      have hck := hc 0 (by omega)
      rw [Nat.add_zero] at hck
      generalize l.getD 0 0 = c at hc0 hck
      have hli : (0 : Int) < (l.length : Int) := by omega
      clear hc hE ha hcell hb
      go_enter Try.func27, Try.ntmps27
      go_wp2
      go_ret2
      exact ⟨rfl, rfl⟩
set_option maxRecDepth 100000 in
set_option maxHeartbeats 1000000 in
theorem rFixed_go (p : Nat) (ao : Option Addr) (cap : Nat) (l : List Int) (n : Nat) (w : World) (h : Rf w p (.slice ao l.length cap) l) (h1n : 1 ≤ n) (hn8 : n ≤ 8) (hnl : n ≤ l.length) (hsm : fx (l.take n) ≤ 9223372036854775807) :
    Calls Try.prog 27 #[.pointer (some ⟨p, 0, none⟩), .int .i64 n] w fun e w' => e = .returned (.tuple #[.int .i64 (fx (l.take n)), .int .i64 0]) ∧
       ∃ v', Rf w' p v' (l.drop n) ∧ Mod (fun i => i = p) w w' ∧ (∀ g, v'.ownBlock = some g → (Value.slice ao l.length cap).ownBlock = some g) := by
  have h0 := h.c0
  have hf := h.f0
  obtain ⟨ao', cap', e, hlc, hcm, _, hcell⟩ := h.sl.form
  simp only [Value.slice.injEq, true_and] at e
  obtain ⟨rfl, rfl⟩ := e
  obtain ⟨b, off, rfl, hc⟩ := hcell (by intro e; subst e; simp at hnl; omega)
  clear hcell
  have hr := h.sl.rng
  unfold maxLen at hcm
  have hmono : ∀ k, k ≤ n → fx (l.take k) ≤ 9223372036854775807 := fun k hk => by
    have := fx_mono l n hnl (n - k)
    rw [show n - (n - k) = k from by omega] at this
    omega
  have hfirst : n = 8 → l.getD 0 0 ≤ 127 := fun e => by
    subst e
    have := (fx_top hr hnl).2
    omega
  have hc0 := hc 0 (by omega)
  rw [Nat.add_zero] at hc0
  have hc0r := hr _ (getD_mem (l := l) (k := 0) (by omega))
  generalize l.getD 0 0 = c0 at hfirst hc0 hc0r
  have hli : (0 : Int) < (l.length : Int) := by omega
  have R := h.stored n hnl _ rfl
  have HM : Hid (∀ k, k ≤ n → fx (l.take k) ≤ 9223372036854775807) := hmono
  have HC : Hid (∀ j, j < l.length → w.cell? ⟨b, off + j, none⟩ = some (.int .u8 (l.getD j 0))) := hc
  have HR : Hid (∀ c ∈ l, 0 ≤ c ∧ c ≤ 255) := hr
  clear hmono hc hr h hsm
  have hcase : ((n : Int) == 8) = false ∨ (((n : Int) == 8) = true ∧ c0 ≤ 127) := by
    rcases Classical.em (n = 8) with e | e
    · right; exact ⟨by simp; omega, hfirst e⟩
    · left; simp; omega
  clear hfirst
  rcases hcase with h8 | ⟨h8, hc127⟩
  all_goals
    go_enter Try.func27, Try.ntmps27
    go_wp2
    go_loop [6, 7] (fun s i => ∃ k x : Nat, i = .int .i64 k ∧ s = .int .i64 x ∧ k ≤ n ∧ Hid (x = fx (l.take k))) (fun _ i => n - (intOf i).toNat)
    case atStart => exact ⟨0, 0, rfl, rfl, by omega, rfl⟩
    case round =>
      obtain ⟨k, x, rfl, rfl, hk, hx⟩ := hrel
      by_cases hkn : k < n
      · obtain ⟨c, hcd⟩ : ∃ c, c = l.getD k 0 := ⟨_, rfl⟩
        have hck := HC.out k (by omega)
        have hcr : 0 ≤ c ∧ c ≤ 255 := hcd ▸ HR.out _ (getD_mem (by omega))
        rw [← hcd] at hck
        have hs := fx_take (l := l) (k := k) (by omega)
        rw [← hx.out, ← hcd] at hs
        have hm1 := HM.out (k + 1) (by omega)
        rw [hs] at hm1
        have hx55 : x ≤ 36028797018963967 := by omega
        have hadd : (x : Int) * 256 + c = ((x * 256 + c.toNat : Nat) : Int) := by omega
        have hki : (k : Int) < (l.length : Int) := by omega
        generalize x * 256 + c.toNat = y at hs hm1 hadd
        have HS : Hid (y = fx (l.take (k + 1))) := hs.symm
        clear hs hx hcd
        go_wp2
        go_round
        case rel => exact ⟨k + 1, y, by go_num, rfl, by omega, HS⟩
        case measure => simp [intOf]; omega
      · obtain rfl : k = n := by omega
        by_cases hck : cap = k
        · subst hck
          rw [if_pos rfl, Nat.sub_self, Nat.sub_eq_zero_of_le hlc] at R
          go_wp2
          go_ret2
          exact ⟨by rw [← hx.out]; rfl, _, R⟩
        · rw [if_neg hck, Nat.mul_one] at R
          simp only [Option.map_some, add_at] at R
          go_wp2
          go_ret2
          exact ⟨by rw [← hx.out]; rfl, _, R⟩
theorem rFixed_ok (p : Nat) (v : Value) (l : List Int) (size : Int) (w : World) (h : Rf w p v l) (hE : fixE size l = 0) :
    Calls Try.prog 27 #[.pointer (some ⟨p, 0, none⟩), .int .i64 size] w fun e w' => e = .returned (.tuple #[.int .i64 (fx (l.take size.toNat)), .int .i64 0]) ∧
       ∃ v', Rf w' p v' (l.drop size.toNat) ∧ Mod (fun i => i = p) w w' ∧ (∀ g, v'.ownBlock = some g → v.ownBlock = some g) := by
  obtain ⟨ao, cap, rfl, _⟩ := h.sl.form
  unfold fixE at hE
  have ha : ¬ (size < 1 ∨ 8 < size) := by intro ha; rw [if_pos ha] at hE; omega
  rw [if_neg ha] at hE
  have ht : ¬ (l.length : Int) < size := by intro ha; rw [if_pos ha] at hE; omega
  rw [if_neg ht] at hE
  obtain ⟨n, rfl⟩ := Int.eq_ofNat_of_zero_le (a := size) (by omega)
  rw [Int.toNat_natCast] at hE ⊢
  have hb : ¬ 9223372036854775807 < fx (l.take n) := by intro ha; rw [if_pos ha] at hE; omega
  exact rFixed_go p ao cap l n w h (by omega) (by omega) (by omega) (by omega)
theorem copy_any (v : Value) (l : List Int) (w : World) (hs : Sl w v l) (hb : l.length ≤ 140737488355328) :
    Calls Try.prog 16 #[v] w fun e w' => ∃ v', e = .returned v' ∧ Own w' v' l ∧ Mod (fun _ => False) w w' ∧ (∀ g, v'.ownBlock = some g → w.heap.size ≤ g) := by
  obtain ⟨i0, hi, hz0, hz1, hz2⟩ := info_parts info5
  obtain ⟨ao, cap, rfl, h1, h2, h3, h4⟩ := hs.form
  cases ao with
  | none =>
    obtain rfl := h3 rfl
    obtain rfl : l = [] := List.eq_nil_of_length_eq_zero (by omega)
    go_enter Try.func16, Try.ntmps16
    go_wp2
    go_ret
    exact ⟨_, rfl, Own.nil _, Mod.refl _ _, by intro g hg; simp [Value.ownBlock] at hg⟩
  | some a =>
    have hcells : ∀ j u, (U l)[j]? = some u → w.cell? (a.add j) = some u := fun j u hu => by
      by_cases hl : l = []
      · subst hl; simp [U] at hu
      · obtain ⟨b, off, e, hc⟩ := h4 hl
        cases e
        exact cells_of hc j u hu
    clear h4
    go_enter Try.func16, Try.ntmps16
    go_wp2_with (at_builtin; refine wpList_append_own_at _ rfl _ _ 29 rfl 0 5 i0 (.int .u8 0) 1 1 Try.underlying29 hi hz0 hz1 hz2 rfl (by decide) (.slice none 0 0) 0 [] rfl (World.ownsRow_nil _ _ _ _) a l.length cap (U l) rfl (by simp [U]) hcells (U_one l) (by simp only [maxLen]; omega) (by omega) (Nat.zero_le _) ?_; intro v2 w2 hown2 hgrow hnil hat; simp only [Nat.zero_add, List.nil_append] at hown2)
    go_ret
    refine ⟨v2, rfl, hown2, (Mod.refl _ w).grown hgrow (by intro k hk; simp [Value.ownBlock] at hk), ?_⟩
    intro g hg
    rcases hat with h | h
    · rw [h] at hg; simp [Value.ownBlock] at hg
    · rw [h] at hg; simp at hg; omega
theorem rOctets_bad (p : Nat) (v : Value) (l : List Int) (most : Int) (w : World) (h : Rf w p v l) (hE : octE most l ≠ 0) :
    Calls Try.prog 29 #[.pointer (some ⟨p, 0, none⟩), .int .i64 most] w fun e w' => e = .returned (.tuple #[.slice none 0 0, .int .i64 (octE most l)]) ∧ w' = w := by
  have h0 := h.c0
  have hnum := rnumber _ _ _ _ h
  obtain ⟨ao, cap, rfl, hlc, hcm, _⟩ := h.sl.form
  have hz := num_size l 0 0
  have hv := num_val l 0 0
  unfold octE at hE ⊢
  generalize hN : num 0 0 l = N at hE hz hv hnum ⊢
  obtain ⟨x, z, e⟩ := N
  simp only at hE hz hv hnum ⊢
  clear hN h
  unfold maxLen at hcm
  by_cases he : e = 0
  · subst he
    simp only [ne_eq, not_true_eq_false, if_false] at hE ⊢
    by_cases hm : most < x
    · rw [if_pos hm]
      go_enter Try.func29, Try.ntmps29
      go_wp2_with (go_at_call 39; refine hnum.mono ?_; rintro e w' ⟨rfl, rfl⟩)
      go_ret2
      exact ⟨rfl, rfl⟩
    · rw [if_neg hm] at hE ⊢
      have ht : (l.length : Int) - z < x := by
        rcases Int.lt_or_le ((l.length : Int) - z) x with h | h
        · exact h
        · rw [if_neg (by omega)] at hE; omega
      rw [if_pos ht]
      clear hE
      have hz1 : z ≤ l.length := by omega
      go_enter Try.func29, Try.ntmps29
      go_wp2_with (go_at_call 39; refine hnum.mono ?_; rintro e w' ⟨rfl, rfl⟩)
      go_ret2
      exact ⟨rfl, rfl⟩
  · rw [if_pos he]
    have heb : (e == 0) = false := by simp [he]
    have hen : (e != 0) = true := by simp [he]
    clear hE he
    go_enter Try.func29, Try.ntmps29
    go_wp2_with (go_at_call 39; refine hnum.mono ?_; rintro e w' ⟨rfl, rfl⟩)
    go_ret2
    exact ⟨rfl, rfl⟩
theorem Sl.srcCells {w : World} {a : Addr} {m cap : Nat} {l : List Int} (h : Sl w (.slice (some a) m cap) l) : ∀ j u, (U l)[j]? = some u → w.cell? (a.add j) = some u := by
  obtain ⟨ao, cap', e, _, _, _, h4⟩ := h.form
  simp only [Value.slice.injEq] at e
  obtain ⟨rfl, rfl, rfl⟩ := e
  intro j u hu
  by_cases hl : l = []
  · subst hl; simp [U] at hu
  · obtain ⟨b, off, e, hc⟩ := h4 hl
    cases e
    exact cells_of hc j u hu
set_option maxRecDepth 100000 in
set_option maxHeartbeats 1000000 in
theorem rOctets_ok (p : Nat) (v : Value) (l : List Int) (most : Int) (w : World) (h : Rf w p v l) (hb : l.length ≤ 140737488355328) (hE : octE most l = 0) :
    Calls Try.prog 29 #[.pointer (some ⟨p, 0, none⟩), .int .i64 most] w fun e w' => ∃ v1 v2, e = .returned (.tuple #[v1, .int .i64 0]) ∧
      Own w' v1 ((l.drop (num 0 0 l).2.1.toNat).take (num 0 0 l).1.toNat) ∧ Rf w' p v2 (l.drop ((num 0 0 l).2.1.toNat + (num 0 0 l).1.toNat)) ∧ Mod (fun i => i = p) w w' ∧ (∀ g, v1.ownBlock = some g → w.heap.size ≤ g) ∧ (∀ g, v2.ownBlock = some g → v.ownBlock = some g) := by
  obtain ⟨i0, hi, hz0, hz1, hz2⟩ := info_parts info5
  have h0 := h.c0
  have hf := h.f0
  have hnum := rnumber _ _ _ _ h
  have hrng := h.sl.rng
  obtain ⟨⟨x, z, e⟩, hN⟩ : ∃ N, num 0 0 l = N := ⟨_, rfl⟩
  obtain ⟨rfl, n, k, rfl, rfl, hk1, hkn, hol, _⟩ := oct_facts hrng hN hE
  have hmost : (n : Int) ≤ most := by
    unfold octE at hE
    rw [hN] at hE
    simp only [ne_eq, not_true_eq_false, if_false] at hE
    rcases Int.lt_or_le most (n : Int) with h | h
    · rw [if_pos h] at hE; omega
    · exact h
  rw [hN] at hnum ⊢
  simp only [Int.toNat_natCast] at hnum ⊢
  obtain ⟨ao, cap, rfl, hlc, hcm, _, hcell⟩ := h.sl.form
  unfold maxLen at hcm
  have hs := h.sl
  obtain ⟨b, off, rfl, _⟩ := hcell (by rintro rfl; simp at hkn; omega)
  have hcut := hs.cut k (k + n) (by omega) hkn
  rw [show k + n - k = n from by omega] at hcut
  have hx : ∀ w1, Mod (fun _ => False) w w1 → Rf w1 p (.slice (some ⟨b, off, none⟩) l.length cap) l := fun w1 hm => h.mod2 hm (fun h => h) (fun _ _ _ h => h)
  have R : ∀ w1, Mod (fun _ => False) w w1 → _ := fun w1 hm => (hx w1 hm).stored (k + n) hkn _ rfl
  have hle : (k : Int) + (n : Int) ≤ (l.length : Int) := by omega
  have hplt := lt_of_block h.blk
  have hfin : ∀ (m : Nat) (v2 : Value) (w2 : World), m = n → w2.ownsRow 0 5 1 v2 (0 + m) ([] ++ U ((l.drop k).take n)) → w.grownBy w2 (Value.slice none 0 0).ownBlock → (v2.ownBlock = (Value.slice none 0 0).ownBlock ∨ v2.ownBlock = some w.heap.size) →
      Own w2 v2 ((l.drop k).take n) ∧ Mod (fun _ => False) w w2 ∧ (∀ g, v2.ownBlock = some g → w.heap.size ≤ g) := by
    intro m v2 w2 hmn ho hg hat
    subst hmn
    refine ⟨?_, (Mod.refl _ w).grown hg (by intro k hk; simp [Value.ownBlock] at hk), ?_⟩
    · unfold Own; rw [hol]; simpa using ho
    · intro g hg
      rcases hat with h | h
      · rw [h] at hg; simp [Value.ownBlock] at hg
      · rw [h] at hg; simp at hg; omega
  have HF := hfin
  clear hfin hcell hE hN
  by_cases hck : cap = k
  · subst hck
    obtain rfl : n = 0 := by omega
    rw [if_pos rfl, Nat.sub_self] at hcut
    have hsrc := hcut.srcCells
    have e0 : l.length - cap = 0 := by omega
    simp only [Nat.add_zero, if_true, Nat.sub_self, e0] at R
    clear e0
    go_enter Try.func29, Try.ntmps29
    go_wp2_with (first | (go_at_call 39; refine hnum.mono ?_; rintro e w' ⟨rfl, rfl⟩) | (at_builtin; refine wpList_append_own_at _ rfl _ _ 29 rfl 0 5 i0 (.int .u8 0) 1 1 Try.underlying29 hi hz0 hz1 hz2 rfl (by decide) (.slice none 0 0) 0 [] rfl (World.ownsRow_nil _ _ _ _) ⟨b, off, none⟩ 0 0 (U ((l.drop cap).take 0)) rfl (by simp [U]) hsrc (U_one _) (by simp only [maxLen]; omega) (by omega) (Nat.zero_le _) ?_; intro v2 w2 hown2 hgrow hnil hat; obtain ⟨ho, hm1, hg1⟩ := HF _ v2 w2 (by omega) hown2 hgrow hat; have h11 := (hx w2 hm1).c0; have hf1 := (hx w2 hm1).f0))
    go_ret2
    have r := R w2 hm1
    exact ⟨v2, rfl, ho.mod r.2.1 (fun g hg e => by have := hg1 g hg; omega), _, r.1, hm1.trans r.2.1 (fun _ _ h => h.elim) (fun _ _ h => h), hg1, r.2.2⟩
  · rw [if_neg hck, Nat.mul_one, Option.map_some, add_at] at hcut
    have hsrc := hcut.srcCells
    by_cases hckn : cap = k + n
    · subst hckn
      have e0 : l.length - (k + n) = 0 := by omega
      have e1 : k + n - k = n := by omega
      simp only [if_true, Nat.sub_self, e0] at R
      clear e0
      go_enter Try.func29, Try.ntmps29
      go_wp2_with (first | (go_at_call 39; refine hnum.mono ?_; rintro e w' ⟨rfl, rfl⟩) | (at_builtin; refine wpList_append_own_at _ rfl _ _ 29 rfl 0 5 i0 (.int .u8 0) 1 1 Try.underlying29 hi hz0 hz1 hz2 rfl (by decide) (.slice none 0 0) 0 [] rfl (World.ownsRow_nil _ _ _ _) ⟨b, off + k, none⟩ _ _ (U ((l.drop k).take n)) rfl (by rw [U_len, hol]; omega) hsrc (U_one _) (by simp only [maxLen]; omega) (by omega) (Nat.zero_le _) ?_; intro v2 w2 hown2 hgrow hnil hat; obtain ⟨ho, hm1, hg1⟩ := HF _ v2 w2 (by omega) hown2 hgrow hat; have h11 := (hx w2 hm1).c0; have hf1 := (hx w2 hm1).f0))
      go_ret2
      have r := R w2 hm1
      exact ⟨v2, rfl, ho.mod r.2.1 (fun g hg e => by have := hg1 g hg; omega), _, r.1, hm1.trans r.2.1 (fun _ _ h => h.elim) (fun _ _ h => h), hg1, r.2.2⟩
    · simp only [if_neg hckn, Nat.mul_one, Option.map_some, add_at] at R
      go_enter Try.func29, Try.ntmps29
      go_wp2_with (first | (go_at_call 39; refine hnum.mono ?_; rintro e w' ⟨rfl, rfl⟩) | (at_builtin; refine wpList_append_own_at _ rfl _ _ 29 rfl 0 5 i0 (.int .u8 0) 1 1 Try.underlying29 hi hz0 hz1 hz2 rfl (by decide) (.slice none 0 0) 0 [] rfl (World.ownsRow_nil _ _ _ _) ⟨b, off + k, none⟩ _ _ (U ((l.drop k).take n)) rfl (by rw [U_len, hol]; omega) hsrc (U_one _) (by simp only [maxLen]; omega) (by omega) (Nat.zero_le _) ?_; intro v2 w2 hown2 hgrow hnil hat; obtain ⟨ho, hm1, hg1⟩ := HF _ v2 w2 (by omega) hown2 hgrow hat; have h11 := (hx w2 hm1).c0; have hf1 := (hx w2 hm1).f0))
      go_ret2
      have r := R w2 hm1
      exact ⟨v2, rfl, ho.mod r.2.1 (fun g hg e => by have := hg1 g hg; omega), _, r.1, hm1.trans r.2.1 (fun _ _ h => h.elim) (fun _ _ h => h), hg1, r.2.2⟩
theorem rNew (v : Value) (l : List Int) (w : World) (hs : Sl w v l) (hb : l.length ≤ 140737488355328) :
    Calls Try.prog 23 #[v] w fun e w' => ∃ p, e = .returned (.pointer (some ⟨p, 0, none⟩)) ∧ ∃ v', Rf w' p v' l ∧ Mod (fun _ => False) w w' ∧ w.heap.size ≤ p ∧ (∀ g, v'.ownBlock = some g → w.heap.size ≤ g) := by
  obtain ⟨i0, hi, hz0, hz1, hz2⟩ := info_parts info5
  obtain ⟨ao, cap, rfl, h1, h2, h3, h4⟩ := hs.form
  have hma : Mod (fun _ => False) w (w.alloc (.cells #[.slice none 0 0] 52)) := (Mod.refl _ w).alloc _
  have hsa := hs.mod hma (fun _ _ h => h)
  cases ao with
  | none =>
    obtain rfl := h3 rfl
    obtain rfl : l = [] := List.eq_nil_of_length_eq_zero (by omega)
    go_enter Try.func23, Try.ntmps23
    go_wp2
    go_ret
    have hb0 := heap_alloc_new w (.cells #[.slice none 0 0] 52)
    exact ⟨w.heap.size, rfl, .slice none 0 0, ⟨hb0, (Own.nil _).sl (by simp), by simp [Value.ownBlock]⟩, hma, Nat.le_refl _, by intro g hg; simp [Value.ownBlock] at hg⟩
  | some a =>
    have hcells := hsa.srcCells
    clear h4
    have hb0 := heap_alloc_new w (.cells #[.slice none 0 0] 52)
    have HB : Hid ((w.alloc (.cells #[.slice none 0 0] 52)).heap[w.heap.size]? = some (.cells #[.slice none 0 0] 52)) := hb0
    clear hb0
    have hfin : ∀ (v2 : Value) (w2 : World), w2.ownsRow 0 5 1 v2 (0 + l.length) ([] ++ U l) → (w.alloc (.cells #[.slice none 0 0] 52)).grownBy w2 (Value.slice none 0 0).ownBlock → (v2.ownBlock = (Value.slice none 0 0).ownBlock ∨ v2.ownBlock = some (w.alloc (.cells #[.slice none 0 0] 52)).heap.size) →
        (∃ ao2 cap2, v2 = .slice ao2 l.length cap2) ∧ w2.cell? ⟨w.heap.size, 0, none⟩ = some (.slice none 0 0) ∧ w2.frozen? ⟨w.heap.size, 0, none⟩ = false ∧ Rf (w2.setCell ⟨w.heap.size, 0, none⟩ v2) w.heap.size v2 l ∧ Mod (fun _ => False) w (w2.setCell ⟨w.heap.size, 0, none⟩ v2) ∧ (∀ g, v2.ownBlock = some g → w.heap.size ≤ g) := by
      intro v2 w2 ho hg hat
      have hm2 : Mod (fun _ => False) (w.alloc (.cells #[.slice none 0 0] 52)) w2 := (Mod.refl _ _).grown hg (by intro k hk; simp [Value.ownBlock] at hk)
      have hob := hm2.obj HB.out (fun h => h)
      have hown : Own w2 v2 l := by unfold Own; simpa using ho
      have hge : ∀ g, v2.ownBlock = some g → w.heap.size + 1 ≤ g := by
        intro g hg
        rcases hat with h | h
        · rw [h] at hg; simp [Value.ownBlock] at hg
        · rw [h] at hg; simp at hg; omega
      have hms : Mod (fun i => i = w.heap.size) w2 (w2.setCell ⟨w.heap.size, 0, none⟩ v2) := (Mod.refl _ _).setCell _ _ (.inl rfl)
      refine ⟨?_, cell_of_one hob, free_of_one hob, ⟨one_setCell hob, (hown.mod hms (fun g hg e => by have := hge g hg; omega)).sl hs.rng, fun e => by have := hge _ e; omega⟩, ?_, fun g hg => by have := hge g hg; omega⟩
      · obtain ⟨a2, c2, e⟩ := row_shape ho
        exact ⟨a2, c2, by simpa using e⟩
      · exact (hma.trans hm2 (V := fun _ => False) (fun _ _ h => h) (fun _ _ h => h)).trans hms (fun _ _ h => h) (fun i hi h => by omega)
    go_enter Try.func23, Try.ntmps23
    go_wp2_with (at_builtin; refine wpList_append_own_at _ rfl _ _ 29 rfl 0 5 i0 (.int .u8 0) 1 1 Try.underlying29 hi hz0 hz1 hz2 rfl (by decide) (.slice none 0 0) 0 [] rfl (World.ownsRow_nil _ _ _ _) a l.length cap (U l) rfl (by simp [U]) hcells (U_one l) (by simp only [maxLen]; omega) (by omega) (Nat.zero_le _) ?_; intro v2 w2 hown2 hgrow hnil hat; obtain ⟨⟨ao2, cap2, rfl⟩, q1, q2, q3, q4, q5⟩ := hfin v2 w2 hown2 hgrow hat)
    go_ret
    exact ⟨_, rfl, _, q3, q4, Nat.le_refl _, q5⟩
/-- EqBytes, drawing alone. -/
theorem EqBytes_quiet (u v : Value) (a b : List Int) (w : World) (hu : Sl w u a) (hv : Sl w v b) (r : Bool) (hr : decide (a = b) = r) :
    Calls Try.prog 19 #[u, v] w fun e w' => e = .returned (.bool r) ∧ ∃ n, w' = w.drewN n := by
  subst hr
  obtain ⟨a1, c1, rfl, _, hm, _, h1⟩ := hu.form
  obtain ⟨a2, c2, rfl, _, _, _, h2⟩ := hv.form
  by_cases hl : a.length = b.length
  · by_cases ha : a = []
    · subst ha
      obtain rfl : b = [] := List.eq_nil_of_length_eq_zero (by simpa using hl.symm)
      refine (EqBytes_zero _ _ _ _ _).mono ?_
      rintro e w' ⟨rfl, rfl⟩
      exact ⟨by simp, 0, rfl⟩
    · obtain ⟨b1, o1, rfl, hc1⟩ := h1 ha
      obtain ⟨b2, o2, rfl, hc2⟩ := h2 (by rintro rfl; exact ha (List.eq_nil_of_length_eq_zero (by simpa using hl)))
      exact EqBytes_some b1 o1 c1 b2 o2 c2 a b w hl (by unfold maxLen at hm; omega) hc1 hc2
  · refine (EqBytes_len _ _ _ _ _ _ _ hl).mono ?_
    rintro e w' ⟨rfl, rfl⟩
    have : ¬ a = b := by rintro rfl; exact hl rfl
    exact ⟨by simp [this], 0, rfl⟩
/-- A byte stored into what the call owns. -/
theorem Own.set {w : World} {g cap : Nat} {l : List Int} (h : Own w (.slice (some ⟨g, 0, none⟩) l.length cap) l) (k : Nat) (hk : k < l.length) (c : Int) :
    Own (w.setCell ⟨g, k, none⟩ (.int .u8 c)) (.slice (some ⟨g, 0, none⟩) l.length cap) (l.set k c) ∧ Mod (fun i => i = g) w (w.setCell ⟨g, k, none⟩ (.int .u8 c)) ∧ w.cell? ⟨g, k, none⟩ = some (.int .u8 (l.getD k 0)) ∧ w.frozen? ⟨g, k, none⟩ = false := by
  refine ⟨?_, (Mod.refl _ w).setCell _ _ (.inl rfl), ?_, World.ownsRow.frozenAt h k⟩
  · have := World.ownsRow.stored h k (.int .u8 c)
    unfold Own
    rw [List.length_set]
    have e : U (l.set k c) = (U l).set k (.int .u8 c) := by simp [U, List.map_set]
    rw [e]
    exact this.1
  · rw [World.ownsRow.cellAt h k (by omega)]
    exact U_get l k hk
end Go.Proofs.Ytfinaabhmdnjfaa
