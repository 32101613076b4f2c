/- Contracts of the reader's calls: number, Get, Octets, Fixed, Left, for every slice of bytes and every reader. No conditions beyond sizes that a slice of bytes has. -/
import Derived.Test.YthiijonmnebjgaaGreatWb
namespace Go.Proofs.YthiijonmnebjgaaGreat
open Go.RowKit
set_option maxRecDepth 100000 in
theorem number_some (b off cap : Nat) (l : List Int) (w : World) (hr : ∀ c ∈ l, 0 ≤ c ∧ c ≤ 255) (hmax : l.length ≤ 9223372036854775807)
   (hc : ∀ j, j < l.length → w.cell? ⟨b, off + j, none⟩ = some (.int .u8 (l.getD j 0))) :
    Calls Tryz.prog 118 #[.slice (some ⟨b, off, none⟩) l.length cap] w fun e w' => e = .returned (.tuple #[.int .i64 (num 0 0 l).1, .int .i64 (num 0 0 l).2.1, .int .i64 (num 0 0 l).2.2]) ∧ w' = w := by
  go_enter Tryz.func118, Tryz.ntmps118
  go_wp2
  go_step3
  go_wp2
  go_step3
  go_wp2
  go_loop [3, 5, 10] (fun z s i => ∃ k x : Nat, z = .int .i64 0 ∧ i = .int .i64 k ∧ s = .int .u64 x ∧ k ≤ l.length ∧ k ≤ 7 ∧ Hid (x < 128 ^ k) ∧ Hid (num 0 0 l = num x k (l.drop k))) (fun _ _ i => l.length - (intOf i).toNat)
  case atStart => exact ⟨0, 0, rfl, rfl, rfl, by omega, by omega, by show 0 < 128 ^ 0; omega, rfl⟩
  case round =>
    obtain ⟨k, x, rfl, rfl, rfl, hk, hk7, hx, hn⟩ := hrel
    by_cases hlt : k < l.length
    · obtain ⟨c, hcd⟩ : ∃ c, c = l.getD k 0 := ⟨_, rfl⟩
      have hck := hc k hlt
      have hcr : 0 ≤ c ∧ c ≤ 255 := hcd ▸ hr _ (getD_mem hlt)
      have hn' : num 0 0 l = num x k (c :: l.drop (k + 1)) := by rw [hn.out, drop_cons hlt, ← hcd]
      rw [← hcd] at hck
      have HX := hx.out
      have hm := mask127_u8 hcr.1 hcr.2
      have ha := and128_u8 hcr.1 hcr.2
      have ho := or_shift (c := c % 128) HX hk7 (by omega) (by omega)
      have hX' := acc_lt (c := c % 128) HX (by omega) (by omega)
      have hX7 : 128 ^ (k + 1) ≤ 128 ^ 8 := Nat.pow_le_pow_right (by omega) (by omega)
      have e1 : c.toNat % 128 = (c % 128).toNat := by omega
      rw [num, e1] at hn'
      generalize hy : x + (c % 128).toNat * 128 ^ k = y at hn' ho hX'
      have HXL : Hid (y < 128 ^ (k + 1)) := hX'
      have hy8 : y < 72057594037927936 := by omega
      have HN : Hid (num 0 0 l = _) := hn'
      clear hn' hy hX7 hcd hn hx HX hX' hc hr e1
      by_cases h128 : c < 128
      · rw [if_pos h128] at ha
        have HN2 := HN.out
        rw [if_pos h128] at HN2
        clear HN
        by_cases hz : 0 < k ∧ c = 0
        · rw [if_pos hz] at HN2
          have HN : Hid (num 0 0 l = _) := HN2
          clear HN2
          obtain ⟨hk0, hc0⟩ := hz
          have hcz : (c == 0) = true := by simp [hc0]
          have Hc0 : Hid (c = 0) := hc0
          clear hc0
          go_wp2
          go_ret3
          rw [HN.out]
          exact ⟨rfl, rfl⟩
        · rw [if_neg hz] at HN2
          by_cases hbig : 9007199254740991 < y
          · rw [if_pos hbig] at HN2
            have HN : Hid (num 0 0 l = _) := HN2
            clear HN2
            by_cases hk0 : 0 < k
            · have hcz : (c == 0) = false := by simp; omega
              go_wp2
              go_ret3
              rw [HN.out]
              exact ⟨rfl, rfl⟩
            · go_wp2
              go_ret3
              rw [HN.out]
              exact ⟨rfl, rfl⟩
          · rw [if_neg hbig] at HN2
            have HN : Hid (num 0 0 l = _) := HN2
            clear HN2
            by_cases hk0 : 0 < k
            · have hcz : (c == 0) = false := by simp; omega
              go_wp2
              go_ret3
              rw [HN.out]
              exact ⟨by simp, rfl⟩
            · go_wp2
              go_ret3
              rw [HN.out]
              exact ⟨by simp, rfl⟩
      · rw [if_neg h128] at ha
        have HN2 := HN.out
        rw [if_neg h128] at HN2
        clear HN
        by_cases h7 : k = 7
        · rw [if_pos h7] at HN2
          have HN : Hid (num 0 0 l = _) := HN2
          clear HN2
          have hk7' : ((k : Int) == 7) = true := by simp; omega
          have H7 : Hid (k = 7) := h7
          clear h7
          go_wp2
          go_ret3
          rw [HN.out]
          exact ⟨rfl, rfl⟩
        · rw [if_neg h7] at HN2
          have HN : Hid (num 0 0 l = _) := HN2
          clear HN2
          have hk7' : ((k : Int) == 7) = false := by simp; omega
          go_wp2
          go_round
          case rel => exact ⟨k + 1, y, rfl, by go_num, rfl, by omega, by omega, HXL, HN⟩
          case measure => simp [intOf]; omega
    · have hn' : num 0 0 l = (0, 0, 3) := by rw [hn.out, List.drop_eq_nil_of_le (by omega)]; rfl
      have HN : Hid (num 0 0 l = _) := hn'
      clear hn' hn
      go_wp2
      go_ret3
      rw [HN.out]
      exact ⟨rfl, rfl⟩
theorem number_empty (ao : Option Addr) (cap : Nat) (w : World) :
    Calls Tryz.prog 118 #[.slice ao 0 cap] w fun e w' => e = .returned (.tuple #[.int .i64 0, .int .i64 0, .int .i64 3]) ∧ w' = w := by
  go_enter Tryz.func118, Tryz.ntmps118
  go_wp2
  go_step3
  go_wp2
  go_step3
  go_wp2
  go_loop [3, 10] (fun z i => z = .int .i64 0 ∧ i = .int .i64 0) (fun _ _ => 0)
  case atStart => exact ⟨rfl, rfl⟩
  case round =>
    obtain ⟨rfl, rfl⟩ := hrel
    go_wp2
    go_ret3
    exact ⟨rfl, rfl⟩
theorem number_any (v : Value) (l : List Int) (w : World) (hs : Sl w v l) :
    Calls Tryz.prog 118 #[v] w fun e w' => e = .returned (.tuple #[.int .i64 (num 0 0 l).1, .int .i64 (num 0 0 l).2.1, .int .i64 (num 0 0 l).2.2]) ∧ w' = w := by
  obtain ⟨ao, cap, rfl, h1, h2, _, h4⟩ := hs.form
  by_cases hl : l = []
  · subst hl
    exact number_empty ao cap w
  · obtain ⟨b, off, rfl, hc⟩ := h4 hl
    exact number_some b off cap l w hs.rng (by unfold maxLen at h2; omega) hc
theorem Left_any (p : Nat) (v : Value) (l : List Int) (w : World) (h : Rd w p v l) :
    Calls Tryz.prog 77 #[.pointer (some ⟨p, 0, none⟩)] w fun e w' => e = .returned (.int .i64 l.length) ∧ w' = w := by
  have h0 := h.c0
  have h1 := h.c1
  obtain ⟨ao, cap, rfl, _⟩ := h.sl.form
  clear h
  go_enter Tryz.func77, Tryz.ntmps77
  go_wp2
  go_ret
  exact ⟨rfl, rfl⟩
/-- A slice cut at its front. -/
theorem Sl.drop {w : World} {ao : Option Addr} {cap : Nat} {l : List Int} (h : Sl w (.slice ao l.length cap) l) (k : Nat) (hk : k ≤ l.length) :
    Sl w (.slice (if cap = k then ao else ao.map (·.add (k * 1))) (l.length - k) (cap - k)) (l.drop k) := by
  obtain ⟨ao', cap', e, h1, h2, h3, h4⟩ := h.form
  simp only [Value.slice.injEq, true_and] at e
  obtain ⟨rfl, rfl⟩ := e
  refine ⟨⟨_, _, by rw [List.length_drop], by rw [List.length_drop]; omega, by omega, ?_, ?_⟩, fun c hc => h.rng c (List.mem_of_mem_drop hc)⟩
  · split
    · intro _; omega
    · intro e; cases ao with
      | none => have := h3 rfl; omega
      | some a => simp at e
  · intro hl
    have hk2 : k < l.length := by
      rcases Nat.lt_or_ge k l.length with h | h
      · exact h
      · exact absurd (List.drop_eq_nil_of_le h) hl
    obtain ⟨b, off, rfl, hc⟩ := h4 (by intro e; subst e; simp at hk2)
    rw [if_neg (by omega)]
    refine ⟨b, off + k, by simp [add_at], fun j hj => ?_⟩
    rw [List.length_drop] at hj
    have := hc (k + j) (by omega)
    rw [Nat.add_assoc, this]
    simp [List.getElem?_drop]
theorem Sl.drop_blk {ao : Option Addr} {cap n k m : Nat} : ∀ g, (Value.slice (if cap = k then ao else ao.map (·.add (k * 1))) n m).ownBlock = some g → (Value.slice ao n cap).ownBlock = some g := by
  intro g hg
  split at hg
  · cases ao with
    | none => simp [Value.ownBlock] at hg
    | some a => simpa [Value.ownBlock] using hg
  · cases ao with
    | none => simp [Value.ownBlock] at hg
    | some a =>
      have : (a.add (k * 1)).block = a.block := by unfold Addr.add; split <;> rfl
      simp only [Value.ownBlock, Option.map_some, this] at hg
      exact hg
/-- A reader that has read k bytes. -/
theorem Rd.stored {w : World} {p cap : Nat} {ao : Option Addr} {l : List Int} (h : Rd w p (.slice ao l.length cap) l) (k : Nat) (hk : k ≤ l.length) (v' : Value)
    (hv : v' = .slice (if cap = k then ao else ao.map (·.add (k * 1))) (l.length - k) (cap - k)) :
    Rd (w.setCell ⟨p, 1, none⟩ v') p v' (l.drop k) ∧ Mod (fun i => i = p) w (w.setCell ⟨p, 1, none⟩ v') ∧ (∀ g, v'.ownBlock = some g → (Value.slice ao l.length cap).ownBlock = some g) := by
  have hm : Mod (fun i => i = p) w (w.setCell ⟨p, 1, none⟩ v') := (Mod.refl _ w).setCell _ _ (.inl rfl)
  have hb : ∀ g, v'.ownBlock = some g → (Value.slice ao l.length cap).ownBlock = some g := by
    intro g hg
    subst hv
    have := Sl.drop_blk g hg
    cases ao with
    | none => simp [Value.ownBlock] at this
    | some a => simpa [Value.ownBlock] using this
  refine ⟨⟨two_setCell h.blk, ?_, fun e => h.ne (hb _ e)⟩, hm, hb⟩
  subst hv
  exact (h.sl.drop k hk).mod hm (fun g hg e => h.ne (e ▸ hb g hg))
theorem Get_any (p : Nat) (v : Value) (l : List Int) (w : World) (h : Rd w p v l) :
    Calls Tryz.prog 117 #[.pointer (some ⟨p, 0, none⟩)] w fun e w' => e = .returned (.tuple #[.int .i64 (num 0 0 l).1, .int .i64 (num 0 0 l).2.2]) ∧
      ∃ v', Rd w' p v' (l.drop (num 0 0 l).2.1.toNat) ∧ Mod (fun i => i = p) w w' ∧ (∀ g, v'.ownBlock = some g → v.ownBlock = some g) := by
  have h0 := h.c0
  have h1 := h.c1
  have hf := h.f1
  obtain ⟨ao, cap, rfl, hlc, _⟩ := h.sl.form
  have hs := h.sl
  obtain ⟨hn0, hn1⟩ := num_size l 0 0
  generalize hN : num 0 0 l = N at hn0 hn1 ⊢
  obtain ⟨x, z, e⟩ := N
  simp only at hn0 hn1 ⊢
  obtain ⟨k, rfl⟩ := Int.eq_ofNat_of_zero_le hn0
  have hkl : k ≤ l.length := by omega
  have hnum : ∀ W, Sl W (.slice ao l.length cap) l → Calls Tryz.prog 118 #[.slice ao l.length cap] W fun e' w' => e' = .returned (.tuple #[.int .i64 x, .int .i64 k, .int .i64 e]) ∧ w' = W := fun W hW => by
    have := number_any _ _ W hW
    rwa [hN] at this
  have R := h.stored k hkl _ rfl
  rw [Int.toNat_natCast]
  by_cases hck : cap = k
  · subst hck
    rw [if_pos rfl, Nat.sub_self, Nat.sub_eq_zero_of_le hlc] at R
    clear hn1 hN
    go_enter Tryz.func117, Tryz.ntmps117
    go_wp2_with (first | (go_at_call 99; refine (isnone_r p _ h0).mono ?_; rintro e w' ⟨rfl, rfl⟩) | (go_at_call 118; refine (hnum _ hs).mono ?_; rintro e w' ⟨rfl, rfl⟩))
    go_ret2
    exact ⟨rfl, _, R⟩
  · rw [if_neg hck, Nat.mul_one] at R
    clear hn1 hN
    go_enter Tryz.func117, Tryz.ntmps117
    go_wp2_with (first | (go_at_call 99; refine (isnone_r p _ h0).mono ?_; rintro e w' ⟨rfl, rfl⟩) | (go_at_call 118; refine (hnum _ hs).mono ?_; rintro e w' ⟨rfl, rfl⟩))
    go_ret2
    exact ⟨rfl, _, R⟩
/-- What Octets answers for an error. -/
def octE (most : Int) (l : List Int) : Int :=
  if (num 0 0 l).2.2 ≠ 0 then (num 0 0 l).2.2 else if most < (num 0 0 l).1 then 5 else if (l.length : Int) - (num 0 0 l).2.1 < (num 0 0 l).1 then 3 else 0
theorem Octets_bad (p : Nat) (v : Value) (l : List Int) (most : Int) (w : World) (h : Rd w p v l) (hE : octE most l ≠ 0) :
    Calls Tryz.prog 98 #[.pointer (some ⟨p, 0, none⟩), .int .i64 most] w fun e w' => e = .returned (.tuple #[.slice none 0 0, .int .i64 (octE most l)]) ∧ w' = w := by
  have h0 := h.c0
  have h1 := h.c1
  obtain ⟨ao, cap, rfl, hlc, hcm, _⟩ := h.sl.form
  have hs := h.sl
  have hz := num_size l 0 0
  have hv := num_val l 0 0
  unfold octE at hE ⊢
  generalize hN : num 0 0 l = N at hE hz hv ⊢
  obtain ⟨x, z, e⟩ := N
  simp only at hE hz hv ⊢
  have hnum : ∀ W, Sl W (.slice ao l.length cap) l → Calls Tryz.prog 118 #[.slice ao l.length cap] W fun e' w' => e' = .returned (.tuple #[.int .i64 x, .int .i64 z, .int .i64 e]) ∧ w' = W := fun W hW => by
    have := number_any _ _ W hW
    rwa [hN] at this
  clear hN h
  unfold maxLen at hcm
  by_cases he : e = 0
  · subst he
    simp only [ne_eq, not_true_eq_false, if_false] at hE ⊢
    by_cases hm : most < x
    · rw [if_pos hm]
      go_enter Tryz.func98, Tryz.ntmps98
      go_wp2_with (first | (go_at_call 99; refine (isnone_r p _ h0).mono ?_; rintro e w' ⟨rfl, rfl⟩) | (go_at_call 118; refine (hnum _ hs).mono ?_; rintro e w' ⟨rfl, rfl⟩))
      go_ret2
      exact ⟨rfl, rfl⟩
    · rw [if_neg hm] at hE ⊢
      have ht : (l.length : Int) - z < x := by
        rcases Int.lt_or_le ((l.length : Int) - z) x with h | h
        · exact h
        · rw [if_neg (by omega)] at hE; omega
      rw [if_pos ht]
      clear hE
      have hz1 : z ≤ l.length := by omega
      go_enter Tryz.func98, Tryz.ntmps98
      go_wp2_with (first | (go_at_call 99; refine (isnone_r p _ h0).mono ?_; rintro e w' ⟨rfl, rfl⟩) | (go_at_call 118; refine (hnum _ hs).mono ?_; rintro e w' ⟨rfl, rfl⟩))
      go_ret2
      exact ⟨rfl, rfl⟩
  · rw [if_pos he]
    have heb : (e == 0) = false := by simp [he]
    have hen : (e != 0) = true := by simp [he]
    clear hE he
    go_enter Tryz.func98, Tryz.ntmps98
    go_wp2_with (first | (go_at_call 99; refine (isnone_r p _ h0).mono ?_; rintro e w' ⟨rfl, rfl⟩) | (go_at_call 118; refine (hnum _ hs).mono ?_; rintro e w' ⟨rfl, rfl⟩))
    go_ret2
    exact ⟨rfl, rfl⟩
/-- A slice cut at both ends. -/
theorem Sl.cut {w : World} {ao : Option Addr} {cap : Nat} {l : List Int} (h : Sl w (.slice ao l.length cap) l) (k m : Nat) (hk : k ≤ m) (hm : m ≤ l.length) :
    Sl w (.slice (if cap = k then ao else ao.map (·.add (k * 1))) (m - k) (cap - k)) ((l.drop k).take (m - k)) := by
  have h2 := h.drop k (by omega)
  obtain ⟨ao', cap', e, g1, g2, g3, g4⟩ := h2.form
  simp only [Value.slice.injEq] at e
  obtain ⟨e1, e2, e3⟩ := e
  subst e1 e3
  have hl : ((l.drop k).take (m - k)).length = m - k := by simp; omega
  refine ⟨⟨_, _, by rw [hl], by rw [hl]; omega, g2, g3, ?_⟩, fun c hc => h2.rng c (List.mem_of_mem_take hc)⟩
  intro hne
  obtain ⟨b, off, e, hc⟩ := g4 (by intro e; rw [e] at hne; simp at hne)
  refine ⟨b, off, e, fun j hj => ?_⟩
  rw [hl] at hj
  rw [hc j (by simp; omega)]
  simp [hj]
theorem Octets_ok (p : Nat) (v : Value) (l : List Int) (most : Int) (w : World) (h : Rd w p v l) (hb : l.length ≤ 140737488355328) (hE : octE most l = 0) :
    Calls Tryz.prog 98 #[.pointer (some ⟨p, 0, none⟩), .int .i64 most] w fun e w' => ∃ v1 v2, e = .returned (.tuple #[v1, .int .i64 0]) ∧
      Own w' v1 ((l.drop (num 0 0 l).2.1.toNat).take (num 0 0 l).1.toNat) ∧ Rd w' p v2 (l.drop ((num 0 0 l).2.1.toNat + (num 0 0 l).1.toNat)) ∧ Mod (fun i => i = p) w w' ∧ (∀ g, v1.ownBlock = some g → w.heap.size ≤ g) ∧ (∀ g, v2.ownBlock = some g → v.ownBlock = some g) := by
  have h0 := h.c0
  have h1 := h.c1
  have hf := h.f1
  obtain ⟨ao, cap, rfl, hlc, hcm, _⟩ := h.sl.form
  have hs := h.sl
  have hz := num_size l 0 0
  have hv := num_val l 0 0
  unfold octE at hE
  generalize hN : num 0 0 l = N at hE hz hv ⊢
  obtain ⟨x, z, e⟩ := N
  simp only at hE hz hv ⊢
  have hnum : ∀ W, Sl W (.slice ao l.length cap) l → Calls Tryz.prog 118 #[.slice ao l.length cap] W fun e' w' => e' = .returned (.tuple #[.int .i64 x, .int .i64 z, .int .i64 e]) ∧ w' = W := fun W hW => by
    have := number_any _ _ W hW
    rwa [hN] at this
  clear hN
  unfold maxLen at hcm
  have he : e = 0 := by
    rcases Classical.em (e = 0) with h | h
    · exact h
    · rw [if_pos h] at hE; exact absurd hE h
  subst he
  simp only [ne_eq, not_true_eq_false, if_false] at hE
  have hm : ¬ most < x := by intro h; rw [if_pos h] at hE; omega
  rw [if_neg hm] at hE
  have ht : ¬ (l.length : Int) - z < x := by intro h; rw [if_pos h] at hE; omega
  clear hE
  obtain ⟨k, rfl⟩ := Int.eq_ofNat_of_zero_le (a := z) (by omega)
  obtain ⟨n, rfl⟩ := Int.eq_ofNat_of_zero_le (a := x) (by omega)
  simp only [Int.toNat_natCast]
  have hkn : k + n ≤ l.length := by omega
  have hcut := hs.cut k (k + n) (by omega) hkn
  rw [show k + n - k = n from by omega] at hcut
  have hx : ∀ w1, Mod (fun _ => False) w w1 → Rd w1 p (.slice ao l.length cap) l := fun w1 hm => h.mod hm (fun h => h) (fun _ _ h => h)
  have R : ∀ w1, Mod (fun _ => False) w w1 → _ := fun w1 hm => (hx w1 hm).stored (k + n) hkn _ rfl
  have hcl : ∀ u, Sl w u ((l.drop k).take n) → Calls Tryz.prog 58 #[u] w fun e w' => ∃ v', e = .returned v' ∧ Own w' v' ((l.drop k).take n) ∧ Mod (fun _ => False) w w' ∧ (∀ g, v'.ownBlock = some g → w.heap.size ≤ g) := fun u hu =>
    clone_any u _ w hu (by simp; omega)
  clear hv
  by_cases hck : cap = k
  · subst hck
    obtain rfl : n = 0 := by omega
    rw [if_pos rfl, Nat.sub_self] at hcut
    have e0 : l.length - cap = 0 := by omega
    simp only [Nat.add_zero, if_true, Nat.sub_self, e0] at R
    clear e0
    go_enter Tryz.func98, Tryz.ntmps98
    go_wp2_with (first | (go_at_call 99; refine (isnone_r p _ h0).mono ?_; rintro e w' ⟨rfl, rfl⟩) | (go_at_call 118; refine (hnum _ hs).mono ?_; rintro e w' ⟨rfl, rfl⟩) | (go_at_call 58; refine (hcl _ hcut).mono ?_; rintro e w1 ⟨v1, rfl, ho, hm1, hg1⟩; have h11 := (hx w1 hm1).c1; have hf1 := (hx w1 hm1).f1))
    go_ret2
    have r := R w1 hm1
    exact ⟨_, _, rfl, ho.mod r.2.1 (fun g hg e => by have := hg1 g hg; have := lt_of_block h.blk; omega), r.1, hm1.trans r.2.1 (fun _ _ h => h.elim) (fun _ _ h => h), hg1, r.2.2⟩
  · by_cases hckn : cap = k + n
    · subst hckn
      rw [if_neg hck, Nat.mul_one, show k + n - k = n from by omega] at hcut
      have e0 : l.length - (k + n) = 0 := by omega
      simp only [if_true, Nat.sub_self, e0] at R
      have e1 : k + n - k = n := by omega
      clear e0
      go_enter Tryz.func98, Tryz.ntmps98
      go_wp2_with (first | (go_at_call 99; refine (isnone_r p _ h0).mono ?_; rintro e w' ⟨rfl, rfl⟩) | (go_at_call 118; refine (hnum _ hs).mono ?_; rintro e w' ⟨rfl, rfl⟩) | (go_at_call 58; refine (hcl _ hcut).mono ?_; rintro e w1 ⟨v1, rfl, ho, hm1, hg1⟩; have h11 := (hx w1 hm1).c1; have hf1 := (hx w1 hm1).f1))
      go_ret2
      have r := R w1 hm1
      exact ⟨_, _, rfl, ho.mod r.2.1 (fun g hg e => by have := hg1 g hg; have := lt_of_block h.blk; omega), r.1, hm1.trans r.2.1 (fun _ _ h => h.elim) (fun _ _ h => h), hg1, r.2.2⟩
    · rw [if_neg hck, Nat.mul_one] at hcut
      simp only [if_neg hckn, Nat.mul_one] at R
      go_enter Tryz.func98, Tryz.ntmps98
      go_wp2_with (first | (go_at_call 99; refine (isnone_r p _ h0).mono ?_; rintro e w' ⟨rfl, rfl⟩) | (go_at_call 118; refine (hnum _ hs).mono ?_; rintro e w' ⟨rfl, rfl⟩) | (go_at_call 58; refine (hcl _ hcut).mono ?_; rintro e w1 ⟨v1, rfl, ho, hm1, hg1⟩; have h11 := (hx w1 hm1).c1; have hf1 := (hx w1 hm1).f1))
      go_ret2
      have r := R w1 hm1
      exact ⟨_, _, rfl, ho.mod r.2.1 (fun g hg e => by have := hg1 g hg; have := lt_of_block h.blk; omega), r.1, hm1.trans r.2.1 (fun _ _ h => h.elim) (fun _ _ h => h), hg1, r.2.2⟩
/-- What Fixed answers for an error. -/
def fixE (size : Int) (l : List Int) : Int :=
  if size < 1 ∨ 8 < size then 2 else if (l.length : Int) < size then 3 else if 9223372036854775807 < fx (l.take size.toNat) then 9 else 0
end Go.Proofs.YthiijonmnebjgaaGreat
