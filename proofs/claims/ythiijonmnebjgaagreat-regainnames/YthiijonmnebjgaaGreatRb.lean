/- Contracts of the document's own reader, the other calls (Get, Fixed, Octets, New), and of CopyBytes. Conditions: slices of at most 2^47 bytes. -/
import Derived.Test.YthiijonmnebjgaaGreatRa
namespace Go.Proofs.YthiijonmnebjgaaGreat
open Go.RowKit
theorem rGet (p : Nat) (v : Value) (l : List Int) (w : World) (h : Rf w p v l) :
    Calls Tryz.prog 79 #[.pointer (some ⟨p, 0, none⟩)] w fun e w' => e = .returned (.tuple #[.int .i64 (num 0 0 l).1, .int .i64 (num 0 0 l).2.2]) ∧
      ∃ v', Rf w' p v' (l.drop (num 0 0 l).2.1.toNat) ∧ Mod (fun i => i = p) w w' ∧ (∀ g, v'.ownBlock = some g → v.ownBlock = some g) := by
  have h0 := h.c0
  have hf := h.f0
  obtain ⟨ao, cap, rfl, hlc, _⟩ := h.sl.form
  have hnum := rnumber _ _ _ _ h
  obtain ⟨hn0, hn1⟩ := num_size l 0 0
  generalize hN : num 0 0 l = N at hn0 hn1 hnum ⊢
  obtain ⟨x, z, e⟩ := N
  simp only at hn0 hn1 hnum ⊢
  obtain ⟨k, rfl⟩ := Int.eq_ofNat_of_zero_le hn0
  have hkl : k ≤ l.length := by omega
  have R := h.stored k hkl _ rfl
  rw [Int.toNat_natCast]
  by_cases hck : cap = k
  · subst hck
    rw [if_pos rfl, Nat.sub_self, Nat.sub_eq_zero_of_le hlc] at R
    clear hn1 hN
    go_enter Tryz.func79, Tryz.ntmps79
    go_wp2_with (go_at_call 100; refine hnum.mono ?_; rintro e w' ⟨rfl, rfl⟩)
    go_ret2
    exact ⟨rfl, _, R⟩
  · rw [if_neg hck, Nat.mul_one] at R
    clear hn1 hN
    go_enter Tryz.func79, Tryz.ntmps79
    go_wp2_with (go_at_call 100; refine hnum.mono ?_; rintro e w' ⟨rfl, rfl⟩)
    go_ret2
    exact ⟨rfl, _, R⟩
theorem get_facts {L : List Int} {x z e : Int} (hr : ∀ c ∈ L, 0 ≤ c ∧ c ≤ 255) (hN : num 0 0 L = (x, z, e)) :
    (e ≠ 0 ∧ x = 0 ∧ z = 0) ∨ (e = 0 ∧ 0 ≤ x ∧ x ≤ 9007199254740991 ∧ ∃ k : Nat, z = k ∧ 1 ≤ k ∧ k ≤ L.length ∧ enc x.toNat = L.take k) := by
  have h1 := num_size L 0 0
  have h2 := num_val L 0 0
  have h3 := num_back L 0 0 (by omega) hr
  rw [hN] at h1 h2 h3
  simp only at h1 h2 h3
  by_cases he : e = 0
  · right
    obtain ⟨y, hy, hb, _⟩ := h3 he
    clear h3
    refine ⟨he, by omega, by omega, z.toNat, by omega, by omega, by omega, ?_⟩
    have : x.toNat = y := by simp at hy; omega
    rw [this]
    simpa [enc] using hb
  · left
    clear h3
    exact ⟨he, by omega, by omega⟩
/-- What Fixed gives. -/
theorem oct_facts {L : List Int} {most x z e : Int} (hr : ∀ c ∈ L, 0 ≤ c ∧ c ≤ 255) (hN : num 0 0 L = (x, z, e)) (hE : octE most L = 0) :
    e = 0 ∧ ∃ n k : Nat, x = n ∧ z = k ∧ 1 ≤ k ∧ k + n ≤ L.length ∧ ((L.drop k).take n).length = n ∧ enc n ++ (L.drop k).take n = L.take (k + n) := by
  unfold octE at hE
  rw [hN] at hE
  simp only at hE
  have he : e = 0 := by
    rcases Classical.em (e = 0) with h | h
    · exact h
    · rw [if_pos h] at hE; exact absurd hE h
  subst he
  simp only [ne_eq, not_true_eq_false, if_false] at hE
  have hm : ¬ most < x := by intro h; rw [if_pos h] at hE; omega
  rw [if_neg hm] at hE
  have ht : ¬ (L.length : Int) - z < x := by intro h; rw [if_pos h] at hE; omega
  rcases get_facts hr hN with h | ⟨_, h0, _, k, rfl, h1, h2, h3⟩
  · exact absurd rfl h.1
  · obtain ⟨n, rfl⟩ := Int.eq_ofNat_of_zero_le h0
    rw [Int.toNat_natCast] at h3
    refine ⟨rfl, n, k, rfl, rfl, h1, by omega, by simp; omega, ?_⟩
    rw [h3, List.take_add]
theorem rOctets_bad (p : Nat) (v : Value) (l : List Int) (most : Int) (w : World) (h : Rf w p v l) (hE : octE most l ≠ 0) :
    Calls Tryz.prog 80 #[.pointer (some ⟨p, 0, none⟩), .int .i64 most] w fun e w' => e = .returned (.tuple #[.slice none 0 0, .int .i64 (octE most l)]) ∧ w' = w := by
  have h0 := h.c0
  have hnum := rnumber _ _ _ _ h
  obtain ⟨ao, cap, rfl, hlc, hcm, _⟩ := h.sl.form
  have hz := num_size l 0 0
  have hv := num_val l 0 0
  unfold octE at hE ⊢
  generalize hN : num 0 0 l = N at hE hz hv hnum ⊢
  obtain ⟨x, z, e⟩ := N
  simp only at hE hz hv hnum ⊢
  clear hN h
  unfold maxLen at hcm
  by_cases he : e = 0
  · subst he
    simp only [ne_eq, not_true_eq_false, if_false] at hE ⊢
    by_cases hm : most < x
    · rw [if_pos hm]
      go_enter Tryz.func80, Tryz.ntmps80
      go_wp2_with (go_at_call 100; refine hnum.mono ?_; rintro e w' ⟨rfl, rfl⟩)
      go_ret2
      exact ⟨rfl, rfl⟩
    · rw [if_neg hm] at hE ⊢
      have ht : (l.length : Int) - z < x := by
        rcases Int.lt_or_le ((l.length : Int) - z) x with h | h
        · exact h
        · rw [if_neg (by omega)] at hE; omega
      rw [if_pos ht]
      clear hE
      have hz1 : z ≤ l.length := by omega
      go_enter Tryz.func80, Tryz.ntmps80
      go_wp2_with (go_at_call 100; refine hnum.mono ?_; rintro e w' ⟨rfl, rfl⟩)
      go_ret2
      exact ⟨rfl, rfl⟩
  · rw [if_pos he]
    have heb : (e == 0) = false := by simp [he]
    have hen : (e != 0) = true := by simp [he]
    clear hE he
    go_enter Tryz.func80, Tryz.ntmps80
    go_wp2_with (go_at_call 100; refine hnum.mono ?_; rintro e w' ⟨rfl, rfl⟩)
    go_ret2
    exact ⟨rfl, rfl⟩
theorem Sl.srcCells {w : World} {a : Addr} {m cap : Nat} {l : List Int} (h : Sl w (.slice (some a) m cap) l) : ∀ j u, (U l)[j]? = some u → w.cell? (a.add j) = some u := by
  obtain ⟨ao, cap', e, _, _, _, h4⟩ := h.form
  simp only [Value.slice.injEq] at e
  obtain ⟨rfl, rfl, rfl⟩ := e
  intro j u hu
  by_cases hl : l = []
  · subst hl; simp [U] at hu
  · obtain ⟨b, off, e, hc⟩ := h4 hl
    cases e
    exact cells_of hc j u hu
set_option maxRecDepth 100000 in
set_option maxHeartbeats 1000000 in
theorem rOctets_ok (p : Nat) (v : Value) (l : List Int) (most : Int) (w : World) (h : Rf w p v l) (hb : l.length ≤ 140737488355328) (hE : octE most l = 0) :
    Calls Tryz.prog 80 #[.pointer (some ⟨p, 0, none⟩), .int .i64 most] w fun e w' => ∃ v1 v2, e = .returned (.tuple #[v1, .int .i64 0]) ∧
      Own w' v1 ((l.drop (num 0 0 l).2.1.toNat).take (num 0 0 l).1.toNat) ∧ Rf w' p v2 (l.drop ((num 0 0 l).2.1.toNat + (num 0 0 l).1.toNat)) ∧ Mod (fun i => i = p) w w' ∧ (∀ g, v1.ownBlock = some g → w.heap.size ≤ g) ∧ (∀ g, v2.ownBlock = some g → v.ownBlock = some g) := by
  obtain ⟨i0, hi, hz0, hz1, hz2⟩ := info_parts info5
  have h0 := h.c0
  have hf := h.f0
  have hnum := rnumber _ _ _ _ h
  have hrng := h.sl.rng
  obtain ⟨⟨x, z, e⟩, hN⟩ : ∃ N, num 0 0 l = N := ⟨_, rfl⟩
  obtain ⟨rfl, n, k, rfl, rfl, hk1, hkn, hol, _⟩ := oct_facts hrng hN hE
  have hmost : (n : Int) ≤ most := by
    unfold octE at hE
    rw [hN] at hE
    simp only [ne_eq, not_true_eq_false, if_false] at hE
    rcases Int.lt_or_le most (n : Int) with h | h
    · rw [if_pos h] at hE; omega
    · exact h
  rw [hN] at hnum ⊢
  simp only [Int.toNat_natCast] at hnum ⊢
  obtain ⟨ao, cap, rfl, hlc, hcm, _, hcell⟩ := h.sl.form
  unfold maxLen at hcm
  have hs := h.sl
  obtain ⟨b, off, rfl, _⟩ := hcell (by rintro rfl; simp at hkn; omega)
  have hcut := hs.cut k (k + n) (by omega) hkn
  rw [show k + n - k = n from by omega] at hcut
  have hx : ∀ w1, Mod (fun _ => False) w w1 → Rf w1 p (.slice (some ⟨b, off, none⟩) l.length cap) l := fun w1 hm => h.mod2 hm (fun h => h) (fun _ _ _ h => h)
  have R : ∀ w1, Mod (fun _ => False) w w1 → _ := fun w1 hm => (hx w1 hm).stored (k + n) hkn _ rfl
  have hle : (k : Int) + (n : Int) ≤ (l.length : Int) := by omega
  have hplt := lt_of_block h.blk
  have hfin : ∀ (m : Nat) (v2 : Value) (w2 : World), m = n → w2.ownsRow 0 5 1 v2 (0 + m) ([] ++ U ((l.drop k).take n)) → w.grownBy w2 (Value.slice none 0 0).ownBlock → (v2.ownBlock = (Value.slice none 0 0).ownBlock ∨ v2.ownBlock = some w.heap.size) →
      Own w2 v2 ((l.drop k).take n) ∧ Mod (fun _ => False) w w2 ∧ (∀ g, v2.ownBlock = some g → w.heap.size ≤ g) := by
    intro m v2 w2 hmn ho hg hat
    subst hmn
    refine ⟨?_, (Mod.refl _ w).grown hg (by intro k hk; simp [Value.ownBlock] at hk), ?_⟩
    · unfold Own; rw [hol]; simpa using ho
    · intro g hg
      rcases hat with h | h
      · rw [h] at hg; simp [Value.ownBlock] at hg
      · rw [h] at hg; simp at hg; omega
  have HF := hfin
  clear hfin hcell hE hN
  by_cases hck : cap = k
  · subst hck
    obtain rfl : n = 0 := by omega
    rw [if_pos rfl, Nat.sub_self] at hcut
    have hsrc := hcut.srcCells
    have e0 : l.length - cap = 0 := by omega
    simp only [Nat.add_zero, if_true, Nat.sub_self, e0] at R
    clear e0
    go_enter Tryz.func80, Tryz.ntmps80
    go_wp2_with (first | (go_at_call 100; refine hnum.mono ?_; rintro e w' ⟨rfl, rfl⟩) | (at_builtin; refine wpList_append_own_at _ rfl _ _ 41 rfl 0 5 i0 (.int .u8 0) 1 1 Tryz.underlying41 hi hz0 hz1 hz2 rfl (by decide) (.slice none 0 0) 0 [] rfl (World.ownsRow_nil _ _ _ _) ⟨b, off, none⟩ 0 0 (U ((l.drop cap).take 0)) rfl (by simp [U]) hsrc (U_one _) (by simp only [maxLen]; omega) (by omega) (Nat.zero_le _) ?_; intro v2 w2 hown2 hgrow hnil hat; obtain ⟨ho, hm1, hg1⟩ := HF _ v2 w2 (by omega) hown2 hgrow hat; have h11 := (hx w2 hm1).c0; have hf1 := (hx w2 hm1).f0))
    go_ret2
    have r := R w2 hm1
    exact ⟨v2, rfl, ho.mod r.2.1 (fun g hg e => by have := hg1 g hg; omega), _, r.1, hm1.trans r.2.1 (fun _ _ h => h.elim) (fun _ _ h => h), hg1, r.2.2⟩
  · rw [if_neg hck, Nat.mul_one, Option.map_some, add_at] at hcut
    have hsrc := hcut.srcCells
    by_cases hckn : cap = k + n
    · subst hckn
      have e0 : l.length - (k + n) = 0 := by omega
      have e1 : k + n - k = n := by omega
      simp only [if_true, Nat.sub_self, e0] at R
      clear e0
      go_enter Tryz.func80, Tryz.ntmps80
      go_wp2_with (first | (go_at_call 100; refine hnum.mono ?_; rintro e w' ⟨rfl, rfl⟩) | (at_builtin; refine wpList_append_own_at _ rfl _ _ 41 rfl 0 5 i0 (.int .u8 0) 1 1 Tryz.underlying41 hi hz0 hz1 hz2 rfl (by decide) (.slice none 0 0) 0 [] rfl (World.ownsRow_nil _ _ _ _) ⟨b, off + k, none⟩ _ _ (U ((l.drop k).take n)) rfl (by rw [U_len, hol]; omega) hsrc (U_one _) (by simp only [maxLen]; omega) (by omega) (Nat.zero_le _) ?_; intro v2 w2 hown2 hgrow hnil hat; obtain ⟨ho, hm1, hg1⟩ := HF _ v2 w2 (by omega) hown2 hgrow hat; have h11 := (hx w2 hm1).c0; have hf1 := (hx w2 hm1).f0))
      go_ret2
      have r := R w2 hm1
      exact ⟨v2, rfl, ho.mod r.2.1 (fun g hg e => by have := hg1 g hg; omega), _, r.1, hm1.trans r.2.1 (fun _ _ h => h.elim) (fun _ _ h => h), hg1, r.2.2⟩
    · simp only [if_neg hckn, Nat.mul_one, Option.map_some, add_at] at R
      go_enter Tryz.func80, Tryz.ntmps80
      go_wp2_with (first | (go_at_call 100; refine hnum.mono ?_; rintro e w' ⟨rfl, rfl⟩) | (at_builtin; refine wpList_append_own_at _ rfl _ _ 41 rfl 0 5 i0 (.int .u8 0) 1 1 Tryz.underlying41 hi hz0 hz1 hz2 rfl (by decide) (.slice none 0 0) 0 [] rfl (World.ownsRow_nil _ _ _ _) ⟨b, off + k, none⟩ _ _ (U ((l.drop k).take n)) rfl (by rw [U_len, hol]; omega) hsrc (U_one _) (by simp only [maxLen]; omega) (by omega) (Nat.zero_le _) ?_; intro v2 w2 hown2 hgrow hnil hat; obtain ⟨ho, hm1, hg1⟩ := HF _ v2 w2 (by omega) hown2 hgrow hat; have h11 := (hx w2 hm1).c0; have hf1 := (hx w2 hm1).f0))
      go_ret2
      have r := R w2 hm1
      exact ⟨v2, rfl, ho.mod r.2.1 (fun g hg e => by have := hg1 g hg; omega), _, r.1, hm1.trans r.2.1 (fun _ _ h => h.elim) (fun _ _ h => h), hg1, r.2.2⟩
theorem rNew (v : Value) (l : List Int) (w : World) (hs : Sl w v l) (hb : l.length ≤ 140737488355328) :
    Calls Tryz.prog 78 #[v] w fun e w' => ∃ p, e = .returned (.pointer (some ⟨p, 0, none⟩)) ∧ ∃ v', Rf w' p v' l ∧ Mod (fun _ => False) w w' ∧ w.heap.size ≤ p ∧ (∀ g, v'.ownBlock = some g → w.heap.size ≤ g) := by
  obtain ⟨i0, hi, hz0, hz1, hz2⟩ := info_parts info5
  obtain ⟨ao, cap, rfl, h1, h2, h3, h4⟩ := hs.form
  have hma : Mod (fun _ => False) w (w.alloc (.cells #[.slice none 0 0] 128)) := (Mod.refl _ w).alloc _
  have hsa := hs.mod hma (fun _ _ h => h)
  cases ao with
  | none =>
    obtain rfl := h3 rfl
    obtain rfl : l = [] := List.eq_nil_of_length_eq_zero (by omega)
    go_enter Tryz.func78, Tryz.ntmps78
    go_wp2
    go_ret
    have hb0 := heap_alloc_new w (.cells #[.slice none 0 0] 128)
    exact ⟨w.heap.size, rfl, .slice none 0 0, ⟨hb0, (Own.nil _).sl (by simp), by simp [Value.ownBlock]⟩, hma, Nat.le_refl _, by intro g hg; simp [Value.ownBlock] at hg⟩
  | some a =>
    have hcells := hsa.srcCells
    clear h4
    have hb0 := heap_alloc_new w (.cells #[.slice none 0 0] 128)
    have HB : Hid ((w.alloc (.cells #[.slice none 0 0] 128)).heap[w.heap.size]? = some (.cells #[.slice none 0 0] 128)) := hb0
    clear hb0
    have hfin : ∀ (v2 : Value) (w2 : World), w2.ownsRow 0 5 1 v2 (0 + l.length) ([] ++ U l) → (w.alloc (.cells #[.slice none 0 0] 128)).grownBy w2 (Value.slice none 0 0).ownBlock → (v2.ownBlock = (Value.slice none 0 0).ownBlock ∨ v2.ownBlock = some (w.alloc (.cells #[.slice none 0 0] 128)).heap.size) →
        (∃ ao2 cap2, v2 = .slice ao2 l.length cap2) ∧ w2.cell? ⟨w.heap.size, 0, none⟩ = some (.slice none 0 0) ∧ w2.frozen? ⟨w.heap.size, 0, none⟩ = false ∧ Rf (w2.setCell ⟨w.heap.size, 0, none⟩ v2) w.heap.size v2 l ∧ Mod (fun _ => False) w (w2.setCell ⟨w.heap.size, 0, none⟩ v2) ∧ (∀ g, v2.ownBlock = some g → w.heap.size ≤ g) := by
      intro v2 w2 ho hg hat
      have hm2 : Mod (fun _ => False) (w.alloc (.cells #[.slice none 0 0] 128)) w2 := (Mod.refl _ _).grown hg (by intro k hk; simp [Value.ownBlock] at hk)
      have hob := hm2.obj HB.out (fun h => h)
      have hown : Own w2 v2 l := by unfold Own; simpa using ho
      have hge : ∀ g, v2.ownBlock = some g → w.heap.size + 1 ≤ g := by
        intro g hg
        rcases hat with h | h
        · rw [h] at hg; simp [Value.ownBlock] at hg
        · rw [h] at hg; simp at hg; omega
      have hms : Mod (fun i => i = w.heap.size) w2 (w2.setCell ⟨w.heap.size, 0, none⟩ v2) := (Mod.refl _ _).setCell _ _ (.inl rfl)
      refine ⟨?_, cell_of_one hob, free_of_one hob, ⟨one_setCell hob, (hown.mod hms (fun g hg e => by have := hge g hg; omega)).sl hs.rng, fun e => by have := hge _ e; omega⟩, ?_, fun g hg => by have := hge g hg; omega⟩
      · obtain ⟨a2, c2, e⟩ := row_shape ho
        exact ⟨a2, c2, by simpa using e⟩
      · exact (hma.trans hm2 (V := fun _ => False) (fun _ _ h => h) (fun _ _ h => h)).trans hms (fun _ _ h => h) (fun i hi h => by omega)
    go_enter Tryz.func78, Tryz.ntmps78
    go_wp2_with (at_builtin; refine wpList_append_own_at _ rfl _ _ 41 rfl 0 5 i0 (.int .u8 0) 1 1 Tryz.underlying41 hi hz0 hz1 hz2 rfl (by decide) (.slice none 0 0) 0 [] rfl (World.ownsRow_nil _ _ _ _) a l.length cap (U l) rfl (by simp [U]) hcells (U_one l) (by simp only [maxLen]; omega) (by omega) (Nat.zero_le _) ?_; intro v2 w2 hown2 hgrow hnil hat; obtain ⟨⟨ao2, cap2, rfl⟩, q1, q2, q3, q4, q5⟩ := hfin v2 w2 hown2 hgrow hat)
    go_ret
    exact ⟨_, rfl, _, q3, q4, Nat.le_refl _, q5⟩
theorem rLeft (p : Nat) (v : Value) (l : List Int) (w : World) (h : Rf w p v l) :
    Calls Tryz.prog 81 #[.pointer (some ⟨p, 0, none⟩)] w fun e w' => e = .returned (.int .i64 l.length) ∧ w' = w := by
  have h0 := h.c0
  obtain ⟨ao, cap, rfl, _⟩ := h.sl.form
  clear h
  go_enter Tryz.func81, Tryz.ntmps81
  go_wp2
  go_ret
  exact ⟨rfl, rfl⟩
end Go.Proofs.YthiijonmnebjgaaGreat
