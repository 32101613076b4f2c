/- Contracts of token's add and leastAsked. Conditions: sizes that a slice has; a list that rises, of at most sixteen. -/
import Derived.Test.YtbjkncfpddhpkaaAc
namespace Go.Proofs.Ytbjkncfpddhpkaa
open Go.RowKit
theorem bs_any (v : Value) (l : List Int) (x : Int) (w : World) (h : Aw w v l) (hl : l.length ≤ 100) (hs : l.Pairwise (· < ·)) :
    Calls Try.prog 35 #[v, .int .i64 x] w fun e w' => e = .returned (.tuple #[.int .i64 (l.countP (· < x) : Nat), .bool (l.contains x)]) ∧ ∃ q, w' = w.drewN q := by
  obtain ⟨ao, cap, rfl, h1, h2, h3, h4⟩ := h
  cases ao with
  | none =>
    obtain rfl := h3 rfl
    obtain rfl : l = [] := List.eq_nil_of_length_eq_zero (by omega)
    refine (Any.slices_BinarySearch_int_empty lays25 none 0 x w).mono ?_
    rintro e w' ⟨rfl, rfl⟩
    exact ⟨rfl, 0, rfl⟩
  | some a =>
    obtain ⟨g, cur, rfl, hg, hcs, hcc⟩ := h4 a rfl
    have hk := Any.slices_BinarySearch_int lays25 g 0 l.length cap l x w (Nat.le_refl _) (by omega) (fun j hj => by rw [(Bk.mk hg : Bk w g 3 cur).cell, Nat.zero_add, hcc j hj]) (by rw [List.take_length]; exact hs.imp fun h => Int.le_of_lt h)
    rw [List.take_length] at hk
    exact hk
/-- x put in where it belongs. -/
def insL (x : Int) : List Int → List Int
  | [] => [x]
  | y :: r => if y < x then y :: insL x r else x :: y :: r
theorem insL_mem (x z : Int) : ∀ l : List Int, z ∈ insL x l ↔ z = x ∨ z ∈ l
  | [] => by simp [insL]
  | y :: r => by
    unfold insL
    split
    · simp only [List.mem_cons, insL_mem x z r]
      constructor
      · rintro (h | h | h) <;> simp [h]
      · rintro (h | h | h) <;> simp [h]
    · simp
theorem insL_len (x : Int) : ∀ l : List Int, (insL x l).length = l.length + 1
  | [] => rfl
  | y :: r => by
    unfold insL
    split
    · simp [insL_len x r]
    · simp
theorem insL_sorted (x : Int) : ∀ l : List Int, l.Pairwise (· < ·) → x ∉ l → (insL x l).Pairwise (· < ·)
  | [], _, _ => by simp [insL]
  | y :: r, h, hx => by
    obtain ⟨h1, h2⟩ := List.pairwise_cons.1 h
    simp only [List.mem_cons, not_or] at hx
    unfold insL
    split
    · rename_i hy
      refine List.pairwise_cons.2 ⟨fun z hz => ?_, insL_sorted x r h2 hx.2⟩
      rcases (insL_mem x z r).1 hz with rfl | hz
      · exact hy
      · exact h1 z hz
    · rename_i hy
      refine List.pairwise_cons.2 ⟨fun z hz => ?_, h⟩
      rcases List.mem_cons.1 hz with rfl | hz
      · omega
      · have := h1 z hz
        omega
theorem countP_ge (x : Int) : ∀ l : List Int, (∀ z ∈ l, x ≤ z) → l.countP (· < x) = 0 := fun l h => by
  rw [List.countP_eq_zero]
  intro z hz
  have := h z hz
  simp
  omega
theorem insAt_insL (x : Int) : ∀ l : List Int, l.Pairwise (· < ·) → insAt l (l.countP (· < x)) x = insL x l
  | [], _ => by simp [insAt, insL]
  | y :: r, h => by
    obtain ⟨h1, h2⟩ := List.pairwise_cons.1 h
    have ih := insAt_insL x r h2
    unfold insL
    split
    · rename_i hy
      rw [← ih, List.countP_cons_of_pos (by simpa using hy)]
      simp [insAt]
    · rename_i hy
      rw [List.countP_cons_of_neg (by simpa using hy), countP_ge x r (fun z hz => by have := h1 z hz; omega)]
      simp [insAt]
/-- What add makes of a list. -/
def addL (l : List Int) (x : Int) : List Int := if l.contains x = true ∨ l.countP (· < x) = 16 then l else (insL x l).take 16
theorem addL_len (l : List Int) (x : Int) (h : l.length ≤ 16) : (addL l x).length ≤ 16 := by
  unfold addL
  split
  · exact h
  · simp
    omega
theorem addL_sorted (l : List Int) (x : Int) (h : l.Pairwise (· < ·)) : (addL l x).Pairwise (· < ·) := by
  unfold addL
  split
  · exact h
  · rename_i hn
    simp only [not_or, List.contains_iff_mem] at hn
    exact (insL_sorted x l h hn.1).sublist (List.take_sublist _ _)
theorem Aw.take {w : World} {g n cap : Nat} {l : List Int} (h : Aw w (.slice (some ⟨g, 0, none⟩) n cap) l) (m : Nat) (hm : m = min l.length 16) : Aw w (.slice (some ⟨g, 0, none⟩) m cap) (l.take 16) := by
  obtain ⟨ao, cap', e, h1, h2, h3, h4⟩ := h
  cases e
  obtain ⟨g', cur, e, hg, hcs, hcc⟩ := h4 _ rfl
  cases e
  have hl : (l.take 16).length = m := by simp [hm]; omega
  have := Aw.of_bk (l := l.take 16) (cap := cap) hg (by omega) h2 hcs (fun j hj => by
    rw [hl] at hj
    rw [hcc j (by omega), List.getD_eq_getElem?_getD, List.getD_eq_getElem?_getD, List.getElem?_take_of_lt (by omega)])
  rwa [hl] at this
set_option maxRecDepth 100000 in
set_option maxHeartbeats 2000000 in
theorem add_any (v : Value) (l : List Int) (x : Int) (w : World) (h : Aw w v l) (hl : l.length ≤ 16) (hs : l.Pairwise (· < ·)) :
    Calls Try.prog 36 #[v, .int .i64 x] w fun e w' => ∃ v', e = .returned v' ∧ Aw w' v' (addL l x) ∧ Mod (fun k => v.ownBlock = some k) w w' ∧ Cr.Fr w v v' := by
  have hB := bs_any v l x w h (by omega) hs
  obtain ⟨c, hc⟩ : ∃ c, c = l.contains x := ⟨_, rfl⟩
  obtain ⟨p, hp⟩ : ∃ p, p = l.countP (· < x) := ⟨_, rfl⟩
  have hpl : p ≤ l.length := by rw [hp]; exact List.countP_le_length
  have hins : insAt l p x = insL x l := by rw [hp]; exact insAt_insL x l hs
  have hadd : addL l x = if c = true ∨ p = 16 then l else (insL x l).take 16 := by rw [hc, hp]; rfl
  rw [← hc, ← hp] at hB
  rw [hadd]
  have HI : Hid (insAt l p x = insL x l) := hins
  have HP : Hid (p ≤ l.length) := hpl
  clear hc hp hadd hins hs hpl
  cases c with
  | true =>
    rw [if_pos (.inl rfl)]
    go_enter Try.func36, Try.ntmps36
    go_wp2_with (fail)
    refine hB.mono ?_
    rintro e w1 ⟨rfl, q, rfl⟩
    go_wp2
    go_ret
    exact ⟨v, rfl, h.mod ((Mod.refl (fun _ => False) w).drewN q) (fun _ _ h => h), (Mod.refl _ w).drewN q, Cr.Fr.refl _ _⟩
  | false =>
    by_cases h16 : p = 16
    · rw [if_pos (.inr h16)]
      have hb16 : ((p : Int) == 16) = true := by simp; omega
      go_enter Try.func36, Try.ntmps36
      go_wp2_with (fail)
      refine hB.mono ?_
      rintro e w1 ⟨rfl, q, rfl⟩
      go_wp2
      go_ret
      exact ⟨v, rfl, h.mod ((Mod.refl (fun _ => False) w).drewN q) (fun _ _ h => h), (Mod.refl _ w).drewN q, Cr.Fr.refl _ _⟩
    · rw [if_neg (by simp [h16])]
      have hb16 : ((p : Int) == 16) = false := by simp; omega
      have HN : Hid (¬ p = 16) := h16
      clear h16
      go_enter Try.func36, Try.ntmps36
      go_wp2_with (fail)
      refine hB.mono ?_
      rintro e w1 ⟨rfl, q, rfl⟩
      have m0 : Mod (fun _ => False) w ((w.drewN q).alloc (.cells #[.int .i64 x] 3)) := ((Mod.refl (fun _ => False) w).drewN q).alloc _
      have hA := h.mod m0 (fun _ _ h => h)
      have hI := ins_any v l p x (w.drewN q).heap.size _ hA HP.out (by omega) (heap_alloc_new (w.drewN q) _) (fun e => by have h1 := h.lt _ e; have h2 : (w.drewN q).heap.size = w.heap.size := rfl; omega)
      go_wp2_with (fail)
      refine hI.mono ?_
      rintro e w2 ⟨g2, cap2, rfl, o2, m2, f2⟩
      obtain ⟨m, hm⟩ : ∃ m : Nat, m = min (l.length + 1) 16 := ⟨_, rfl⟩
      have hmi : (m : Int) = min ((l.length : Int) + 1) 16 := by omega
      have hmin : ∀ W, (Builtin.min_ #[3, 3] 3 #[.int .i64 ((l.length : Int) + 1), .int .i64 16]).run Try.prog W = .ok (.int .i64 (m : Int)) W := fun W => by rw [Lib.run_min_ints, hmi]
      rw [HI.out] at o2
      have o3 := o2.take m (by rw [insL_len]; exact hm)
      have hcap : m ≤ cap2 := by
        obtain ⟨ao, cap', e, h1, _⟩ := o2
        simp only [Value.slice.injEq] at e
        obtain ⟨_, _, rfl⟩ := e
        rw [insL_len] at h1
        omega
      have k1 : ¬ ((cap2 : Int) < m) := by omega
      have k2 : ¬ ((m : Int) < 0) := by omega
      have hF : Cr.Fr w v (.slice (some ⟨g2, 0, none⟩) m cap2) := fun g hg => by
        simp only [Value.ownBlock, Option.some.injEq] at hg
        subst hg
        rcases f2 with f2 | f2
        · exact .inl f2
        · right
          have := m0.size
          omega
      have hM : Mod (fun k => v.ownBlock = some k) w w2 := m0.trans m2 (fun _ _ h => h.elim) (fun _ _ h => h)
      clear hm hmi o2 m2 f2 m0 hA hI
      go_wp2
      go_ret
      exact ⟨_, rfl, o3, hM, hF⟩
/-- What is asked for behind a visit. -/
def lsk (sq : Int) (l : List Int) (G : List Int) : List Int := G.foldl (fun l g => if win g 1 sq = true then addL l g else l) l
theorem lsk_len (sq : Int) : ∀ (G l : List Int), l.length ≤ 16 → (lsk sq l G).length ≤ 16
  | [], _, h => h
  | g :: G, l, h => by
    show (lsk sq (if win g 1 sq = true then addL l g else l) G).length ≤ 16
    exact lsk_len sq G _ (by split; exact addL_len _ _ h; exact h)
theorem lsk_sorted (sq : Int) : ∀ (G l : List Int), l.Pairwise (· < ·) → (lsk sq l G).Pairwise (· < ·)
  | [], _, h => h
  | g :: G, l, h => by
    show (lsk sq (if win g 1 sq = true then addL l g else l) G).Pairwise (· < ·)
    exact lsk_sorted sq G _ (by split; exact addL_sorted _ _ h; exact h)
theorem lsk_take {sq : Int} {l G : List Int} {k : Nat} {g : Int} (h : G[k]? = some g) : lsk sq l (G.take (k + 1)) = if win g 1 sq = true then addL (lsk sq l (G.take k)) g else lsk sq l (G.take k) := by
  obtain ⟨hk, rfl⟩ := List.getElem?_eq_some_iff.1 h
  rw [List.take_succ_eq_append_getElem hk]
  simp only [lsk, List.foldl_append, List.foldl_cons, List.foldl_nil]
set_option maxRecDepth 100000 in
set_option maxHeartbeats 4000000 in
theorem least_any (rs rr hp sq ar lw st ix : Int) (ao : Option Addr) (cap : Nat) (l : List Int) (gv : Value) (G : List Int) (w : World) (hs : Cr.Sl w (.slice ao l.length cap) l) (hG : Cr.Sl w gv G) (hb : l.length ≤ 16) (hl : l.Pairwise (· < ·)) :
    Calls Try.prog 22 #[.agg #[.int .i64 rs, .int .i64 rr, .int .i64 hp, .int .i64 sq, .int .i64 ar, .int .i64 lw, .int .i64 st, .int .i64 ix, .slice ao l.length cap], gv] w fun e w' => ∃ ao' cap', e = .returned (.slice ao' (lsk sq l G).length cap') ∧ Aw w' (.slice ao' (lsk sq l G).length cap') (lsk sq l G) ∧ Mod (fun _ => False) w w' ∧ (∀ g, (Value.slice ao' (lsk sq l G).length cap').ownBlock = some g → w.heap.size ≤ g) := by
  have hM := (Mod.refl (fun _ => False) w).alloc (.cells #[.int .i64 rs, .int .i64 rr, .int .i64 hp, .int .i64 sq, .int .i64 ar, .int .i64 lw, .int .i64 st, .int .i64 ix, .slice ao l.length cap] 26)
  have hBk := Bk.new w #[.int .i64 rs, .int .i64 rr, .int .i64 hp, .int .i64 sq, .int .i64 ar, .int .i64 lw, .int .i64 st, .int .i64 ix, .slice ao l.length cap] 26
  obtain ⟨w0, hw0⟩ : ∃ w0, w0 = w.alloc (.cells #[.int .i64 rs, .int .i64 rr, .int .i64 hp, .int .i64 sq, .int .i64 ar, .int .i64 lw, .int .i64 st, .int .i64 ix, .slice ao l.length cap] 26) := ⟨_, rfl⟩
  have H1 := Cr.own_any (.slice ao l.length cap) l _ (hs.mod hM fun _ _ h => h) (by omega)
  have hG0 := hG.mod hM fun _ _ h => h
  obtain ⟨ag, cg, rfl, _, hgm, _, hg4⟩ := hG
  have HGm : Hid (G.length ≤ cg ∧ cg ≤ maxLen) := ⟨by assumption, hgm⟩
  have hsz : w0.heap.size = w.heap.size + 1 := by rw [hw0]; simp
  rw [← hw0] at hM hBk hG0
  have HW0 : Hid (w0 = w.alloc (.cells #[.int .i64 rs, .int .i64 rr, .int .i64 hp, .int .i64 sq, .int .i64 ar, .int .i64 lw, .int .i64 st, .int .i64 ix, .slice ao l.length cap] 26)) := hw0
  have HB : Hid (l.length ≤ 16) := hb
  have HS : Hid (l.Pairwise (· < ·)) := hl
  have HZ : Hid (w0.heap.size = w.heap.size + 1) := hsz
  have HM : Hid (Mod (fun _ => False) w w0) := hM
  clear hgm hg4 hs hb hl hsz hM
  go_enter Try.func22, Try.ntmps22
  clear hw0
  go_wp2_with (fail)
  refine H1.mono ?_
  rintro e w1 ⟨v1, rfl, o1, m1, n1⟩
  clear H1
  rw [← HW0.out] at m1 n1
  go_wp2
  go_loopw [5, 13] (fun s i wr => ∃ (k : Nat) (sv : Value), sv = s ∧ i = .int .i64 (k : Int) ∧ k ≤ G.length ∧ Hid (Aw wr sv (lsk sq l (G.take k)) ∧ Mod (fun _ => False) w0 wr ∧ ∀ g, sv.ownBlock = some g → w0.heap.size ≤ g)) (fun _ i _ => G.length - (intOf i).toNat)
  case atStart => exact ⟨0, v1, rfl, rfl, by omega, ⟨o1.aw, m1, n1⟩⟩
  case round =>
    obtain ⟨k, sv, rfl, rfl, hk, HR⟩ := hrel
    by_cases hlt : k < G.length
    · obtain ⟨x, hx⟩ : ∃ x, G[k]? = some x := ⟨_, List.getElem?_eq_getElem hlt⟩
      have hR := HR.out
      have hsl := hG0.mod hR.2.1 (fun _ _ h => h)
      obtain ⟨ag', cg', e, _, _, _, h4⟩ := hsl
      cases e
      obtain ⟨b, off, rfl, hc⟩ := h4 (by rintro rfl; simp at hlt)
      have hcx := hc k hlt
      have hgx : G.getD k 0 = x := by rw [List.getD_eq_getElem?_getD, hx]; rfl
      rw [hgx] at hcx
      have b3 := (hBk.mod hR.2.1 (fun h => h)).cellv (j := 3) rfl
      have hki : (k : Int) < (G.length : Int) := by omega
      have HK : Hid (k < G.length) := hlt
      have hgl : G.length ≤ 9223372036854775807 := by have h1 := HGm.out; unfold maxLen at h1; omega
      have ht := lsk_take (sq := sq) (l := l) hx
      have HWn := pkWithin x 1 sq
      obtain ⟨c, hcw⟩ : ∃ c, c = win x 1 sq := ⟨_, rfl⟩
      rw [← hcw] at HWn ht
      have HT : Hid (lsk sq l (G.take (k + 1)) = if c = true then addL (lsk sq l (G.take k)) x else lsk sq l (G.take k)) := ht
      clear hc h4 hgx hx ht hcw
      cases c with
      | false =>
        go_wp2_with (fail)
        refine (HWn _).mono ?_
        rintro e w2 ⟨rfl, rfl⟩
        go_wp2
        go_roundw
        case rel => exact ⟨k + 1, sv, rfl, by go_num, by have := HK.out; omega, ⟨by have := HT.out; rw [if_neg (by simp)] at this; rw [this]; exact HR.out.1, HR.out.2⟩⟩
        case measure => have := HK.out; simp [intOf]; omega
      | true =>
        have hAd := add_any sv (lsk sq l (G.take k)) x _ hR.1 (lsk_len _ _ _ HB.out) (lsk_sorted _ _ _ HS.out)
        obtain ⟨L1, hL1⟩ : ∃ L1, L1 = addL (lsk sq l (G.take k)) x := ⟨_, rfl⟩
        rw [← hL1] at hAd
        have HT2 : Hid (lsk sq l (G.take (k + 1)) = L1) := by have := HT.out; rw [if_pos rfl, ← hL1] at this; exact this
        clear hL1 HT hR
        go_wp2_with (fail)
        refine (HWn _).mono ?_
        rintro e w2 ⟨rfl, rfl⟩
        go_wp2_with (fail)
        refine hAd.mono ?_
        rintro e w3 ⟨v3, rfl, o3, m3, f3⟩
        have hR := HR.out
        have HR3 : Hid (Aw w3 v3 (lsk sq l (G.take (k + 1))) ∧ Mod (fun _ => False) w0 w3 ∧ ∀ g, v3.ownBlock = some g → w0.heap.size ≤ g) := ⟨by rw [HT2.out]; exact o3, hR.2.1.trans m3 (fun _ _ h => h) (fun i hi h => by have := hR.2.2 i h; omega), fun g hg => by
          rcases f3 g hg with h | h
          · exact hR.2.2 g h
          · have := hR.2.1.size
            omega⟩
        clear o3 m3 f3 hR
        go_wp2
        go_roundw
        case rel => exact ⟨k + 1, v3, rfl, by go_num, by have := HK.out; omega, HR3⟩
        case measure => have := HK.out; simp [intOf]; omega
    · have hR := HR.out
      rw [List.take_of_length_le (by omega)] at hR
      have hki : ¬ (k : Int) < (G.length : Int) := by omega
      go_wp2_with (fail)
      refine (told_any sv (lsk sq l G) _ hR.1).mono ?_
      rintro e w2 ⟨v2, rfl, o2, m2, n2⟩
      obtain ⟨ao2, cap2, rfl⟩ : ∃ ao2 cap2, v2 = .slice ao2 (lsk sq l G).length cap2 := by
        obtain ⟨a, c, e, _⟩ := o2
        exact ⟨a, c, e⟩
      go_wp2
      go_ret
      refine ⟨ao2, cap2, rfl, o2, (HM.out.and hR.2.1).and m2, fun g hg => ?_⟩
      rw [n2] at hg
      have h1 := hR.2.2 g hg
      have h2 := HZ.out
      omega
end Go.Proofs.Ytbjkncfpddhpkaa
