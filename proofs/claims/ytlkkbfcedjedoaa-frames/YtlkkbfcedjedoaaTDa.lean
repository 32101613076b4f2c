/- Contracts of the document's May and Pack of frames (hauberkref11): they answer as twin's do. Conditions: bytes of at most 2^47. -/
import Derived.Test.YtlkkbfcedjedoaaTRe
namespace Go.Proofs.Ytlkkbfcedjedoaa
open Go.RowKit
theorem rnumber11 (x : Int) (w : World) : Calls Try.prog 52 #[.int .i64 x] w fun e w' => e = .returned (.bool (decide (1 ≤ x ∧ x ≤ 9007199254740991))) ∧ w' = w := by
  by_cases h1 : 1 ≤ x
  · by_cases h2 : x ≤ 9007199254740991
    · rw [decide_eq_true ⟨h1, h2⟩]
      go_enter Try.func52, Try.ntmps52
      go_wp2
      go_ret
      exact ⟨by first | rfl | simp, rfl⟩
    · rw [decide_eq_false (fun h => h2 h.2)]
      go_enter Try.func52, Try.ntmps52
      go_wp2
      go_ret
      exact ⟨by first | rfl | simp, rfl⟩
  · rw [decide_eq_false (fun h => h1 h.1)]
    go_enter Try.func52, Try.ntmps52
    go_wp2
    go_ret
    exact ⟨by first | rfl | simp, rfl⟩
set_option maxRecDepth 100000 in
set_option maxHeartbeats 1000000 in
theorem dMay_any (s l n : Int) (ao : Option Addr) (m cap : Nat) (w : World) : Calls Try.prog 37 #[.agg #[.int .i64 s, .int .i64 l, .int .i64 n, .slice ao m cap]] w fun e w' => e = .returned (.bool (okF s l n m)) ∧ Mod (fun _ => False) w w' := by
  have hM := (Mod.refl (fun _ => False) w).alloc (.cells #[.int .i64 s, .int .i64 l, .int .i64 n, .slice ao m cap] 24)
  have H := rnumber11
  have hO : okF s l n m = ((decide (1 ≤ s) && decide (s ≤ 8)) && (decide (1 ≤ l ∧ l ≤ 9007199254740991) && (decide (1 ≤ n ∧ n ≤ 9007199254740991) && decide (m ≤ 512)))) := by
    unfold okF
    rw [Bool.eq_iff_iff]
    simp
  rw [hO]
  clear hO
  by_cases h1 : 1 ≤ s
  · rw [decide_eq_true h1]
    by_cases h2 : s ≤ 8
    · rw [decide_eq_true h2]
      have H1 := H l
      have H2 := H n
      clear H
      generalize decide (1 ≤ l ∧ l ≤ 9007199254740991) = bl at *
      generalize decide (1 ≤ n ∧ n ≤ 9007199254740991) = bn at *
      cases bl
      · go_enter Try.func37, Try.ntmps37
        go_wp2_with (fail)
        refine (H1 _).mono ?_
        rintro e w1 ⟨rfl, rfl⟩
        go_wp2
        go_ret
        exact ⟨rfl, hM⟩
      · cases bn
        · go_enter Try.func37, Try.ntmps37
          go_wp2_with (fail)
          refine (H1 _).mono ?_
          rintro e w1 ⟨rfl, rfl⟩
          go_wp2_with (fail)
          refine (H2 _).mono ?_
          rintro e w1 ⟨rfl, rfl⟩
          go_wp2
          go_ret
          exact ⟨rfl, hM⟩
        · have hmm : decide ((m : Int) ≤ 512) = decide (m ≤ 512) := by rw [Bool.eq_iff_iff]; simp; omega
          go_enter Try.func37, Try.ntmps37
          go_wp2_with (fail)
          refine (H1 _).mono ?_
          rintro e w1 ⟨rfl, rfl⟩
          go_wp2_with (fail)
          refine (H2 _).mono ?_
          rintro e w1 ⟨rfl, rfl⟩
          go_wp2
          go_ret
          exact ⟨by simp, hM⟩
    · rw [decide_eq_false h2]
      go_enter Try.func37, Try.ntmps37
      go_wp2
      go_ret
      exact ⟨rfl, hM⟩
  · rw [decide_eq_false h1]
    go_enter Try.func37, Try.ntmps37
    go_wp2
    go_ret
    exact ⟨rfl, hM⟩
theorem dPack_long (s l n : Int) (ao : Option Addr) (m cap : Nat) (w : World) (h : 512 < m) : Calls Try.prog 12 #[.agg #[.int .i64 s, .int .i64 l, .int .i64 n, .slice ao m cap]] w fun e w' => e = .returned (.tuple #[.slice none 0 0, .int .i64 5]) ∧ Mod (fun _ => False) w w' := by
  have h' : (512 : Int) < m := by omega
  go_enter Try.func12, Try.ntmps12
  go_wp2
  go_ret2
  exact ⟨rfl, (Mod.refl _ w).alloc _⟩
theorem dPack_bad (s l n : Int) (ao : Option Addr) (m cap : Nat) (w : World) (h : m ≤ 512) (hf : okF s l n m = false) : Calls Try.prog 12 #[.agg #[.int .i64 s, .int .i64 l, .int .i64 n, .slice ao m cap]] w fun e w' => e = .returned (.tuple #[.slice none 0 0, .int .i64 2]) ∧ Mod (fun _ => False) w w' := by
  have h' : ¬ (512 : Int) < m := by omega
  have H := dMay_any s l n ao m cap
  rw [hf] at H
  go_enter Try.func12, Try.ntmps12
  go_wp2_with (fail)
  refine (H _).mono ?_
  rintro e w1 ⟨rfl, hm⟩
  go_wp2
  go_ret2
  exact ⟨rfl, ((Mod.refl (fun _ => False) w).alloc _).trans hm (fun _ _ h => h) (fun _ _ h => h)⟩
set_option maxRecDepth 100000 in
set_option maxHeartbeats 2000000 in
theorem dPack_ok (s l n : Int) (ao : Option Addr) (cap : Nat) (B : List Int) (w : World) (hs : Sl w (.slice ao B.length cap) B) (h : B.length ≤ 512) (hf : okF s l n B.length = true) : Calls Try.prog 12 #[.agg #[.int .i64 s, .int .i64 l, .int .i64 n, .slice ao B.length cap]] w fun e w' => ∃ v', e = .returned (.tuple #[v', .int .i64 0]) ∧ Own w' v' (Sm.sealed (fby s l n B)) ∧ Mod (fun _ => False) w w' ∧ (∀ g, v'.ownBlock = some g → w.heap.size ≤ g) := by
  have h' : ¬ (512 : Int) < B.length := by omega
  have H := dMay_any s l n ao B.length cap
  rw [hf] at H
  obtain ⟨q1, q2, q3, _⟩ := okF_parts hf
  obtain ⟨s, rfl⟩ := Int.eq_ofNat_of_zero_le (show 0 ≤ s by omega)
  obtain ⟨l, rfl⟩ := Int.eq_ofNat_of_zero_le (show 0 ≤ l by omega)
  obtain ⟨n, rfl⟩ := Int.eq_ofNat_of_zero_le (show 0 ≤ n by omega)
  have e1 := enc_len s; have e2 := enc_len l; have e3 := enc_len n; have e4 := enc_len B.length
  have hfb : fby (s : Int) (l : Int) (n : Int) B = [] ++ enc s ++ enc l ++ enc n ++ enc B.length ++ B := by simp [fby]
  have hB0 := Bk.new w #[.int .i64 s, .int .i64 l, .int .i64 n, .slice ao B.length cap] 24
  have hM0 := (Mod.refl (fun _ => False) w).alloc (.cells #[.int .i64 s, .int .i64 l, .int .i64 n, .slice ao B.length cap] 24)
  have HFL : Hid ((fby (s : Int) (l : Int) (n : Int) B).length ≤ 1000) := by show _ ≤ _; rw [hfb]; simp; omega
  have HFB : Hid (fby (s : Int) (l : Int) (n : Int) B = [] ++ enc s ++ enc l ++ enc n ++ enc B.length ++ B) := hfb
  clear hf hfb
  go_enter Try.func12, Try.ntmps12
  go_wp2_with (fail)
  refine (H _).mono ?_
  rintro e w1 ⟨rfl, hm1⟩
  have hM1 := hM0.and hm1
  have hB1 := hB0.mod hm1 (fun h => h)
  clear hB0 hM0 hm1 H
  go_wp2_with (fail)
  refine (gWrite _).mono ?_
  rintro e w2 ⟨rfl, hw2, hm2⟩
  have hB2 := hB1.mod hm2 (fun h => h)
  have hM2 := hM1.and hm2
  have hlt := hB1.lt
  have hp2 := lt_of_block hw2.blk
  obtain ⟨p, hp⟩ : ∃ p, p = w1.heap.size := ⟨_, rfl⟩
  rw [← hp] at hw2 hlt hp2 ⊢
  have HP : Hid (p = w1.heap.size) := hp
  clear hp hB1 hM1 hm2
  have hstep : ∀ (W W' : World) (v v' : Value), Mod (fun _ => False) w W → Bk W w.heap.size 24 #[.int .i64 s, .int .i64 l, .int .i64 n, .slice ao B.length cap] → (∀ g, v.ownBlock = some g → p < g) → p < W.heap.size → Mod (fun k => k = p ∨ v.ownBlock = some k) W W' → Fr W v v' → Mod (fun _ => False) w W' ∧ Bk W' w.heap.size 24 #[.int .i64 s, .int .i64 l, .int .i64 n, .slice ao B.length cap] ∧ (∀ g, v'.ownBlock = some g → p < g) ∧ p < W'.heap.size := by
    intro W W' v v' h1 h2 h3 h4 h5 h6
    refine ⟨h1.trans h5 (fun _ _ h => h) ?_, h2.mod h5 ?_, ?_, Nat.lt_of_lt_of_le h4 h5.size⟩
    · rintro i hi (h | h)
      · omega
      · have := h3 i h; omega
    · rintro (h | h)
      · omega
      · have := h3 _ h; omega
    · intro g hg
      rcases h6 g hg with h | h
      · exact h3 g h
      · omega
  have c0 : w2.cell? ⟨w.heap.size, 0, none⟩ = some (.int .i64 s) := hB2.cellv (j := 0) rfl
  go_wp2_with (fail)
  refine (gPut_go p _ _ s w2 hw2 (by omega) (by simp)).mono ?_
  rintro e w3 ⟨rfl, v3, hw3, hm3, hf3⟩
  obtain ⟨hM3, hB3, hg3, hp3⟩ := hstep w2 w3 _ v3 hM2 hB2 (by intro g hg; simp [Value.ownBlock] at hg) hp2 hm3 hf3
  have c1 : w3.cell? ⟨w.heap.size, 1, none⟩ = some (.int .i64 l) := hB3.cellv (j := 1) rfl
  clear c0 hM2 hB2 hm3 hf3 hw2
  go_wp2_with (fail)
  refine (gPut_go p _ _ l w3 hw3 (by omega) (by simp; omega)).mono ?_
  rintro e w4 ⟨rfl, v4, hw4, hm4, hf4⟩
  obtain ⟨hM4, hB4, hg4, hp4⟩ := hstep w3 w4 _ v4 hM3 hB3 hg3 hp3 hm4 hf4
  have c2 : w4.cell? ⟨w.heap.size, 2, none⟩ = some (.int .i64 n) := hB4.cellv (j := 2) rfl
  clear c1 hM3 hB3 hm4 hf4 hw3
  go_wp2_with (fail)
  refine (gPut_go p _ _ n w4 hw4 (by omega) (by simp; omega)).mono ?_
  rintro e w5 ⟨rfl, v5, hw5, hm5, hf5⟩
  obtain ⟨hM5, hB5, hg5, hp5⟩ := hstep w4 w5 _ v5 hM4 hB4 hg4 hp4 hm5 hf5
  have c3 : w5.cell? ⟨w.heap.size, 3, none⟩ = some (.slice ao B.length cap) := hB5.cellv (j := 3) rfl
  clear c2 hM4 hB4 hm5 hf5 hw4
  have hs5 := hs.mod hM5 (fun _ _ h => h)
  go_wp2_with (fail)
  refine (gOctets p _ _ _ B w5 hw5 hs5 (fun hne g hg => by have := hs.lt hne g hg; exact ⟨by omega, fun e => by have := hg5 g e; omega⟩) (by omega) (by simp; omega)).mono ?_
  rintro e w6 ⟨rfl, v6, hw6, hm6, hf6⟩
  obtain ⟨hM6, hB6, hg6, hp6⟩ := hstep w5 w6 _ v6 hM5 hB5 hg5 hp5 hm6 hf6
  rw [← HFB.out] at hw6
  clear c3 hM5 hB5 hm6 hf6 hw5 hs5 hstep
  have HG := gBytes p _ _ w6 hw6 (by have := HFL.out; omega)
  have hr6 := hw6.rng
  go_wp2_with (fail)
  refine HG.mono ?_
  rintro e w7 ⟨v7, rfl, ho7, hm7, hg7⟩
  have HS := Sm.rSeal_any v7 _ w7 (ho7.sl hr6) (by have := HFL.out; omega)
  have hM7 := hM6.and hm7
  clear HG
  go_wp2_with (fail)
  refine HS.mono ?_
  rintro e w8 ⟨v8, rfl, ho8, hm8, hg8⟩
  go_wp2
  go_ret2
  exact ⟨v8, rfl, ho8, hM7.and hm8, fun g hg => Nat.le_trans hM7.size (hg8 g hg)⟩
/-- The document's Pack. -/
theorem dPack_any (s l n : Int) (v : Value) (B : List Int) (w : World) (hs : Sl w v B) : Calls Try.prog 12 #[.agg #[.int .i64 s, .int .i64 l, .int .i64 n, v]] w fun e w' => ∃ v', e = .returned (.tuple #[v', .int .i64 (paE s l n B)]) ∧ Own w' v' (paD s l n B) ∧ Mod (fun _ => False) w w' ∧ (∀ g, v'.ownBlock = some g → w.heap.size ≤ g) := by
  obtain ⟨ao, cap, rfl, _⟩ := hs.form
  have hnil : ∀ g, (Value.slice none 0 0).ownBlock = some g → w.heap.size ≤ g := by intro g hg; simp [Value.ownBlock] at hg
  by_cases h : 512 < B.length
  · have hE : paE s l n B = 5 := by unfold paE; rw [if_pos h]
    rw [paD, hE, if_neg (by decide)]
    refine (dPack_long s l n ao _ cap w h).mono ?_
    rintro e w' ⟨rfl, hm⟩
    exact ⟨_, rfl, Own.nil _, hm, hnil⟩
  · cases hf : okF s l n B.length with
    | false =>
      have hE : paE s l n B = 2 := by unfold paE; rw [if_neg h, hf]; rfl
      rw [paD, hE, if_neg (by decide)]
      refine (dPack_bad s l n ao _ cap w (by omega) hf).mono ?_
      rintro e w' ⟨rfl, hm⟩
      exact ⟨_, rfl, Own.nil _, hm, hnil⟩
    | true =>
      have hE : paE s l n B = 0 := by unfold paE; rw [if_neg h, hf]; rfl
      rw [paD, hE, if_pos rfl]
      exact dPack_ok s l n ao cap B w hs (by omega) hf
end Go.Proofs.Ytlkkbfcedjedoaa
