/- Contract of twin's Pack. Conditions: bytes of at most 2^47. -/
import Derived.Test.YtlkkbfcedjedoaaTa
import Derived.Test.YtlkkbfcedjedoaaSf
import Derived.Test.YtlkkbfcedjedoaaPlb
namespace Go.Proofs.Ytlkkbfcedjedoaa
open Go.RowKit
/-- What is wrong with a frame. -/
def paE (s l n : Int) (B : List Int) : Int := if 512 < B.length then 5 else if okF s l n B.length then 0 else 2
/-- Its bytes, not sealed yet. -/
def fby (s l n : Int) (B : List Int) : List Int := enc s.toNat ++ enc l.toNat ++ enc n.toNat ++ enc B.length ++ B
def paD (s l n : Int) (B : List Int) : List Int := if paE s l n B = 0 then Sm.sealed (fby s l n B) else []
/-- The numbers of a frame, written so far. -/
def fpre (s l n : Int) : Nat → List Int
  | 0 => []
  | 1 => enc s.toNat
  | 2 => enc s.toNat ++ enc l.toNat
  | _ => enc s.toNat ++ enc l.toNat ++ enc n.toNat
theorem fpre_len (s l n : Int) (k : Nat) : (fpre s l n k).length ≤ 24 := by
  have h1 := enc_len s.toNat; have h2 := enc_len l.toNat; have h3 := enc_len n.toNat
  unfold fpre
  split <;> simp <;> omega
theorem Pack_long (s l n : Int) (ao : Option Addr) (m cap : Nat) (w : World) (h : 512 < m) : Calls Try.prog 11 #[.agg #[.int .i64 s, .int .i64 l, .int .i64 n, .slice ao m cap]] w fun e w' => e = .returned (.tuple #[.slice none 0 0, .int .i64 5]) ∧ Mod (fun _ => False) w w' := by
  have h' : (512 : Int) < m := by omega
  go_enter Try.func11, Try.ntmps11
  go_wp2
  go_ret2
  exact ⟨rfl, (Mod.refl _ w).alloc _⟩
theorem Pack_bad (s l n : Int) (ao : Option Addr) (m cap : Nat) (w : World) (h : m ≤ 512) (hf : okF s l n m = false) : Calls Try.prog 11 #[.agg #[.int .i64 s, .int .i64 l, .int .i64 n, .slice ao m cap]] w fun e w' => e = .returned (.tuple #[.slice none 0 0, .int .i64 2]) ∧ Mod (fun _ => False) w w' := by
  have h' : ¬ (512 : Int) < m := by omega
  have H := mayBe_any s l n ao m cap
  rw [hf] at H
  go_enter Try.func11, Try.ntmps11
  go_wp2_with (fail)
  refine (H _).mono ?_
  rintro e w1 ⟨rfl, hm⟩
  go_wp2
  go_ret2
  exact ⟨rfl, ((Mod.refl (fun _ => False) w).alloc _).trans hm (fun _ _ h => h) (fun _ _ h => h)⟩
set_option maxRecDepth 100000 in
set_option maxHeartbeats 2000000 in
theorem Pack_ok (s l n : Int) (ao : Option Addr) (cap : Nat) (B : List Int) (w : World) (hs : Sl w (.slice ao B.length cap) B) (h : B.length ≤ 512) (hf : okF s l n B.length = true) : Calls Try.prog 11 #[.agg #[.int .i64 s, .int .i64 l, .int .i64 n, .slice ao B.length cap]] w fun e w' => ∃ v', e = .returned (.tuple #[v', .int .i64 0]) ∧ Own w' v' (Sm.sealed (fby s l n B)) ∧ Mod (fun _ => False) w w' ∧ (∀ g, v'.ownBlock = some g → w.heap.size ≤ g) := by
  have h' : ¬ (512 : Int) < B.length := by omega
  have H := mayBe_any s l n ao B.length cap
  rw [hf] at H
  have hN : (0 ≤ s ∧ s ≤ 9007199254740991) ∧ (0 ≤ l ∧ l ≤ 9007199254740991) ∧ (0 ≤ n ∧ n ≤ 9007199254740991) := by
    unfold okF at hf
    simp at hf
    omega
  have HN : Hid ((0 ≤ s ∧ s ≤ 9007199254740991) ∧ (0 ≤ l ∧ l ≤ 9007199254740991) ∧ (0 ≤ n ∧ n ≤ 9007199254740991)) := hN
  have hB0 := Bk.new w #[.int .i64 s, .int .i64 l, .int .i64 n, .slice ao B.length cap] 24
  have hM0 := (Mod.refl (fun _ => False) w).alloc (.cells #[.int .i64 s, .int .i64 l, .int .i64 n, .slice ao B.length cap] 24)
  have HS : Hid (Sl w (.slice ao B.length cap) B) := hs
  have HSE : Hid (∀ v W, Sl W v (fby s l n B) → Calls Try.prog 31 #[v] W fun e w' => ∃ v', e = .returned v' ∧ Own w' v' (Sm.sealed (fby s l n B)) ∧ Mod (fun _ => False) W w' ∧ (∀ g, v'.ownBlock = some g → W.heap.size ≤ g)) := fun v W hv => Sm.Seal_any v _ W hv (by unfold fby; have h1 := enc_len s.toNat; have h2 := enc_len l.toNat; have h3 := enc_len n.toNat; have h4 := enc_len B.length; simp; omega)
  clear hs hf hN
  go_enter Try.func11, Try.ntmps11
  go_wp2_with (fail)
  refine (H _).mono ?_
  rintro e w1 ⟨rfl, hm1⟩
  have hM1 := hM0.trans hm1 (V := fun _ => False) (fun _ _ h => h) (fun _ _ h => h)
  have hB1 := hB0.mod hm1 (fun h => h)
  clear hB0 hM0 hm1 H
  go_wp2_with (fail)
  refine (write_any _).mono ?_
  rintro e w2 ⟨rfl, hw2, hm2⟩
  have hB2 := hB1.mod hm2 (fun h => h)
  have c0 := hB2.cellv (j := 0) rfl
  have c1 := hB2.cellv (j := 1) rfl
  have c2 := hB2.cellv (j := 2) rfl
  have hlt := hB1.lt
  have hM2 := hM1.trans hm2 (V := fun _ => False) (fun _ _ h => h) (fun _ _ h => h)
  have hp2 := lt_of_block hw2.blk
  obtain ⟨p, hp⟩ : ∃ p, p = w1.heap.size := ⟨_, rfl⟩
  rw [← hp] at hw2 hlt hp2 ⊢
  have hM3 := hM2.alloc (.cells #[.int .i64 s, .int .i64 l, .int .i64 n] 3)
  have hB3 := hB2.mod ((Mod.refl (fun _ => False) w2).alloc (.cells #[.int .i64 s, .int .i64 l, .int .i64 n] 3)) (fun h => h)
  have hw3 := hw2.mod ((Mod.refl (fun _ => False) w2).alloc (.cells #[.int .i64 s, .int .i64 l, .int .i64 n] 3)) (fun h => h) (fun _ _ h => h)
  have hI3 := Bk.new w2 #[.int .i64 s, .int .i64 l, .int .i64 n] 3
  have HP : Hid (p = w1.heap.size) := hp
  clear hp hB1 hM1 hm2 hB2 hM2 hw2
  go_wp2
  obtain ⟨I, hI⟩ : ∃ I, I = w2.heap.size := ⟨_, rfl⟩
  rw [← hI] at hI3 hp2 ⊢
  generalize w2.alloc (.cells #[.int .i64 s, .int .i64 l, .int .i64 n] 3) = w3 at *
  have HI : Hid (I = w2.heap.size) := hI
  clear hI c0 c1 c2
  go_loopw [25] (fun i wr => ∃ (k : Nat) (v' : Value), i = .int .i64 (k : Int) ∧ k ≤ 3 ∧ Wr wr p v' (fpre s l n k) ∧ Mod (fun _ => False) w wr ∧ Bk wr w.heap.size 24 #[.int .i64 s, .int .i64 l, .int .i64 n, .slice ao B.length cap] ∧ Bk wr I 3 #[.int .i64 s, .int .i64 l, .int .i64 n] ∧ (∀ g, v'.ownBlock = some g → I < g)) (fun i _ => 3 - (intOf i).toNat)
  case atStart => exact ⟨0, _, rfl, by omega, hw3, hM3, hB3, hI3, by intro g hg; simp [Value.ownBlock] at hg⟩
  case round =>
    obtain ⟨k, v', rfl, hk, hW, hM, hB, hI, hg⟩ := hrel
    clear hw3 hM3 hB3 hI3
    by_cases hlt3 : k < 3
    · have hput : ∀ (x : Int) (q : List Int), (0 ≤ x ∧ x ≤ 9007199254740991) → (fpre s l n k ++ enc x.toNat = q) → Calls Try.prog 34 #[.pointer (some ⟨p, 0, none⟩), .int .i64 x] wr fun e w' => e = .returned (.int .i64 0) ∧ ∃ v2, Wr w' p v2 q ∧ Mod (fun _ => False) w w' ∧ Bk w' w.heap.size 24 #[.int .i64 s, .int .i64 l, .int .i64 n, .slice ao B.length cap] ∧ Bk w' I 3 #[.int .i64 s, .int .i64 l, .int .i64 n] ∧ (∀ g, v2.ownBlock = some g → I < g) := by
        intro x q hx hq
        refine (Put_ok p v' _ x wr hW hx.1 hx.2 (by have := fpre_len s l n k; omega)).mono ?_
        rintro e w' ⟨rfl, v2, hw', hm', hf'⟩
        rw [hq] at hw'
        have hne : ∀ b, b ≤ I → b ≠ p → ¬ (b = p ∨ v'.ownBlock = some b) := by
          rintro b hb hbp (h | h)
          · exact hbp h
          · have := hg b h; omega
        refine ⟨rfl, v2, hw', ?_, hB.mod hm' (hne _ (by omega) (by omega)), hI.mod hm' (hne _ (by omega) (by omega)), ?_⟩
        · refine hM.trans hm' (fun _ _ h => h) ?_
          rintro i hi (h | h)
          · omega
          · have := hg i h; omega
        · intro g h
          rcases hf' g h with h | h
          · exact hg g h
          · have := hI.lt; omega
      have hi : (k : Int) < 3 := by omega
      rcases (by omega : k = 0 ∨ k = 1 ∨ k = 2) with rfl | rfl | rfl
      · have c0 := hI.cellv (j := 0) rfl
        have P := hput s (fpre s l n 1) HN.out.1 rfl
        clear hput
        go_wp2_with (fail)
        refine P.mono ?_
        rintro e w' ⟨rfl, v2, a1, a2, a3, a4, a5⟩
        clear c0 P hW hM hB hI hg
        go_wp2
        go_roundw
        case rel => exact ⟨1, v2, by go_num, by omega, a1, a2, a3, a4, a5⟩
        case measure => simp [intOf]
      · have c0 := hI.cellv (j := 1) rfl
        have P := hput l (fpre s l n 2) HN.out.2.1 rfl
        clear hput
        go_wp2_with (fail)
        refine P.mono ?_
        rintro e w' ⟨rfl, v2, a1, a2, a3, a4, a5⟩
        clear c0 P hW hM hB hI hg
        go_wp2
        go_roundw
        case rel => exact ⟨2, v2, by go_num, by omega, a1, a2, a3, a4, a5⟩
        case measure => simp [intOf]
      · have c0 := hI.cellv (j := 2) rfl
        have P := hput n (fpre s l n 3) HN.out.2.2 rfl
        clear hput
        go_wp2_with (fail)
        refine P.mono ?_
        rintro e w' ⟨rfl, v2, a1, a2, a3, a4, a5⟩
        clear c0 P hW hM hB hI hg
        go_wp2
        go_roundw
        case rel => exact ⟨3, v2, by go_num, by omega, a1, a2, a3, a4, a5⟩
        case measure => simp [intOf]
    · obtain rfl : k = 3 := by omega
      have c3 := hB.cellv (j := 3) rfl
      have hS := HS.out.mod hM (fun _ _ h => h)
      have P : Calls Try.prog 35 #[.pointer (some ⟨p, 0, none⟩), .slice ao B.length cap] wr fun e w' => e = .returned (.int .i64 0) ∧ ∃ v', Wr w' p v' (fby s l n B) ∧ Mod (fun _ => False) w w' := by
        refine (WOctets_any p v' _ _ B wr hW hS ?_ (by have := fpre_len s l n 3; omega)).mono ?_
        · intro hne g h
          have hlt := HS.out.lt hne g h
          refine ⟨by omega, fun e => ?_⟩
          have := hg g e
          omega
        · rintro e w' ⟨rfl, v2, hw', hm', hf'⟩
          refine ⟨rfl, v2, hw', hM.trans hm' (fun _ _ h => h) ?_⟩
          rintro i hi (h | h)
          · omega
          · have := hg i h; omega
      clear hW hB hI hg
      go_wp2_with (fail)
      refine P.mono ?_
      rintro e w4 ⟨rfl, v4, hw4, hm4⟩
      clear P c3 hM hS
      have P : Calls Try.prog 36 #[.pointer (some ⟨p, 0, none⟩)] w4 fun e w' => ∃ v', e = .returned v' ∧ Sl w' v' (fby s l n B) ∧ Mod (fun _ => False) w w' := by
        refine (Bytes_any p v4 _ w4 hw4 ?_).mono ?_
        · have h1 := enc_len s.toNat; have h2 := enc_len l.toNat; have h3 := enc_len n.toNat; have h4 := enc_len B.length
          unfold fby
          simp; omega
        · rintro e w' ⟨v', rfl, ho, hm', _⟩
          exact ⟨v', rfl, ho.sl hw4.rng, hm4.trans hm' (fun _ _ h => h) (fun _ _ h => h)⟩
      clear hw4 hm4
      go_wp2_with (fail)
      refine P.mono ?_
      rintro e w5 ⟨v5, rfl, hs5, hm5⟩
      go_wp2_with (fail)
      refine (HSE.out _ _ hs5).mono ?_
      rintro e w6 ⟨v6, rfl, ho6, hm6, hg6⟩
      go_wp2
      go_ret2
      exact ⟨v6, rfl, ho6, hm5.trans hm6 (fun _ _ h => h) (fun _ _ h => h), fun g h => Nat.le_trans hm5.size (hg6 g h)⟩
/-- Pack: as the chapter says. -/
theorem Pack_any (s l n : Int) (v : Value) (B : List Int) (w : World) (hs : Sl w v B) : Calls Try.prog 11 #[.agg #[.int .i64 s, .int .i64 l, .int .i64 n, v]] w fun e w' => ∃ v', e = .returned (.tuple #[v', .int .i64 (paE s l n B)]) ∧ Own w' v' (paD s l n B) ∧ Mod (fun _ => False) w w' ∧ (∀ g, v'.ownBlock = some g → w.heap.size ≤ g) := by
  obtain ⟨ao, cap, rfl, _⟩ := hs.form
  have hnil : ∀ g, (Value.slice none 0 0).ownBlock = some g → w.heap.size ≤ g := by intro g hg; simp [Value.ownBlock] at hg
  by_cases h : 512 < B.length
  · have hE : paE s l n B = 5 := by unfold paE; rw [if_pos h]
    rw [paD, hE, if_neg (by decide)]
    refine (Pack_long s l n ao _ cap w h).mono ?_
    rintro e w' ⟨rfl, hm⟩
    exact ⟨_, rfl, Own.nil _, hm, hnil⟩
  · cases hf : okF s l n B.length with
    | false =>
      have hE : paE s l n B = 2 := by unfold paE; rw [if_neg h, hf]; rfl
      rw [paD, hE, if_neg (by decide)]
      refine (Pack_bad s l n ao _ cap w (by omega) hf).mono ?_
      rintro e w' ⟨rfl, hm⟩
      exact ⟨_, rfl, Own.nil _, hm, hnil⟩
    | true =>
      have hE : paE s l n B = 0 := by unfold paE; rw [if_neg h, hf]; rfl
      rw [paD, hE, if_pos rfl]
      exact Pack_ok s l n ao cap B w hs (by omega) hf
end Go.Proofs.Ytlkkbfcedjedoaa
