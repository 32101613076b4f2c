/- EqInts, due, Bring; how timers stay well; works answers true and turns nothing that was there. Conditions: ints. -/
import Derived.Test.YtkbncndinfimnaaCa
namespace Go.Proofs.Ytkbncndinfimnaa
open Go.RowKit
theorem eq_take {a b : List Int} {k : Nat} (ha : k < a.length) (hb : k < b.length) (h : a.take k = b.take k) (hk : a.getD k 0 = b.getD k 0) : a.take (k + 1) = b.take (k + 1) := by
  rw [List.take_succ_eq_append_getElem ha, List.take_succ_eq_append_getElem hb, h]
  simp [ha, hb] at hk
  rw [hk]
set_option maxRecDepth 100000 in
theorem EqInts_some (b1 o1 c1 b2 o2 c2 : Nat) (a b : List Int) (w : World) (hl : a.length = b.length) (hmax : a.length ≤ 9223372036854775807)
   (hca : ∀ j, j < a.length → w.cell? ⟨b1, o1 + j, none⟩ = some (.int .i64 (a.getD j 0)))
   (hcb : ∀ j, j < b.length → w.cell? ⟨b2, o2 + j, none⟩ = some (.int .i64 (b.getD j 0))) :
    Calls Try.prog 18 #[.slice (some ⟨b1, o1, none⟩) a.length c1, .slice (some ⟨b2, o2, none⟩) b.length c2] w fun e w' => e = .returned (.bool (decide (a = b))) ∧ ∃ n, w' = w.drewN n := by
  have HL : Hid (a.length = b.length) := hl
  obtain ⟨n, hn⟩ : ∃ n, n = a.length := ⟨_, rfl⟩
  rw [← hl, ← hn] 
  rw [← hl] at hcb
  rw [← hn] at hmax hca hcb
  have HN : Hid (n = a.length) := hn
  clear hl hn
  go_enter Try.func18, Try.ntmps18
  go_wp2
  go_loopw [5] (fun i wr => ∃ k q : Nat, i = .int .i64 k ∧ k ≤ n ∧ Hid (a.take k = b.take k) ∧ wr = w.drewN q) (fun i _ => n - (intOf i).toNat)
  case atStart => exact ⟨0, 0, rfl, by omega, rfl, rfl⟩
  case round =>
    obtain ⟨k, q, rfl, hk, ht, rfl⟩ := hrel
    by_cases hlt : k < n
    · have h1 := hca k hlt
      have h2 := hcb k hlt
      have hi : (k : Int) < (n : Int) := by omega
      obtain ⟨x, hx⟩ : ∃ x, x = a.getD k 0 := ⟨_, rfl⟩
      obtain ⟨y, hy⟩ : ∃ y, y = b.getD k 0 := ⟨_, rfl⟩
      rw [← hx] at h1
      rw [← hy] at h2
      have HX : Hid (x = a.getD k 0) := hx
      have HY : Hid (y = b.getD k 0) := hy
      clear hx hy hca hcb
      go_wp2
      go_quiet (fail)
      go_wp2
      · have hne : x ≠ y := by have : (x != y) = true := by assumption
                               simpa using this
        go_ret
        refine ⟨?_, q + nq, by simp⟩
        have : ¬ a = b := by
          intro e
          apply hne
          rw [HX.out, HY.out, e]
        simp [this]
      · have heq : x = y := by have : (x != y) = false := by assumption
                               simpa using this
        have HT : Hid (a.take (k + 1) = b.take (k + 1)) := eq_take (by have := HN.out; omega) (by have := HN.out; have := HL.out; omega) ht.out (by rw [← HX.out, ← HY.out, heq])
        go_roundw
        case rel => exact ⟨k + 1, q + nq, by go_num, by omega, HT, by simp⟩
        case measure => simp [intOf]; omega
    · have e : a = b := by
        have h := ht.out
        have h1 := HN.out
        have h2 := HL.out
        rwa [List.take_of_length_le (by omega), List.take_of_length_le (by omega)] at h
      have HE : Hid (a = b) := e
      clear e hca hcb
      go_wp2
      go_ret
      exact ⟨by simp [HE.out], q, rfl⟩
theorem EqInts_zero (a1 : Option Addr) (c1 : Nat) (a2 : Option Addr) (c2 : Nat) (w : World) :
    Calls Try.prog 18 #[.slice a1 0 c1, .slice a2 0 c2] w fun e w' => e = .returned (.bool true) ∧ w' = w := by
  go_enter Try.func18, Try.ntmps18
  go_wp2
  go_loop [5] (fun i => i = .int .i64 0) (fun _ => 0)
  case atStart => rfl
  case round =>
    obtain rfl := hrel
    go_wp2
    go_ret
    exact ⟨rfl, rfl⟩
theorem EqInts_len (a1 : Option Addr) (n1 c1 : Nat) (a2 : Option Addr) (n2 c2 : Nat) (w : World) (h : n1 ≠ n2) :
    Calls Try.prog 18 #[.slice a1 n1 c1, .slice a2 n2 c2] w fun e w' => e = .returned (.bool false) ∧ w' = w := by
  have hb : ((n1 : Int) == (n2 : Int)) = false := by simp; omega
  have hn : ((n1 : Int) != (n2 : Int)) = true := by simp; omega
  go_enter Try.func18, Try.ntmps18
  go_wp2
  go_ret
  exact ⟨rfl, rfl⟩
/-- EqInts: whether two lists are the same. -/
theorem EqInts_any (u v : Value) (a b : List Int) (w : World) (hu : Sl w u a) (hv : Sl w v b) :
    Calls Try.prog 18 #[u, v] w fun e w' => e = .returned (.bool (decide (a = b))) ∧ Mod (fun _ => False) w w' := by
  obtain ⟨a1, c1, rfl, _, hm, _, h1⟩ := hu
  obtain ⟨a2, c2, rfl, _, _, _, h2⟩ := hv
  by_cases hl : a.length = b.length
  · by_cases ha : a = []
    · subst ha
      obtain rfl : b = [] := List.eq_nil_of_length_eq_zero (by simpa using hl.symm)
      refine (EqInts_zero _ _ _ _ _).mono ?_
      rintro e w' ⟨rfl, rfl⟩
      exact ⟨by simp, Mod.refl _ _⟩
    · obtain ⟨b1, o1, rfl, hc1⟩ := h1 ha
      obtain ⟨b2, o2, rfl, hc2⟩ := h2 (by rintro rfl; exact ha (List.eq_nil_of_length_eq_zero (by simpa using hl)))
      refine (EqInts_some b1 o1 c1 b2 o2 c2 a b w hl (by unfold maxLen at hm; omega) hc1 hc2).mono ?_
      rintro e w' ⟨rfl, n, rfl⟩
      exact ⟨rfl, (Mod.refl _ _).drewN n⟩
  · refine (EqInts_len _ _ _ _ _ _ _ hl).mono ?_
    rintro e w' ⟨rfl, rfl⟩
    have : ¬ a = b := by rintro rfl; exact hl rfl
    exact ⟨by simp [this], Mod.refl _ _⟩
theorem EqInts_at {u v : Value} {w : World} {a b : List Int} (r : Bool) (hu : Sl w u a) (hv : Sl w v b) (hr : decide (a = b) = r) :
    Calls Try.prog 18 #[u, v] w fun e w' => e = .returned (.bool r) ∧ Mod (fun _ => False) w w' := by
  have c := EqInts_any u v a b w hu hv
  rwa [hr] at c

theorem Ok.zero {n : Nat} (h1 : 1 ≤ n) (h2 : n ≤ 16) : Ok n (fun _ => 0) := ⟨h1, h2, fun _ => by omega, fun k h => absurd rfl h⟩
theorem Ok.upd {n : Nat} {f : Int → Int} (h : Ok n f) {k t : Int} (hk : ¬ (k < 0 ∨ (n : Int) ≤ k)) (h1 : 0 ≤ t) (h2 : t ≤ 10000) : Ok n (upd f k t) := by
  refine ⟨h.one, h.num, fun i => ?_, fun i hi => ?_⟩
  · unfold Ytkbncndinfimnaa.upd
    split
    · omega
    · exact h.rng i
  · unfold Ytkbncndinfimnaa.upd at hi
    split at hi
    · omega
    · exact h.out i hi
theorem Ok.set {n : Nat} {f : Int → Int} (h : Ok n f) (k t : Int) : Ok n (sF n f k t) := by
  unfold sF
  split
  · exact h
  · exact h.upd (by omega) (by omega) (by omega)
theorem Ok.clear {n : Nat} {f : Int → Int} (h : Ok n f) (k : Int) : Ok n (cF n f k) := by
  unfold cF
  split
  · exact h
  · exact h.upd (by omega) (by omega) (by omega)
theorem Ok.tick {n : Nat} {f : Int → Int} (h : Ok n f) : Ok n (tF f) := by
  refine ⟨h.one, h.num, fun i => ?_, fun i hi => ?_⟩
  · have := h.rng i
    unfold tF
    split <;> omega
  · apply h.out i
    intro e
    apply hi
    simp [tF, e]
theorem Ok.i64 {n : Nat} {f : Int → Int} (h : Ok n f) (k : Int) : I64 (f k) := by
  have := h.rng k
  unfold I64
  omega
theorem due_any (p B n : Nat) (f : Int → Int) (w : World) (h : Al w p B n f) (ok : Ok n f) : Calls Try.prog 22 #[.pointer (some ⟨p, 0, none⟩)] w fun e w' => ∃ v, e = .returned v ∧ Own w' v (dl f n) ∧ Al w' p B n (tF f) ∧ Mod (fun i => i = B) w w' ∧ New w v := by
  have hT := Tick_any p B n f w h ok
  clear h ok
  generalize dl f n = l at hT ⊢
  generalize tF f = g at hT ⊢
  go_enter Try.func22, Try.ntmps22
  go_wp2_with (go_at_call 17; refine hT.mono ?_; rintro e w' ⟨v, rfl, h1, h2, h3, h4⟩)
  go_ret
  exact ⟨v, rfl, h1, h2, h3, h4⟩
theorem Bring_any (k : Int) (n : Int) (w : World) (hk : I64 k) (hn : 0 < n) (hn2 : n ≤ 1000) : Calls Try.prog 11 #[.int .i64 k, .int .i64 n] w fun e w' => e = .returned (.int .i64 (k % n)) ∧ w' = w := by
  unfold I64 at hk
  obtain ⟨h1, h2⟩ := hk
  have hb := Int.emod_nonneg k (show n ≠ 0 by omega)
  have hl := Int.emod_lt_of_pos k hn
  have hneg : k < 0 → k.tmod n = -((-k) % n) := fun h => by
    have := Int.neg_tmod (-k) n
    rw [Int.neg_neg] at this
    rw [this, Int.tmod_eq_emod_of_nonneg (by omega)]
  have hn0 : ¬ n ≤ 0 := by omega
  have hnz : (n == 0) = false := by simp; omega
  rcases (show 0 ≤ k ∨ k < 0 from by omega) with h | h
  · have e : k.tmod n = k % n := Int.tmod_eq_emod_of_nonneg h
    clear hneg
    generalize k % n = r at *
    go_enter Try.func11, Try.ntmps11
    go_wp2
    go_ret
    exact ⟨rfl, rfl⟩
  · have e := hneg h
    have hq := Int.emod_nonneg (-k) (show n ≠ 0 by omega)
    have hql := Int.emod_lt_of_pos (-k) hn
    have hs : k % n = if (-k) % n = 0 then 0 else n - (-k) % n := by
      have h3 := Int.emod_add_mul_ediv (-k) n
      split
      · rename_i h0
        have : n ∣ -k := Int.dvd_of_emod_eq_zero h0
        exact Int.emod_eq_zero_of_dvd ((Int.dvd_neg).1 this)
      · rename_i h0
        have hk2 : k = (n - (-k) % n) + n * (-((-k) / n) - 1) := by
          rw [Int.mul_sub, Int.mul_neg]
          omega
        conv => lhs; rw [hk2]
        rw [Int.add_mul_emod_self_left]
        exact Int.emod_eq_of_lt (by omega) (by omega)
    rw [hs]
    clear hs hneg hb hl
    generalize (-k) % n = r at *
    by_cases h0 : r = 0
    · subst h0
      rw [if_pos rfl]
      have e' : k.tmod n = 0 := by omega
      clear e
      go_enter Try.func11, Try.ntmps11
      go_wp2
      go_ret
      exact ⟨rfl, rfl⟩
    · rw [if_neg h0]
      have hr : -r < 0 := by omega
      have he : -r + n = n - r := by omega
      go_enter Try.func11, Try.ntmps11
      go_wp2
      go_ret
      exact ⟨by first | rfl | (rw [he]), rfl⟩

theorem Al.free {S : Nat → Prop} {w w' : World} {p B n : Nat} {f : Int → Int} (h : Al w p B n f) (hm : Mod S w w') (hS : ∀ i, i < w.heap.size → ¬ S i) : Al w' p B n f := h.mod hm (hS p h.lt) (hS B h.map.lt)
theorem Own.lit1 (w : World) (x : Int) : Own (w.alloc (.cells #[.int .i64 x] 3)) (.slice (some ⟨w.heap.size, 0, none⟩) 1 1) [x] := Own.lit w [x] (by simp [maxLen])
theorem Own.lit2 (w : World) (x y : Int) : Own (w.alloc (.cells #[.int .i64 x, .int .i64 y] 3)) (.slice (some ⟨w.heap.size, 0, none⟩) 2 2) [x, y] := Own.lit w [x, y] (by simp [maxLen])
theorem Set_at {p B n : Nat} {f : Int → Int} (k t E : Int) (g : Int → Int) {w : World} (h : Al w p B n f) (hn : 1 ≤ n) (hn2 : n ≤ 16) (hE : sE n k t = E) (hg : sF n f k t = g) : Calls Try.prog 10 #[.pointer (some ⟨p, 0, none⟩), .int .i64 k, .int .i64 t] w fun e w' => e = .returned (.int .i64 E) ∧ Al w' p B n g ∧ Mod (fun i => i = B) w w' := by
  have := Set_any p B n f k t w h hn hn2
  rwa [hE, hg] at this
theorem Left_at {p B n : Nat} {f : Int → Int} (k y : Int) {w : World} (h : Al w p B n f) (hn : 1 ≤ n) (hk : I64 k) (hy : f k = y) : Calls Try.prog 20 #[.pointer (some ⟨p, 0, none⟩), .int .i64 k] w fun e w' => e = .returned (.int .i64 y) ∧ w' = w := by
  have := Left_any p B n f k w h hn hk
  rwa [hy] at this
theorem due_at {p B n : Nat} {f : Int → Int} (l : List Int) (g : Int → Int) {w : World} (h : Al w p B n f) (ok : Ok n f) (hl : dl f n = l) (hg : tF f = g) : Calls Try.prog 22 #[.pointer (some ⟨p, 0, none⟩)] w fun e w' => ∃ v, e = .returned v ∧ Own w' v l ∧ Al w' p B n g ∧ Mod (fun i => i = B) w w' ∧ New w v := by
  have := due_any p B n f w h ok
  rwa [hl, hg] at this
def wa : Int → Int := upd (upd (upd (fun _ => 0) 2 2) 0 2) 3 1
theorem wa_ok : Ok 4 wa := (((Ok.zero (by omega) (by omega)).upd (by omega) (by omega) (by omega)).upd (by omega) (by omega) (by omega)).upd (by omega) (by omega) (by omega)
set_option maxHeartbeats 4000000 in
theorem works_any (w : World) : Calls Try.prog 9 #[] w fun e w' => e = .returned (.bool true) ∧ Mod (fun _ => False) w w' := by
  have i2 : I64 2 := by unfold I64; omega
  have HN := New_ok 4
  have HQ1 := fun v v' w hv hv' => @EqInts_at v v' w [3] [3] true hv hv' (by decide)
  have HQ2 := fun v v' w hv hv' => @EqInts_at v v' w [0, 2] [0, 2] true hv hv' (by decide)
  have K1 : Hid (Ok 4 wa) := wa_ok
  have K2 : Hid (Ok 4 (tF wa)) := wa_ok.tick
  have K3 : Hid (Ok 4 (tF (tF wa))) := wa_ok.tick.tick
  have S1 : Hid (sF 4 (fun _ => 0) 2 2 = upd (fun _ => 0) 2 2) := by rw [Hid, sF, if_neg (by omega)]
  have S2 : Hid (sF 4 (upd (fun _ => 0) 2 2) 0 2 = upd (upd (fun _ => 0) 2 2) 0 2) := by rw [Hid, sF, if_neg (by omega)]
  have S3 : Hid (sF 4 (upd (upd (fun _ => 0) 2 2) 0 2) 3 1 = wa) := by rw [Hid, sF, if_neg (by omega)]; rfl
  have D1 : Hid (dl wa 4 = [3]) := by unfold Hid; decide
  have D2 : Hid (dl (tF wa) 4 = [0, 2]) := by unfold Hid; decide
  have D3 : Hid (dl (tF (tF wa)) 4 = []) := by unfold Hid; decide
  have L1 : Hid (tF wa 2 = 1) := by unfold Hid; decide
  have L2 : Hid (tF (tF wa) 2 = 0) := by unfold Hid; decide
  obtain ⟨f1, hf1⟩ : ∃ f, f = upd (fun _ => 0) 2 2 := ⟨_, rfl⟩
  rw [← hf1] at S1 S2 S3
  obtain ⟨f2, hf2⟩ : ∃ f, f = upd f1 0 2 := ⟨_, rfl⟩
  rw [← hf2] at S2 S3
  obtain ⟨f5, hf5⟩ : ∃ f, f = tF (tF wa) := ⟨_, rfl⟩
  rw [← hf5] at K3 D3 L2
  obtain ⟨f4, hf4⟩ : ∃ f, f = tF wa := ⟨_, rfl⟩
  rw [← hf4] at K2 D2 L1 hf5
  generalize wa = f3 at *
  have HF4 : Hid (tF f3 = f4) := hf4.symm
  have HF5 : Hid (tF f4 = f5) := hf5.symm
  clear hf1 hf2 hf4 hf5
  go_enter Try.func9, Try.ntmps9
  go_wp2_with fail
  refine (HN _ (by omega) (by omega)).mono ?_
  rintro e w1 ⟨p, B, rfl, h, hm, hp, hB⟩
  clear HN
  go_wp2_with fail
  refine (Set_at 2 2 0 _ h (by omega) (by omega) (by decide) S1.out).mono ?_
  rintro e w2 ⟨rfl, h2, hm2⟩
  replace hm := hm.trans hm2 (V := fun _ => False) (fun _ _ h => h) (fun i hi hh => by omega)
  clear h hm2
  have h := h2
  clear h2
  go_wp2_with fail
  refine (Set_at 0 2 0 _ h (by omega) (by omega) (by decide) S2.out).mono ?_
  rintro e w2 ⟨rfl, h2, hm2⟩
  replace hm := hm.trans hm2 (V := fun _ => False) (fun _ _ h => h) (fun i hi hh => by omega)
  clear h hm2
  have h := h2
  clear h2
  go_wp2_with fail
  refine (Set_at 3 1 0 _ h (by omega) (by omega) (by decide) S3.out).mono ?_
  rintro e w2 ⟨rfl, h2, hm2⟩
  replace hm := hm.trans hm2 (V := fun _ => False) (fun _ _ h => h) (fun i hi hh => by omega)
  clear h hm2
  have h := h2
  clear h2
  go_wp2_with fail
  refine (due_at _ _ h K1.out D1.out HF4.out).mono ?_
  rintro e w2 ⟨v, rfl, ho, h2, hm2, hnew⟩
  replace hm := hm.trans hm2 (V := fun _ => False) (fun _ _ h => h) (fun i hi hh => by omega)
  clear h hm2
  have h := h2
  clear h2
  go_wp2_with fail
  refine (HQ1 _ _ _ (ho.alloc _).sl (Own.lit1 w2 3).sl).mono ?_
  rintro e w3 ⟨rfl, hm3⟩
  replace h := (h.mod ((Mod.refl (fun _ => False) w2).alloc _) (fun h => h) (fun h => h)).mod hm3 (fun h => h) (fun h => h)
  replace hm := (hm.alloc _).and hm3
  clear ho hm3 hnew
  go_wp2_with fail
  refine (Left_at 2 1 h (by omega) i2 L1.out).mono ?_
  rintro e w2 ⟨rfl, rfl⟩
  go_wp2_with fail
  refine (due_at _ _ h K2.out D2.out HF5.out).mono ?_
  rintro e w4 ⟨v, rfl, ho, h2, hm2, hnew⟩
  replace hm := hm.trans hm2 (V := fun _ => False) (fun _ _ h => h) (fun i hi hh => by omega)
  clear h hm2
  have h := h2
  clear h2
  go_wp2_with fail
  refine (HQ2 _ _ _ (ho.alloc _).sl (Own.lit2 w4 0 2).sl).mono ?_
  rintro e w5 ⟨rfl, hm3⟩
  replace h := (h.mod ((Mod.refl (fun _ => False) w4).alloc _) (fun h => h) (fun h => h)).mod hm3 (fun h => h) (fun h => h)
  replace hm := (hm.alloc _).and hm3
  clear ho hm3 hnew
  go_wp2_with fail
  refine (Left_at 2 0 h (by omega) i2 L2.out).mono ?_
  rintro e w2 ⟨rfl, rfl⟩
  go_wp2_with fail
  refine (due_at _ _ h K3.out D3.out rfl).mono ?_
  rintro e w2 ⟨v, rfl, ho, h2, hm2, hnew⟩
  replace hm := hm.trans hm2 (V := fun _ => False) (fun _ _ h => h) (fun i hi hh => by omega)
  obtain ⟨ao, cap, rfl⟩ := ho.shape
  clear h h2 hm2 ho hnew
  go_wp2
  go_ret
  exact ⟨rfl, hm⟩
end Go.Proofs.Ytkbncndinfimnaa
