/- Contracts of a twin's small calls: isNone, check, only, greatest, look, behind, next. Conditions: a twin that New made; counts below 2^61. -/
import Derived.Test.YtlkkbfcedjedoaaTd
namespace Go.Proofs.Ytlkkbfcedjedoaa
open Go.RowKit
/-- The lanes below k whose mark is b, as bits. -/
def on (f : Nat → Bool) (b : Bool) : Nat → Nat
  | 0 => 0
  | k + 1 => on f b k + if f k == b then 2 ^ k else 0
theorem on_lt (f : Nat → Bool) (b : Bool) : ∀ k, on f b k < 2 ^ k
  | 0 => by simp [on]
  | k + 1 => by
    have := on_lt f b k
    rw [on, Nat.pow_succ]
    split <;> omega
theorem tNone {p B : Nat} {a : Tn} {w : World} (h : Bk w p 72 (a.cells B)) (hn : 1 ≤ a.nd) : Calls Try.prog 53 #[.pointer (some ⟨p, 0, none⟩)] w fun e w' => e = .returned (.bool false) ∧ w' = w := by
  have c0 : w.cell? ⟨p, 0, none⟩ = some (.int .i64 a.nd) := h.cellv (j := 0) rfl
  have hz : (a.nd == 0) = false := by simp; omega
  clear h
  generalize a.nd = x at *
  go_enter Try.func53, Try.ntmps53
  go_wp2
  go_ret
  exact ⟨rfl, rfl⟩
theorem tNone_nil (w : World) : Calls Try.prog 53 #[.pointer none] w fun e w' => e = .returned (.bool true) ∧ w' = w := by
  go_enter Try.func53, Try.ntmps53
  go_wp2
  go_ret
  exact ⟨rfl, rfl⟩
theorem tNone_zero (p : Nat) (w : World) (c0 : w.cell? ⟨p, 0, none⟩ = some (.int .i64 0)) : Calls Try.prog 53 #[.pointer (some ⟨p, 0, none⟩)] w fun e w' => e = .returned (.bool true) ∧ w' = w := by
  go_enter Try.func53, Try.ntmps53
  go_wp2
  go_ret
  exact ⟨rfl, rfl⟩
/-- What is wrong with a lane's number. -/
def laneE (a : Tn) (n : Int) : Int := if 0 ≤ n ∧ n < a.sz then 0 else 2
theorem tcheck {p B : Nat} {a : Tn} {w : World} (h : Bk w p 72 (a.cells B)) (hn : 1 ≤ a.nd) (n : Int) : Calls Try.prog 56 #[.pointer (some ⟨p, 0, none⟩), .int .i64 n] w fun e w' => e = .returned (.int .i64 (laneE a n)) ∧ w' = w := by
  have H := tNone h hn
  have c9 : w.cell? ⟨p, 9, none⟩ = some (.int .i64 a.sz) := h.cellv (j := 9) rfl
  clear h
  by_cases h0 : n < 0
  · have HE : Hid (laneE a n = 2) := by show _ = _; unfold laneE; rw [if_neg (by omega)]
    rw [HE.out]
    go_enter Try.func56, Try.ntmps56
    go_wp2_with (fail)
    refine H.mono ?_
    rintro e w' ⟨rfl, rfl⟩
    go_wp2
    go_ret
    exact ⟨rfl, rfl⟩
  · have h0' : 0 ≤ n := by omega
    by_cases h1 : n < a.sz
    · have HE : Hid (laneE a n = 0) := by show _ = _; unfold laneE; rw [if_pos (by omega)]
      rw [HE.out]
      have h1' : ¬ (a.sz : Int) ≤ n := by omega
      generalize a.sz = z at *
      go_enter Try.func56, Try.ntmps56
      go_wp2_with (fail)
      refine H.mono ?_
      rintro e w' ⟨rfl, rfl⟩
      go_wp2
      go_ret
      exact ⟨rfl, rfl⟩
    · have HE : Hid (laneE a n = 2) := by show _ = _; unfold laneE; rw [if_neg (by omega)]
      rw [HE.out]
      have h1' : (a.sz : Int) ≤ n := by omega
      generalize a.sz = z at *
      go_enter Try.func56, Try.ntmps56
      go_wp2_with (fail)
      refine H.mono ?_
      rintro e w' ⟨rfl, rfl⟩
      go_wp2
      go_ret
      exact ⟨rfl, rfl⟩
theorem or_small (n d : Nat) (hn : n < 4) (hd : d = 1 ∧ n < 1 ∨ d = 2 ∧ n < 2 ∨ d = 4) : bits .or .i64 (n : Int) (d : Int) = ((n + d : Nat) : Int) := by
  have h : ∀ x : Fin 4, (x.val < 1 → bits .or .i64 (x.val : Int) 1 = ((x.val + 1 : Nat) : Int)) ∧ (x.val < 2 → bits .or .i64 (x.val : Int) 2 = ((x.val + 2 : Nat) : Int)) ∧ bits .or .i64 (x.val : Int) 4 = ((x.val + 4 : Nat) : Int) := by decide
  have := h ⟨n, hn⟩
  rcases hd with ⟨rfl, h1⟩ | ⟨rfl, h1⟩ | rfl
  · exact this.1 h1
  · exact this.2.1 h1
  · exact this.2.2
set_option maxRecDepth 100000 in
set_option maxHeartbeats 1000000 in
theorem tonly {p B : Nat} {a : Tn} {w : World} (h : Bk w p 72 (a.cells B)) (hs : a.sz ≤ 3) (b : Bool) : Calls Try.prog 64 #[.pointer (some ⟨p, 0, none⟩), .bool b] w fun e w' => e = .returned (.int .i64 (on a.f b a.sz : Nat)) ∧ w' = w := by
  have c9 : w.cell? ⟨p, 9, none⟩ = some (.int .i64 a.sz) := h.cellv (j := 9) rfl
  have c4 : w.cell? ⟨p, 4, none⟩ = some (.bool (a.f 0)) := h.cellv (j := 4) rfl
  have c6 : w.cell? ⟨p, 6, none⟩ = some (.bool (a.f 1)) := h.cellv (j := 6) rfl
  have c8 : w.cell? ⟨p, 8, none⟩ = some (.bool (a.f 2)) := h.cellv (j := 8) rfl
  clear h
  generalize a.sz = z at *
  generalize a.f = f at *
  have HB := on_lt f b
  go_enter Try.func64, Try.ntmps64
  go_wp2
  go_loop [5, 11] (fun s i => ∃ k : Nat, s = .int .i64 (on f b k : Nat) ∧ i = .int .i64 (k : Int) ∧ k ≤ z) (fun _ i => z - (intOf i).toNat)
  case atStart => exact ⟨0, rfl, rfl, by omega⟩
  case round =>
    obtain ⟨k, rfl, rfl, hk⟩ := hrel
    by_cases hlt : k < z
    · have hi : (k : Int) < (z : Int) := by omega
      rcases (by omega : k = 0 ∨ k = 1 ∨ k = 2) with rfl | rfl | rfl
      · have hO : Hid (on f b 1 = on f b 0 + if f 0 == b then 1 else 0) := rfl
        have hr : bits .or .i64 ((on f b 0 : Nat) : Int) 1 = ((on f b 0 + 1 : Nat) : Int) := or_small (on f b 0) 1 (by have := HB 0; omega) (.inl ⟨rfl, by have := HB 0; omega⟩)
        generalize f 0 = x at c4 hO
        generalize on f b 0 = n at *
        clear c6 c8 HB
        cases x <;> cases b <;> (go_wp2; go_round; (case rel => refine ⟨1, ?_, by first | rfl | go_num, by omega⟩; rw [hO.out]; first | rfl | (rw [hr]; rfl)); (case measure => simp [intOf]; try omega))
      · have hO : Hid (on f b 2 = on f b 1 + if f 1 == b then 2 else 0) := rfl
        have hr : bits .or .i64 ((on f b 1 : Nat) : Int) 2 = ((on f b 1 + 2 : Nat) : Int) := or_small (on f b 1) 2 (by have := HB 1; omega) (.inr (.inl ⟨rfl, by have := HB 1; omega⟩))
        generalize f 1 = x at c6 hO
        generalize on f b 1 = n at *
        clear c4 c8 HB
        cases x <;> cases b <;> (go_wp2; go_round; (case rel => refine ⟨2, ?_, by first | rfl | go_num, by omega⟩; rw [hO.out]; first | rfl | (rw [hr]; rfl)); (case measure => simp [intOf]; try omega))
      · have hO : Hid (on f b 3 = on f b 2 + if f 2 == b then 4 else 0) := rfl
        have hr : bits .or .i64 ((on f b 2 : Nat) : Int) 4 = ((on f b 2 + 4 : Nat) : Int) := or_small (on f b 2) 4 (by have := HB 2; omega) (.inr (.inr rfl))
        generalize f 2 = x at c8 hO
        generalize on f b 2 = n at *
        clear c4 c6 HB
        cases x <;> cases b <;> (go_wp2; go_round; (case rel => refine ⟨3, ?_, by first | rfl | go_num, by omega⟩; rw [hO.out]; first | rfl | (rw [hr]; rfl)); (case measure => simp [intOf]; try omega))
    · obtain rfl : k = z := by omega
      go_wp2
      go_ret
      exact ⟨rfl, rfl⟩
theorem and_one (y : Nat) (h : y < 8) : bits .and .i64 (y : Int) 1 = ((y % 2 : Nat) : Int) := by
  have : ∀ x : Fin 8, bits .and .i64 (x.val : Int) 1 = ((x.val % 2 : Nat) : Int) := by decide
  exact this ⟨y, h⟩
/-- The greatest count of the lanes below k that are in m. -/
def gr (c : Nat → Int) (m : Nat) : Nat → Int
  | 0 => 0
  | k + 1 => if m / 2 ^ k % 2 = 1 then max (gr c m k) (c k) else gr c m k
set_option maxRecDepth 100000 in
set_option maxHeartbeats 1000000 in
theorem tgreatest {p B : Nat} {a : Tn} {w : World} (h : Bk w p 72 (a.cells B)) (hs : a.sz ≤ 3) (m : Nat) (hm : m < 8) : Calls Try.prog 63 #[.pointer (some ⟨p, 0, none⟩), .int .i64 m] w fun e w' => e = .returned (.int .i64 (gr a.c m a.sz)) ∧ w' = w := by
  have c9 : w.cell? ⟨p, 9, none⟩ = some (.int .i64 a.sz) := h.cellv (j := 9) rfl
  have c3 : w.cell? ⟨p, 3, none⟩ = some (.int .i64 (a.c 0)) := h.cellv (j := 3) rfl
  have c5 : w.cell? ⟨p, 5, none⟩ = some (.int .i64 (a.c 1)) := h.cellv (j := 5) rfl
  have c7 : w.cell? ⟨p, 7, none⟩ = some (.int .i64 (a.c 2)) := h.cellv (j := 7) rfl
  clear h
  generalize a.sz = z at *
  generalize a.c = c at *
  go_enter Try.func63, Try.ntmps63
  go_wp2
  go_loop [5, 11] (fun s i => ∃ k : Nat, s = .int .i64 (gr c m k) ∧ i = .int .i64 (k : Int) ∧ k ≤ z) (fun _ i => z - (intOf i).toNat)
  case atStart => exact ⟨0, rfl, rfl, by omega⟩
  case round =>
    obtain ⟨k, rfl, rfl, hk⟩ := hrel
    by_cases hlt : k < z
    · have hi : (k : Int) < (z : Int) := by omega
      rcases (by omega : k = 0 ∨ k = 1 ∨ k = 2) with rfl | rfl | rfl
      · have hO : Hid (gr c m 1 = if m / 1 % 2 = 1 then max (gr c m 0) (c 0) else gr c m 0) := rfl
        have hb := and_one m (by omega)
        have hc : ((m / 1 : Nat) : Int) = (m : Int) := by omega
        by_cases hx : m / 1 % 2 = 1
        · have hb' : (bits .and .i64 (m : Int) 1 == 1) = true := by (rw [← hc]; (try simp only [Nat.div_one] at hx ⊢); rw [hb, hx]; rfl)
          have hN : Hid (gr c m 1 = if gr c m 0 < c 0 then c 0 else gr c m 0) := by show _ = _; rw [hO.out, if_pos hx]; split <;> omega
          generalize gr c m 0 = n at *
          generalize c 0 = x at c3 hN
          clear c5 c7 hO hb hc hx
          go_wp2
          go_round
          case rel => exact ⟨1, by rw [hN.out], by first | rfl | go_num, by omega⟩
          case measure => simp [intOf]; try omega
        · have hx0 : m / 1 % 2 = 0 := by omega
          have hb' : (bits .and .i64 (m : Int) 1 == 1) = false := by (rw [← hc]; (try simp only [Nat.div_one] at hx0 ⊢); rw [hb, hx0]; rfl)
          have hN : Hid (gr c m 1 = gr c m 0) := by show _ = _; rw [hO.out, if_neg hx]
          generalize gr c m 0 = n at *
          clear c3 c5 c7 hO hb hc hx hx0
          go_wp2
          go_round
          case rel => exact ⟨1, by rw [hN.out], by first | rfl | go_num, by omega⟩
          case measure => simp [intOf]; try omega
      · have hO : Hid (gr c m 2 = if m / 2 % 2 = 1 then max (gr c m 1) (c 1) else gr c m 1) := rfl
        have hb := and_one (m / 2) (by omega)
        have hc : ((m / 2 : Nat) : Int) = ((m : Int) / 2) := by omega
        by_cases hx : m / 2 % 2 = 1
        · have hb' : (bits .and .i64 ((m : Int) / 2) 1 == 1) = true := by (rw [← hc]; (try simp only [Nat.div_one] at hx ⊢); rw [hb, hx]; rfl)
          have hN : Hid (gr c m 2 = if gr c m 1 < c 1 then c 1 else gr c m 1) := by show _ = _; rw [hO.out, if_pos hx]; split <;> omega
          generalize gr c m 1 = n at *
          generalize c 1 = x at c5 hN
          clear c3 c7 hO hb hc hx
          go_wp2
          go_round
          case rel => exact ⟨2, by rw [hN.out], by first | rfl | go_num, by omega⟩
          case measure => simp [intOf]; try omega
        · have hx0 : m / 2 % 2 = 0 := by omega
          have hb' : (bits .and .i64 ((m : Int) / 2) 1 == 1) = false := by (rw [← hc]; (try simp only [Nat.div_one] at hx0 ⊢); rw [hb, hx0]; rfl)
          have hN : Hid (gr c m 2 = gr c m 1) := by show _ = _; rw [hO.out, if_neg hx]
          generalize gr c m 1 = n at *
          clear c3 c5 c7 hO hb hc hx hx0
          go_wp2
          go_round
          case rel => exact ⟨2, by rw [hN.out], by first | rfl | go_num, by omega⟩
          case measure => simp [intOf]; try omega
      · have hO : Hid (gr c m 3 = if m / 4 % 2 = 1 then max (gr c m 2) (c 2) else gr c m 2) := rfl
        have hb := and_one (m / 4) (by omega)
        have hc : ((m / 4 : Nat) : Int) = ((m : Int) / 4) := by omega
        by_cases hx : m / 4 % 2 = 1
        · have hb' : (bits .and .i64 ((m : Int) / 4) 1 == 1) = true := by (rw [← hc]; (try simp only [Nat.div_one] at hx ⊢); rw [hb, hx]; rfl)
          have hN : Hid (gr c m 3 = if gr c m 2 < c 2 then c 2 else gr c m 2) := by show _ = _; rw [hO.out, if_pos hx]; split <;> omega
          generalize gr c m 2 = n at *
          generalize c 2 = x at c7 hN
          clear c3 c5 hO hb hc hx
          go_wp2
          go_round
          case rel => exact ⟨3, by rw [hN.out], by first | rfl | go_num, by omega⟩
          case measure => simp [intOf]; try omega
        · have hx0 : m / 4 % 2 = 0 := by omega
          have hb' : (bits .and .i64 ((m : Int) / 4) 1 == 1) = false := by (rw [← hc]; (try simp only [Nat.div_one] at hx0 ⊢); rw [hb, hx0]; rfl)
          have hN : Hid (gr c m 3 = gr c m 2) := by show _ = _; rw [hO.out, if_neg hx]
          generalize gr c m 2 = n at *
          clear c3 c5 c7 hO hb hc hx hx0
          go_wp2
          go_round
          case rel => exact ⟨3, by rw [hN.out], by first | rfl | go_num, by omega⟩
          case measure => simp [intOf]; try omega
    · obtain rfl : k = z := by omega
      go_wp2
      go_ret
      exact ⟨rfl, rfl⟩
end Go.Proofs.Ytlkkbfcedjedoaa
