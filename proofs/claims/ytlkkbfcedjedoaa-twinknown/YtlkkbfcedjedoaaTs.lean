/- The program's sieve: what New, isNone, rise, fill and Fresh answer, and what they leave. Conditions: a sieve that New made, a number that is an int. -/
import Derived.Test.YtlkkbfcedjedoaaTp
import Derived.Deep.RegionHeld3
import Derived.Deep.RegionLaw
namespace Go.Proofs.Ytlkkbfcedjedoaa
open Go.RowKit
/-- A sieve at block p: its greatest number, and what was fresh. -/
def Sv (w : World) (p : Nat) (t : Int) (F : Int → Bool) : Prop := ∃ s : Nat, w.heap[p]? = some (.cells #[.int .i64 t, .int .u64 s] 132 (0, 0)) ∧ Kn t s F
theorem Sv.mod {S : Nat → Prop} {w w' : World} {p : Nat} {t : Int} {F : Int → Bool} (h : Sv w p t F) (hm : Mod S w w') (hp : ¬ S p) : Sv w' p t F := by
  obtain ⟨s, h1, h2⟩ := h
  exact ⟨s, hm.obj h1 hp, h2⟩
theorem Sv.lt {w : World} {p : Nat} {t : Int} {F : Int → Bool} (h : Sv w p t F) : p < w.heap.size := by
  obtain ⟨s, h1, h2⟩ := h
  exact lt_of_block h1
theorem sNew_any (w : World) : Calls Try.prog 77 #[] w fun e w' => ∃ p, e = .returned (.pointer (some ⟨p, 0, none⟩)) ∧ Sv w' p 0 (fun _ => false) ∧ Mod (fun _ => False) w w' ∧ w.heap.size ≤ p := by
  go_enter Try.func77, Try.ntmps77
  go_wp2
  go_ret
  exact ⟨w.heap.size, rfl, ⟨1, heap_alloc_new w _, Kn.zero⟩, (Mod.refl _ w).alloc _, Nat.le_refl _⟩
theorem sNone_c (p s : Nat) (w : World) (c1 : w.cell? ⟨p, 1, none⟩ = some (.int .u64 s)) (hs : ((s : Int) == 0) = false) : Calls Try.prog 83 #[.pointer (some ⟨p, 0, none⟩)] w fun e w' => e = .returned (.bool false) ∧ w' = w := by
  go_enter Try.func83, Try.ntmps83
  go_wp2
  go_ret
  exact ⟨rfl, rfl⟩
theorem sNone_zero (p : Nat) (w : World) (c1 : w.cell? ⟨p, 1, none⟩ = some (.int .u64 0)) : Calls Try.prog 83 #[.pointer (some ⟨p, 0, none⟩)] w fun e w' => e = .returned (.bool true) ∧ w' = w := by
  go_enter Try.func83, Try.ntmps83
  go_wp2
  go_ret
  exact ⟨rfl, rfl⟩
theorem sNone_nil (w : World) : Calls Try.prog 83 #[.pointer none] w fun e w' => e = .returned (.bool true) ∧ w' = w := by
  go_enter Try.func83, Try.ntmps83
  go_wp2
  go_ret
  exact ⟨rfl, rfl⟩
/-- A block of two cells, one of them turned. -/
theorem set_two {w : World} {p : Nat} {a b : Value} {T : TypeId} (h : w.heap[p]? = some (.cells #[a, b] T (0, 0))) (v : Value) :
    (w.setCell ⟨p, 0, none⟩ v).heap[p]? = some (.cells #[v, b] T (0, 0)) ∧ (w.setCell ⟨p, 1, none⟩ v).heap[p]? = some (.cells #[a, v] T (0, 0)) := by
  constructor <;> simp [World.setCell, Array.getElem?_modify, h]
theorem srise {p s : Nat} {t n : Int} {w : World} (h : w.heap[p]? = some (.cells #[.int .i64 t, .int .u64 s] 132 (0, 0))) (t0 : 0 ≤ t) (hn : t < n) (hm : n ≤ 9223372036854775807) :
    Calls Try.prog 84 #[.pointer (some ⟨p, 0, none⟩), .int .i64 n] w fun e w' => e = .returned (.tuple #[]) ∧ w'.heap[p]? = some (.cells #[.int .i64 n, .int .u64 (up t s n : Nat)] 132 (0, 0)) ∧ Mod (fun i => i = p) w w' := by
  have c0 : w.cell? ⟨p, 0, none⟩ = some (.int .i64 t) := by simp [World.cell?, h]
  have c1 : w.cell? ⟨p, 1, none⟩ = some (.int .u64 s) := by simp [World.cell?, h]
  have f1 : w.frozen? ⟨p, 1, none⟩ = false := by simp [World.frozen?, h]
  have f0 : w.frozen? ⟨p, 0, none⟩ = false := by simp [World.frozen?, h]
  have hw : wrap64 (n - t) = n - t := by unfold wrap64; omega
  have hw' : IntKind.i64.wrap (n - t) = n - t := by rw [IntKind.wrap_i64]; omega
  have hp : 0 ≤ n - t := by omega
  have E := up_u64 s t n
  have hsh := shift_shl_any .u64 .i64 (s : Int) (n - t) hp
  have hp2 : 0 ≤ wrap64 (n - t) := by rw [hw]; exact hp
  have HB : Hid (w.heap[p]? = some (.cells #[.int .i64 t, .int .u64 s] 132 (0, 0))) := h
  generalize up t s n = u at E ⊢
  clear h t0 hn hm
  go_enter Try.func84, Try.ntmps84
  go_wp2
  go_region
  all_goals
    go_wp2
    go_end0
    have B1 := (set_two HB.out (.int .u64 (u : Nat))).2
    have B2 := (set_two B1 (.int .i64 n)).1
    exact ⟨rfl, B2, (((Mod.refl (fun i => i = p) w).setCell _ _ (.inl rfl)).setCell _ _ (.inl rfl)).drew⟩
theorem sfill_far {p : Nat} {d : Int} {w : World} (h : ¬ d < 64) : Calls Try.prog 85 #[.pointer (some ⟨p, 0, none⟩), .int .i64 d] w fun e w' => e = .returned (.bool false) ∧ w' = w := by
  have h' : 64 ≤ d := by omega
  clear h
  go_enter Try.func85, Try.ntmps85
  go_wp2
  go_ret
  exact ⟨rfl, rfl⟩
theorem sfill {p s : Nat} {t : Int} {d : Nat} {w : World} (h : w.heap[p]? = some (.cells #[.int .i64 t, .int .u64 s] 132 (0, 0))) (hs : s < 18446744073709551616) (hd : d < 64) :
    Calls Try.prog 85 #[.pointer (some ⟨p, 0, none⟩), .int .i64 d] w fun e w' => e = .returned (.bool (!s.testBit d)) ∧ w'.heap[p]? = some (.cells #[.int .i64 t, .int .u64 (s ||| 2 ^ d : Nat)] 132 (0, 0)) ∧ Mod (fun i => i = p) w w' := by
  have c1 : w.cell? ⟨p, 1, none⟩ = some (.int .u64 s) := by simp [World.cell?, h]
  have f1 : w.frozen? ⟨p, 1, none⟩ = false := by simp [World.frozen?, h]
  have hi : (d : Int) < 64 := by omega
  have hsh := shift_shl_any .u64 .i64 1 (d : Int) (by omega)
  have hp : 2 ^ d < 2 ^ 64 := Nat.pow_lt_pow_right (by omega) hd
  have e1 : IntKind.u64.wrap ((1 : Int) * 2 ^ min (d : Int).toNat IntKind.u64.bits) = ((2 ^ d : Nat) : Int) := bit_u64 d hd
  rw [e1] at hsh
  have hq : IntKind.u64.wrap ((2 : Int) ^ d) = ((2 ^ d : Nat) : Int) := by
    have := bit_u64 d hd
    rwa [Int.one_mul, Nat.min_eq_left (by omega)] at this
  have E := and_bit s d hs hd
  have O := or_u64 s (2 ^ d) hs (by omega)
  have HB : Hid (w.heap[p]? = some (.cells #[.int .i64 t, .int .u64 s] 132 (0, 0))) := h
  clear h hs hd hp e1
  generalize s.testBit d = b at *
  generalize s ||| 2 ^ d = u at *
  generalize 2 ^ d = q at *
  go_enter Try.func85, Try.ntmps85
  go_wp2
  go_ret
  have B1 := (set_two HB.out (.int .u64 (u : Nat))).2
  exact ⟨rfl, B1, (Mod.refl _ w).setCell _ _ (.inl rfl)⟩
/-- What Fresh answers, and what is left. -/
def fE (n : Int) : Int := if n < 1 then 2 else 0
def fF (t : Int) (F : Int → Bool) (n : Int) : Bool := if n < 1 then false else fr t F n
def fT (t n : Int) : Int := if n < 1 then t else max t n
def fS (t : Int) (F : Int → Bool) (n : Int) : Int → Bool := see F n (fF t F n)
theorem sFresh_low {p : Nat} {t n : Int} {F : Int → Bool} {w : World} (h : Sv w p t F) (hn : n < 1) : Calls Try.prog 78 #[.pointer (some ⟨p, 0, none⟩), .int .i64 n] w fun e w' => e = .returned (.tuple #[.bool false, .int .i64 2]) ∧ w' = w := by
  obtain ⟨s, h, k⟩ := h
  have c1 : w.cell? ⟨p, 1, none⟩ = some (.int .u64 s) := by simp [World.cell?, h]
  have hN := sNone_c p s w c1 (by simp; have := k.s1; omega)
  clear h k c1
  go_enter Try.func78, Try.ntmps78
  go_wp2_with (go_at_call 83; refine hN.mono ?_; rintro e w' ⟨rfl, rfl⟩)
  go_ret2
  exact ⟨rfl, rfl⟩
theorem sFresh_nil (n : Int) (w : World) : Calls Try.prog 78 #[.pointer none, .int .i64 n] w fun e w' => e = .returned (.tuple #[.bool false, .int .i64 1]) ∧ w' = w := by
  have hN := sNone_nil w
  go_enter Try.func78, Try.ntmps78
  go_wp2_with (go_at_call 83; refine hN.mono ?_; rintro e w' ⟨rfl, rfl⟩)
  go_ret2
  exact ⟨rfl, rfl⟩
theorem sFresh_zero (p : Nat) (n : Int) (w : World) (c1 : w.cell? ⟨p, 1, none⟩ = some (.int .u64 0)) : Calls Try.prog 78 #[.pointer (some ⟨p, 0, none⟩), .int .i64 n] w fun e w' => e = .returned (.tuple #[.bool false, .int .i64 1]) ∧ w' = w := by
  have hN := sNone_zero p w c1
  clear c1
  go_enter Try.func78, Try.ntmps78
  go_wp2_with (go_at_call 83; refine hN.mono ?_; rintro e w' ⟨rfl, rfl⟩)
  go_ret2
  exact ⟨rfl, rfl⟩
theorem sFresh_rise {p : Nat} {t n : Int} {F : Int → Bool} {w : World} (h : Sv w p t F) (hm : n ≤ 9223372036854775807) (hn : t < n) : Calls Try.prog 78 #[.pointer (some ⟨p, 0, none⟩), .int .i64 n] w fun e w' => e = .returned (.tuple #[.bool true, .int .i64 0]) ∧ Sv w' p n (see F n true) ∧ Mod (fun i => i = p) w w' := by
  obtain ⟨s, h, k⟩ := h
  have c0 : w.cell? ⟨p, 0, none⟩ = some (.int .i64 t) := by simp [World.cell?, h]
  have c1 : w.cell? ⟨p, 1, none⟩ = some (.int .u64 s) := by simp [World.cell?, h]
  have hN := sNone_c p s w c1 (by simp; have := k.s1; omega)
  have hR := srise h k.t0 hn hm
  have K : Hid (Kn n (up t s n) (see F n true)) := k.rise hn hm
  have h1 : ¬ n < 1 := by have := k.t0; omega
  clear h k c1 hm
  generalize up t s n = u at *
  go_enter Try.func78, Try.ntmps78
  go_wp2_with (first | (go_at_call 83; refine hN.mono ?_; rintro e w' ⟨rfl, rfl⟩) | (go_at_call 84; refine hR.mono ?_; rintro e w' ⟨rfl, hb, hmod⟩))
  go_ret2
  exact ⟨rfl, ⟨u, hb, K.out⟩, hmod⟩
theorem sFresh_fill {p : Nat} {t n : Int} {F : Int → Bool} {w : World} (h : Sv w p t F) (h1 : 1 ≤ n) (hn : n ≤ t) : Calls Try.prog 78 #[.pointer (some ⟨p, 0, none⟩), .int .i64 n] w fun e w' => e = .returned (.tuple #[.bool (fr t F n), .int .i64 0]) ∧ Sv w' p t (see F n (fr t F n)) ∧ Mod (fun i => i = p) w w' := by
  have h0 := h
  obtain ⟨s, h, k⟩ := h
  have c0 : w.cell? ⟨p, 0, none⟩ = some (.int .i64 t) := by simp [World.cell?, h]
  have c1 : w.cell? ⟨p, 1, none⟩ = some (.int .u64 s) := by simp [World.cell?, h]
  have hN := sNone_c p s w c1 (by simp; have := k.s1; omega)
  have hL : Calls Try.prog 85 #[.pointer (some ⟨p, 0, none⟩), .int .i64 (t - n)] w fun e w' => e = .returned (.bool (fr t F n)) ∧ Sv w' p t (see F n (fr t F n)) ∧ Mod (fun i => i = p) w w' := by
    by_cases hd : t - n < 64
    · obtain ⟨e, K⟩ := k.fill h1 hn hd
      have e2 : t - n = ((t - n).toNat : Int) := by omega
      rw [e2]
      refine (sfill (d := (t - n).toNat) h k.s2 (by omega)).mono ?_
      rintro e' w' ⟨rfl, hb, hm⟩
      exact ⟨by rw [e], ⟨_, hb, K⟩, hm⟩
    · refine (sfill_far hd).mono ?_
      rintro e' w' ⟨rfl, rfl⟩
      rw [fr_far hd, see_not]
      exact ⟨rfl, h0, Mod.refl _ _⟩
  have hw : wrap64 (t - n) = t - n := by have := k.t1; unfold wrap64; omega
  have hw' : IntKind.i64.wrap (t - n) = t - n := by have := k.t1; rw [IntKind.wrap_i64]; omega
  have g1 : ¬ n < 1 := by omega
  have g2 : ¬ t < n := by omega
  clear h h0 k c1 h1 hn
  generalize fr t F n = b at *
  go_enter Try.func78, Try.ntmps78
  go_wp2_with (first | (go_at_call 83; refine hN.mono ?_; rintro e w' ⟨rfl, rfl⟩) | (go_at_call 85; refine hL.mono ?_; rintro e w' ⟨rfl, hb, hmod⟩))
  go_ret2
  exact ⟨rfl, hb, hmod⟩
theorem sFresh_any {p : Nat} {t n : Int} {F : Int → Bool} {w : World} (h : Sv w p t F) (hm : n ≤ 9223372036854775807) : Calls Try.prog 78 #[.pointer (some ⟨p, 0, none⟩), .int .i64 n] w fun e w' => e = .returned (.tuple #[.bool (fF t F n), .int .i64 (fE n)]) ∧ Sv w' p (fT t n) (fS t F n) ∧ Mod (fun i => i = p) w w' := by
  unfold fS fF fE fT
  by_cases h1 : n < 1
  · rw [if_pos h1, if_pos h1, if_pos h1, see_not]
    refine (sFresh_low h h1).mono ?_
    rintro e w' ⟨rfl, rfl⟩
    exact ⟨rfl, h, Mod.refl _ _⟩
  · rw [if_neg h1, if_neg h1, if_neg h1]
    by_cases h2 : t < n
    · have e : fr t F n = true := by
        obtain ⟨s, _, k⟩ := h
        exact fr_hi k h2
      rw [e, show max t n = n by omega]
      exact sFresh_rise h hm h2
    · rw [show max t n = t by omega]
      exact sFresh_fill h (by omega) (by omega)
end Go.Proofs.Ytlkkbfcedjedoaa
