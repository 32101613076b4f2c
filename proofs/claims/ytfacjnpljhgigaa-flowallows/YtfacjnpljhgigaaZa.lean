/- What flow's and the document's functions answer, and what is said of memory. Conditions: numbers that are ints. -/
import Derived.Test.YtfacjnpljhgigaaChecked
import Derived.WalkKit
import Derived.WalkSmall
import Derived.Deep.Draws
import Derived.Deep.QuietTactic
import Derived.Lib.MinMax
import Derived.Laws.Cover1
namespace Go.Proofs.Ytfacjnpljhgigaa
open Go.RowKit
/-- Which blocks may have turned. -/
structure Mod (S : Nat → Prop) (w w' : World) : Prop where
  os : w'.os = w.os
  tape : w'.tape = w.tape
  output : w'.output = w.output
  size : w.heap.size ≤ w'.heap.size
  block : ∀ k, k < w.heap.size → ¬ S k → w'.heap[k]? = w.heap[k]?

theorem Mod.refl (S : Nat → Prop) (w : World) : Mod S w w := ⟨rfl, rfl, rfl, Nat.le_refl _, fun _ _ _ => rfl⟩
theorem Mod.trans {S T V : Nat → Prop} {a b c : World} (h : Mod S a b) (k : Mod T b c) (hS : ∀ i, i < a.heap.size → S i → V i) (hT : ∀ i, i < a.heap.size → T i → V i) : Mod V a c :=
  ⟨k.os.trans h.os, k.tape.trans h.tape, k.output.trans h.output, Nat.le_trans h.size k.size, fun i hi hv =>
    (k.block i (Nat.lt_of_lt_of_le hi h.size) (fun ht => hv (hT i hi ht))).trans (h.block i hi (fun hs => hv (hS i hi hs)))⟩
theorem Mod.mono {S T : Nat → Prop} {a b : World} (h : Mod S a b) (hS : ∀ i, i < a.heap.size → S i → T i) : Mod T a b :=
  ⟨h.os, h.tape, h.output, h.size, fun i hi hv => h.block i hi (fun hs => hv (hS i hi hs))⟩
theorem Mod.drewN {S : Nat → Prop} {a w : World} (h : Mod S a w) (n : Nat) : Mod S a (w.drewN n) := ⟨h.os, h.tape, h.output, h.size, h.block⟩
theorem Mod.drew {S : Nat → Prop} {a w : World} (h : Mod S a w) : Mod S a w.drew := ⟨h.os, h.tape, h.output, h.size, h.block⟩
theorem Mod.alloc {S : Nat → Prop} {a w : World} (h : Mod S a w) (o : Obj) : Mod S a (w.alloc o) :=
  ⟨h.os, h.tape, h.output, by simp; have := h.size; omega, fun k hk hS => (Below.heap_alloc w o k (by have := h.size; omega)).trans (h.block k hk hS)⟩
theorem Mod.setCell {S : Nat → Prop} {a w : World} (h : Mod S a w) (p : Addr) (u : Value) (hp : S p.block ∨ a.heap.size ≤ p.block) : Mod S a (w.setCell p u) :=
  ⟨h.os, h.tape, h.output, by simp [World.setCell]; exact h.size, fun k hk hS => (Below.heap_setCell _ _ _ _ (by rintro rfl; rcases hp with hp | hp; exact hS hp; omega)).trans (h.block k hk hS)⟩
theorem Mod.grown {S : Nat → Prop} {a w w' : World} {row : Option Nat} (h : Mod S a w) (hg : w.grownBy w' row) (hr : ∀ k, row = some k → k < a.heap.size → S k) : Mod S a w' :=
  ⟨hg.os.trans h.os, hg.tape.trans h.tape, hg.output.trans h.output, Nat.le_trans h.size hg.size, fun k hk hS =>
    (hg.block k (Nat.lt_of_lt_of_le hk h.size) (fun e => hS (hr k e.symm hk))).trans (h.block k hk hS)⟩
theorem Mod.below {S : Nat → Prop} {w w' : World} (h : Mod S w w') (B : Nat) (hB : B ≤ w.heap.size) (hS : ∀ k, S k → B ≤ k) : Below B w w' :=
  ⟨h.os, h.tape, h.output, h.size, fun k hk => h.block k (by omega) (fun hs => by have := hS k hs; omega)⟩
theorem Mod.cell {S : Nat → Prop} {w w' : World} (h : Mod S w w') {p : Addr} {v : Value} (hc : w.cell? p = some v) (hp : ¬ S p.block) : w'.cell? p = some v :=
  (World.cell?_of_block (h.block p.block (World.block_lt_of_cell? w p hc) hp)).trans hc
theorem Mod.obj {S : Nat → Prop} {w w' : World} (h : Mod S w w') {p : Nat} {o : Obj} (hc : w.heap[p]? = some o) (hp : ¬ S p) : w'.heap[p]? = some o :=
  (h.block p (lt_of_block hc) hp).trans hc

theorem Mod.and {a b c : World} (h : Mod (fun _ => False) a b) (k : Mod (fun _ => False) b c) : Mod (fun _ => False) a c := h.trans k (fun _ _ h => h) (fun _ _ h => h)
def I64 (n : Int) : Prop := -9223372036854775808 ≤ n ∧ n ≤ 9223372036854775807
/-- x brought to 0 .. m - 1. -/
def br (x m : Int) : Int := if x.tmod m < 0 then x.tmod m + m else x.tmod m
theorem br_rng (x : Int) (m : Nat) (h0 : 0 < m) : 0 ≤ br x m ∧ br x m < m ∧ -(m : Int) < x.tmod m ∧ x.tmod m < m := by
  have q1 : ¬ ((m : Int) = 0) := by omega
  have hb : -(m : Int) < x.tmod (m : Int) ∧ x.tmod (m : Int) < (m : Int) := by
    rcases (show 0 ≤ x ∨ x < 0 by omega) with h | h
    · rw [Int.tmod_eq_emod_of_nonneg h]
      have a1 := Int.emod_nonneg x q1
      have a2 := Int.emod_lt_of_pos x (show (0 : Int) < m by omega)
      omega
    · have e := Int.neg_tmod (-x) (m : Int)
      rw [Int.neg_neg, Int.tmod_eq_emod_of_nonneg (by omega : 0 ≤ -x)] at e
      rw [e]
      have a1 := Int.emod_nonneg (-x) q1
      have a2 := Int.emod_lt_of_pos (-x) (show (0 : Int) < m by omega)
      omega
  unfold br
  split <;> omega
theorem bring (x : Int) (m : Nat) (w : World) (h0 : 0 < m) (hm : m ≤ 1152921504606846976) (h : -9223372036854775808 ≤ x ∧ x ≤ 9223372036854775807) :
    Calls Try.prog 10 #[.int .i64 x, .int .i64 (m : Int)] w fun e w' => e = .returned (.int .i64 (br x m)) ∧ w' = w := by
  have q0 : ¬ ((m : Int) ≤ 0) := by omega
  have q1 : ¬ ((m : Int) = 0) := by omega
  have q2 : ((m : Int) == 0) = false := by simp; omega
  obtain ⟨_, _, b1, b2⟩ := br_rng x m h0
  unfold br
  generalize hr : x.tmod (m : Int) = r at b1 b2 ⊢
  obtain ⟨h1, h2⟩ := h
  by_cases hneg : r < 0
  · rw [if_pos hneg]
    go_enter Try.func10, Try.ntmps10
    go_wp2
    go_ret
    exact ⟨rfl, rfl⟩
  · rw [if_neg hneg]
    go_enter Try.func10, Try.ntmps10
    go_wp2
    go_ret
    exact ⟨rfl, rfl⟩
/-- How many numbers there are from s on that are no more than 32 ahead of a. -/
def rm (s a : Int) : Int := if s ≤ a then 32 else if s - a ≤ 32 then 32 - (s - a) else 0
/-- How many may be sent. -/
def al (n s a : Int) : Int := max 0 (min (min n 4) (rm s a))
theorem rm_rng (s a : Int) : 0 ≤ rm s a ∧ rm s a ≤ 32 := by
  unfold rm
  split
  · omega
  · split <;> omega
theorem al_rng (n s a : Int) : 0 ≤ al n s a ∧ al n s a ≤ 4 := by
  have := rm_rng s a
  unfold al
  omega
theorem min_run3 (n z m : Int) (h : m = min (min n 4) z) (W : World) : (Builtin.min_ #[3, 3, 3] 3 #[.int .i64 n, .int .i64 4, .int .i64 z]).run Try.prog W = .ok (.int .i64 m) W := by
  rw [run_min_int3]
  have : (if z < (if 4 < n then 4 else n) then z else (if 4 < n then 4 else n)) = m := by
    subst h
    split <;> split <;> omega
  rw [this]
theorem min_runU (x m : Int) (h : m = min x 32) (W : World) : (Builtin.min_ #[31, 31] 31 #[.int .u64 x, .int .u64 32]).run Try.prog W = .ok (.int .u64 m) W := by
  rw [Lib.run_min_ints, h]
theorem max_run (x y m : Int) (h : m = max x y) (W : World) : (Builtin.max_ #[3, 3] 3 #[.int .i64 x, .int .i64 y]).run Try.prog W = .ok (.int .i64 m) W := by
  rw [Lib.run_max_ints, h]
theorem room_any (s a : Int) (w : World) (hs : I64 s) (ha : I64 a) :
    Calls Try.prog 11 #[.int .i64 s, .int .i64 a] w fun e w' => e = .returned (.int .i64 (rm s a)) ∧ w' = w := by
  by_cases h : s ≤ a
  · have e : rm s a = 32 := by unfold rm; rw [if_pos h]
    rw [e]
    clear hs ha
    go_enter Try.func11, Try.ntmps11
    go_wp2
    go_ret
    exact ⟨rfl, rfl⟩
  · obtain ⟨x, hx⟩ : ∃ x, x = IntKind.u64.wrap s := ⟨_, rfl⟩
    obtain ⟨y, hy⟩ : ∃ y, y = IntKind.u64.wrap a := ⟨_, rfl⟩
    obtain ⟨d, hd⟩ : ∃ d, d = s - a := ⟨_, rfl⟩
    obtain ⟨m, hm⟩ : ∃ m, m = min d 32 := ⟨_, rfl⟩
    obtain ⟨r, hr⟩ : ∃ r, r = rm s a := ⟨_, rfl⟩
    have hd0 : 0 < d := by omega
    have hrm : r = 32 - m := by
      unfold rm at hr
      rw [if_neg h] at hr
      split at hr <;> omega
    have hsub : IntKind.u64.wrap (x - y) = d := by
      rw [hx, hy, IntKind.wrap_u64, IntKind.wrap_u64, IntKind.wrap_u64]
      unfold I64 at hs ha
      omega
    have hmin := min_runU d m hm
    have h1 : IntKind.i64.wrap m = m := by rw [IntKind.wrap_i64]; omega
    have h2 : IntKind.i64.wrap (32 - m) = r := by rw [IntKind.wrap_i64]; omega
    have h3 : wrap64 m = m := by unfold wrap64; omega
    have h4 : wrap64 (32 - m) = r := by unfold wrap64; omega
    rw [← hr]
    have hx' := hx.symm
    have hy' := hy.symm
    clear hs ha hx hy hr hm hd hd0
    have hr : Hid (r = 32 - m) := hrm
    clear hrm
    go_enter Try.func11, Try.ntmps11
    go_wp2
    go_ret
    exact ⟨rfl, rfl⟩
theorem allow_any (n s a : Int) (w : World) (hs : I64 s) (ha : I64 a) :
    Calls Try.prog 7 #[.int .i64 n, .int .i64 s, .int .i64 a] w fun e w' => e = .returned (.int .i64 (al n s a)) ∧ w' = w := by
  have hc := room_any s a w hs ha
  obtain ⟨r, hr⟩ : ∃ r, r = rm s a := ⟨_, rfl⟩
  obtain ⟨m, hm⟩ : ∃ m, m = min (min n 4) r := ⟨_, rfl⟩
  obtain ⟨q, hq⟩ : ∃ q, q = al n s a := ⟨_, rfl⟩
  have hq' : q = max 0 m := by rw [hq, hm, hr]; rfl
  rw [← hr] at hc
  rw [← hq]
  have h1 := min_run3 n r m hm
  have h2 := max_run 0 m q hq'
  clear hr hm hq hq' hs ha
  go_enter Try.func7, Try.ntmps7
  go_wp2_with (fail)
  refine hc.mono ?_
  rintro e w1 ⟨rfl, rfl⟩
  go_wp2
  go_ret
  exact ⟨rfl, rfl⟩
/-- How far s is ahead of a, 33 at most. -/
def ah (s a : Int) : Int := if s ≤ a then 0 else min (s - a) 33
set_option maxRecDepth 100000 in
theorem ahead_any (s a : Int) (w : World) (hs : I64 s) (ha : I64 a) :
    Calls Try.prog 12 #[.int .i64 s, .int .i64 a] w fun e w' => e = .returned (.int .i64 (ah s a)) ∧ w' = w := by
  have HS : Hid (I64 s) := hs
  have HA : Hid (I64 a) := ha
  clear hs ha
  go_enter Try.func12, Try.ntmps12
  go_wp2
  go_loop [1, 5] (fun x i => ∃ (k : Nat) (b : Int), x = .int .i64 b ∧ i = .int .i64 (k : Int) ∧ Hid (b = a + k ∧ k ≤ 33 ∧ (k = 0 ∨ b ≤ s))) (fun _ i => 33 - (intOf i).toNat)
  case atStart => exact ⟨0, a, rfl, rfl, ⟨by omega, by omega, .inl rfl⟩⟩
  case round =>
    obtain ⟨k, b, rfl, rfl, HR⟩ := hrel
    by_cases hk : (k : Int) ≤ 32
    · by_cases hb : b < s
      · have h1 : IntKind.i64.wrap (b + 1) = b + 1 := by
          have h := HS.out
          have h' := HA.out
          have hr := HR.out
          unfold I64 at h h'
          rw [IntKind.wrap_i64]
          omega
        have h2 : wrap64 (b + 1) = b + 1 := by
          have h := HS.out
          have h' := HA.out
          have hr := HR.out
          unfold I64 at h h'
          unfold wrap64
          omega
        go_wp2
        go_round
        case rel => exact ⟨k + 1, b + 1, by go_num, by go_num, by have hr := HR.out; exact ⟨by omega, by omega, .inr (by omega)⟩⟩
        case measure => simp [intOf]; omega
      · have e : ah s a = k := by
          have hr := HR.out
          unfold ah
          split <;> omega
        have HE : Hid (ah s a = k) := e
        clear e
        go_wp2
        go_ret
        exact ⟨by rw [HE.out]; rfl, rfl⟩
    · have e : ah s a = k := by
        have hr := HR.out
        unfold ah
        split <;> omega
      have HE : Hid (ah s a = k) := e
      clear e
      go_wp2
      go_ret
      exact ⟨by rw [HE.out]; rfl, rfl⟩
theorem dAllow_any (n s a : Int) (w : World) (hs : I64 s) (ha : I64 a) :
    Calls Try.prog 8 #[.int .i64 n, .int .i64 s, .int .i64 a] w fun e w' => e = .returned (.int .i64 (al n s a)) ∧ w' = w := by
  have hc := ahead_any s a w hs ha
  obtain ⟨x, hx⟩ : ∃ x, x = ah s a := ⟨_, rfl⟩
  obtain ⟨r, hr⟩ : ∃ r, r = 32 - x := ⟨_, rfl⟩
  obtain ⟨m, hm⟩ : ∃ m, m = min (min n 4) r := ⟨_, rfl⟩
  obtain ⟨q, hq⟩ : ∃ q, q = al n s a := ⟨_, rfl⟩
  have hx0 : 0 ≤ x ∧ x ≤ 33 := by
    subst hx
    unfold ah
    split <;> omega
  have hq' : q = max m 0 := by
    subst hq hm hr hx
    unfold al rm ah
    split
    · omega
    · split <;> omega
  rw [← hx] at hc
  rw [← hq]
  have h1 := min_run3 n r m hm
  have h2 := max_run m 0 q hq'
  have h3 : IntKind.i64.wrap (32 - x) = r := by rw [IntKind.wrap_i64]; omega
  have h4 : wrap64 (32 - x) = r := by unfold wrap64; omega
  clear hr hm hq hq' hs ha hx hx0
  go_enter Try.func8, Try.ntmps8
  go_wp2_with (fail)
  refine hc.mono ?_
  rintro e w1 ⟨rfl, rfl⟩
  go_wp2
  go_ret
  exact ⟨rfl, rfl⟩
theorem allow_at (n s a q : Int) (w : World) (hs : I64 s) (ha : I64 a) (hq : al n s a = q) :
    Calls Try.prog 7 #[.int .i64 n, .int .i64 s, .int .i64 a] w fun e w' => e = .returned (.int .i64 q) ∧ w' = w := by
  have h := allow_any n s a w hs ha
  rwa [hq] at h
set_option maxRecDepth 100000 in
theorem works_any (w : World) : Calls Try.prog 9 #[] w fun e w' => e = .returned (.bool true) ∧ w' = w := by
  go_enter Try.func9, Try.ntmps9
  go_wp2_with (fail)
  refine (allow_at 9 10 10 4 _ (by unfold I64; omega) (by unfold I64; omega) (by decide)).mono ?_
  rintro e w1 ⟨rfl, rfl⟩
  go_wp2_with (fail)
  refine (allow_at 2 10 10 2 _ (by unfold I64; omega) (by unfold I64; omega) (by decide)).mono ?_
  rintro e w1 ⟨rfl, rfl⟩
  go_wp2_with (fail)
  refine (allow_at 9 40 10 2 _ (by unfold I64; omega) (by unfold I64; omega) (by decide)).mono ?_
  rintro e w1 ⟨rfl, rfl⟩
  go_wp2_with (fail)
  refine (allow_at 9 42 10 0 _ (by unfold I64; omega) (by unfold I64; omega) (by decide)).mono ?_
  rintro e w1 ⟨rfl, rfl⟩
  go_wp2_with (fail)
  refine (allow_at 9 5 30 4 _ (by unfold I64; omega) (by unfold I64; omega) (by decide)).mono ?_
  rintro e w1 ⟨rfl, rfl⟩
  go_wp2
  go_ret
  exact ⟨rfl, rfl⟩
end Go.Proofs.Ytfacjnpljhgigaa
