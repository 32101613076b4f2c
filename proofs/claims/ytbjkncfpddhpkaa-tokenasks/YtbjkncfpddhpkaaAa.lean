/- What is said of memory here, of tokens, and contracts of token's small functions and of Check. Conditions: sizes that a slice has. -/
import Derived.Test.YtbjkncfpddhpkaaMi
import Derived.Test.YtbjkncfpddhpkaaWi
import Derived.Deep.QuietTactic
import Derived.BigQuiet
import Derived.Deep.RegionHeld3
import Derived.Lib.MinMax
import Derived.Laws.Cover1
namespace Go.Proofs.Ytbjkncfpddhpkaa.Cr
open Go.RowKit
theorem info3 : (Try.prog.info? 3).map (fun i => (i.zero, i.size, i.bytes)) = some (some (.int .i64 0), 1, 8) := by kernel_rfl
theorem add_at (b off j : Nat) : (⟨b, off, none⟩ : Addr).add j = ⟨b, off + j, none⟩ := by
  unfold Addr.add
  by_cases h : j = 0 <;> simp [h]
/-- The cells of a slice that reads as l, in the form that append asks. -/
theorem cells_of {w : World} {b off : Nat} {l : List Int} (hc : ∀ j, j < l.length → w.cell? ⟨b, off + j, none⟩ = some (.int .i64 (l.getD j 0))) : ∀ j u, (U l)[j]? = some u → w.cell? ((⟨b, off, none⟩ : Addr).add j) = some u := by
  intro j u hu
  have hj : j < l.length := by
    rcases Nat.lt_or_ge j l.length with h | h
    · exact h
    · rw [List.getElem?_eq_none (by rw [U_len]; exact h)] at hu; cases hu
  rw [U_get l j hj] at hu
  cases hu
  rw [add_at]
  exact hc j hj
/-- One int that was just laid. -/
theorem app1 (w : World) (c : Int) (t : TypeId) : ∀ j u, [Value.int .i64 c][j]? = some u → (w.alloc (.cells #[.int .i64 c] t)).cell? ((⟨w.heap.size, 0, none⟩ : Addr).add j) = some u := by
  intro j u hj
  match j, hj with
  | 0, hj => simp at hj; subst hj; simp [Addr.add]
  | j + 1, hj => simp at hj
theorem copy_any (v : Value) (l : List Int) (w : World) (hs : Sl w v l) (hb : l.length ≤ 17592186044416) :
    Calls Try.prog 8 #[v] w fun e w' => ∃ v', e = .returned v' ∧ Own w' v' l ∧ Mod (fun _ => False) w w' ∧ (∀ g, v'.ownBlock = some g → w.heap.size ≤ g) := by
  obtain ⟨i0, hi, hz0, hz1, hz2⟩ := info_parts info3
  obtain ⟨ao, cap, rfl, h1, h2, h3, h4⟩ := hs
  cases ao with
  | none =>
    obtain rfl := h3 rfl
    obtain rfl : l = [] := List.eq_nil_of_length_eq_zero (by omega)
    go_enter Try.func8, Try.ntmps8
    go_wp2
    go_ret
    exact ⟨_, rfl, Own.nil _, Mod.refl _ _, by intro g hg; simp [Value.ownBlock] at hg⟩
  | some a =>
    have hcells : ∀ j u, (U l)[j]? = some u → w.cell? (a.add j) = some u := fun j u hu => by
      by_cases hl : l = []
      · subst hl; simp [U] at hu
      · obtain ⟨b, off, e, hc⟩ := h4 hl
        cases e
        exact cells_of hc j u hu
    clear h4
    go_enter Try.func8, Try.ntmps8
    go_wp2_with (at_builtin; refine wpList_append_own_at _ rfl _ _ 24 rfl 0 3 i0 (.int .i64 0) 1 8 Try.underlying24 hi hz0 hz1 hz2 rfl (by decide) (.slice none 0 0) 0 [] rfl (World.ownsRow_nil _ _ _ _) a l.length cap (U l) rfl (by simp [U]) hcells (U_one l) (by simp only [maxLen]; omega) (by omega) (Nat.zero_le _) ?_; intro v2 w2 hown2 hgrow hnil hat; simp only [Nat.zero_add, List.nil_append] at hown2)
    go_ret
    refine ⟨v2, rfl, hown2, (Mod.refl _ w).grown hgrow (by intro k hk; simp [Value.ownBlock] at hk), ?_⟩
    intro g hg
    rcases hat with h | h
    · rw [h] at hg; simp [Value.ownBlock] at hg
    · rw [h] at hg; simp at hg; omega
theorem own_any (v : Value) (l : List Int) (w : World) (hs : Sl w v l) (hb : l.length ≤ 17592186044416) :
    Calls Try.prog 30 #[v] w fun e w' => ∃ v', e = .returned v' ∧ Own w' v' l ∧ Mod (fun _ => False) w w' ∧ (∀ g, v'.ownBlock = some g → w.heap.size ≤ g) := by
  obtain ⟨i0, hi, hz0, hz1, hz2⟩ := info_parts info3
  obtain ⟨ao, cap, rfl, h1, h2, h3, h4⟩ := hs
  cases ao with
  | none =>
    obtain rfl := h3 rfl
    obtain rfl : l = [] := List.eq_nil_of_length_eq_zero (by omega)
    go_enter Try.func30, Try.ntmps30
    go_wp2
    go_ret
    exact ⟨_, rfl, Own.nil _, Mod.refl _ _, by intro g hg; simp [Value.ownBlock] at hg⟩
  | some a =>
    have hcells : ∀ j u, (U l)[j]? = some u → w.cell? (a.add j) = some u := fun j u hu => by
      by_cases hl : l = []
      · subst hl; simp [U] at hu
      · obtain ⟨b, off, e, hc⟩ := h4 hl
        cases e
        exact cells_of hc j u hu
    clear h4
    go_enter Try.func30, Try.ntmps30
    go_wp2_with (at_builtin; refine wpList_append_own_at _ rfl _ _ 24 rfl 0 3 i0 (.int .i64 0) 1 8 Try.underlying24 hi hz0 hz1 hz2 rfl (by decide) (.slice none 0 0) 0 [] rfl (World.ownsRow_nil _ _ _ _) a l.length cap (U l) rfl (by simp [U]) hcells (U_one l) (by simp only [maxLen]; omega) (by omega) (Nat.zero_le _) ?_; intro v2 w2 hown2 hgrow hnil hat; simp only [Nat.zero_add, List.nil_append] at hown2)
    go_ret
    refine ⟨v2, rfl, hown2, (Mod.refl _ w).grown hgrow (by intro k hk; simp [Value.ownBlock] at hk), ?_⟩
    intro g hg
    rcases hat with h | h
    · rw [h] at hg; simp [Value.ownBlock] at hg
    · rw [h] at hg; simp at hg; omega
theorem eq_take {a b : List Int} {k : Nat} (ha : k < a.length) (hb : k < b.length) (h : a.take k = b.take k) (hk : a.getD k 0 = b.getD k 0) : a.take (k + 1) = b.take (k + 1) := by
  rw [List.take_succ_eq_append_getElem ha, List.take_succ_eq_append_getElem hb, h]
  simp [ha, hb] at hk
  rw [hk]
set_option maxRecDepth 100000 in
theorem EqInts_some (b1 o1 c1 b2 o2 c2 : Nat) (a b : List Int) (w : World) (hl : a.length = b.length) (hmax : a.length ≤ 9223372036854775807)
   (hca : ∀ j, j < a.length → w.cell? ⟨b1, o1 + j, none⟩ = some (.int .i64 (a.getD j 0)))
   (hcb : ∀ j, j < b.length → w.cell? ⟨b2, o2 + j, none⟩ = some (.int .i64 (b.getD j 0))) :
    Calls Try.prog 14 #[.slice (some ⟨b1, o1, none⟩) a.length c1, .slice (some ⟨b2, o2, none⟩) b.length c2] w fun e w' => e = .returned (.bool (decide (a = b))) ∧ ∃ n, w' = w.drewN n := by
  have HL : Hid (a.length = b.length) := hl
  obtain ⟨n, hn⟩ : ∃ n, n = a.length := ⟨_, rfl⟩
  rw [← hl, ← hn] 
  rw [← hl] at hcb
  rw [← hn] at hmax hca hcb
  have HN : Hid (n = a.length) := hn
  clear hl hn
  go_enter Try.func14, Try.ntmps14
  go_wp2
  go_loopw [5] (fun i wr => ∃ k q : Nat, i = .int .i64 k ∧ k ≤ n ∧ Hid (a.take k = b.take k) ∧ wr = w.drewN q) (fun i _ => n - (intOf i).toNat)
  case atStart => exact ⟨0, 0, rfl, by omega, rfl, rfl⟩
  case round =>
    obtain ⟨k, q, rfl, hk, ht, rfl⟩ := hrel
    by_cases hlt : k < n
    · have h1 := hca k hlt
      have h2 := hcb k hlt
      have hi : (k : Int) < (n : Int) := by omega
      obtain ⟨x, hx⟩ : ∃ x, x = a.getD k 0 := ⟨_, rfl⟩
      obtain ⟨y, hy⟩ : ∃ y, y = b.getD k 0 := ⟨_, rfl⟩
      rw [← hx] at h1
      rw [← hy] at h2
      have HX : Hid (x = a.getD k 0) := hx
      have HY : Hid (y = b.getD k 0) := hy
      clear hx hy hca hcb
      go_wp2
      go_quiet (fail)
      go_wp2
      · have hne : x ≠ y := by have : (x != y) = true := by assumption
                               simpa using this
        go_ret
        refine ⟨?_, q + nq, by simp⟩
        have : ¬ a = b := by
          intro e
          apply hne
          rw [HX.out, HY.out, e]
        simp [this]
      · have heq : x = y := by have : (x != y) = false := by assumption
                               simpa using this
        have HT : Hid (a.take (k + 1) = b.take (k + 1)) := eq_take (by have := HN.out; omega) (by have := HN.out; have := HL.out; omega) ht.out (by rw [← HX.out, ← HY.out, heq])
        go_roundw
        case rel => exact ⟨k + 1, q + nq, by go_num, by omega, HT, by simp⟩
        case measure => simp [intOf]; omega
    · have e : a = b := by
        have h := ht.out
        have h1 := HN.out
        have h2 := HL.out
        rwa [List.take_of_length_le (by omega), List.take_of_length_le (by omega)] at h
      have HE : Hid (a = b) := e
      clear e hca hcb
      go_wp2
      go_ret
      exact ⟨by simp [HE.out], q, rfl⟩
theorem EqInts_zero (a1 : Option Addr) (c1 : Nat) (a2 : Option Addr) (c2 : Nat) (w : World) :
    Calls Try.prog 14 #[.slice a1 0 c1, .slice a2 0 c2] w fun e w' => e = .returned (.bool true) ∧ w' = w := by
  go_enter Try.func14, Try.ntmps14
  go_wp2
  go_loop [5] (fun i => i = .int .i64 0) (fun _ => 0)
  case atStart => rfl
  case round =>
    obtain rfl := hrel
    go_wp2
    go_ret
    exact ⟨rfl, rfl⟩
theorem EqInts_len (a1 : Option Addr) (n1 c1 : Nat) (a2 : Option Addr) (n2 c2 : Nat) (w : World) (h : n1 ≠ n2) :
    Calls Try.prog 14 #[.slice a1 n1 c1, .slice a2 n2 c2] w fun e w' => e = .returned (.bool false) ∧ w' = w := by
  have hb : ((n1 : Int) == (n2 : Int)) = false := by simp; omega
  have hn : ((n1 : Int) != (n2 : Int)) = true := by simp; omega
  go_enter Try.func14, Try.ntmps14
  go_wp2
  go_ret
  exact ⟨rfl, rfl⟩
/-- EqInts: whether two lists are the same. -/
theorem EqInts_any (u v : Value) (a b : List Int) (w : World) (hu : Sl w u a) (hv : Sl w v b) :
    Calls Try.prog 14 #[u, v] w fun e w' => e = .returned (.bool (decide (a = b))) ∧ Mod (fun _ => False) w w' := by
  obtain ⟨a1, c1, rfl, _, hm, _, h1⟩ := hu
  obtain ⟨a2, c2, rfl, _, _, _, h2⟩ := hv
  by_cases hl : a.length = b.length
  · by_cases ha : a = []
    · subst ha
      obtain rfl : b = [] := List.eq_nil_of_length_eq_zero (by simpa using hl.symm)
      refine (EqInts_zero _ _ _ _ _).mono ?_
      rintro e w' ⟨rfl, rfl⟩
      exact ⟨by simp, Mod.refl _ _⟩
    · obtain ⟨b1, o1, rfl, hc1⟩ := h1 ha
      obtain ⟨b2, o2, rfl, hc2⟩ := h2 (by rintro rfl; exact ha (List.eq_nil_of_length_eq_zero (by simpa using hl)))
      refine (EqInts_some b1 o1 c1 b2 o2 c2 a b w hl (by unfold maxLen at hm; omega) hc1 hc2).mono ?_
      rintro e w' ⟨rfl, n, rfl⟩
      exact ⟨rfl, (Mod.refl _ _).drewN n⟩
  · refine (EqInts_len _ _ _ _ _ _ _ hl).mono ?_
    rintro e w' ⟨rfl, rfl⟩
    have : ¬ a = b := by rintro rfl; exact hl rfl
    exact ⟨by simp [this], Mod.refl _ _⟩
theorem EqInts_at {u v : Value} {w : World} {a b : List Int} (r : Bool) (hu : Sl w u a) (hv : Sl w v b) (hr : decide (a = b) = r) :
    Calls Try.prog 14 #[u, v] w fun e w' => e = .returned (.bool r) ∧ Mod (fun _ => False) w w' := by
  have c := EqInts_any u v a b w hu hv
  rwa [hr] at c
end Go.Proofs.Ytbjkncfpddhpkaa.Cr
namespace Go.Proofs.Ytbjkncfpddhpkaa
open Go.RowKit
/-- x brought to 0 .. m - 1. -/
def br (x m : Int) : Int := if x.tmod m < 0 then x.tmod m + m else x.tmod m
theorem br_rng (x : Int) (m : Nat) (h0 : 0 < m) : 0 ≤ br x m ∧ br x m < m ∧ -(m : Int) < x.tmod m ∧ x.tmod m < m := by
  have q1 : ¬ ((m : Int) = 0) := by omega
  have hb : -(m : Int) < x.tmod (m : Int) ∧ x.tmod (m : Int) < (m : Int) := by
    rcases (show 0 ≤ x ∨ x < 0 by omega) with h | h
    · rw [Int.tmod_eq_emod_of_nonneg h]
      have a1 := Int.emod_nonneg x q1
      have a2 := Int.emod_lt_of_pos x (show (0 : Int) < m by omega)
      omega
    · have e := Int.neg_tmod (-x) (m : Int)
      rw [Int.neg_neg, Int.tmod_eq_emod_of_nonneg (by omega : 0 ≤ -x)] at e
      rw [e]
      have a1 := Int.emod_nonneg (-x) q1
      have a2 := Int.emod_lt_of_pos (-x) (show (0 : Int) < m by omega)
      omega
  unfold br
  split <;> omega
theorem bring (x : Int) (m : Nat) (w : World) (h0 : 0 < m) (hm : m ≤ 1152921504606846976) (h : -9223372036854775808 ≤ x ∧ x ≤ 9223372036854775807) :
    Calls Try.prog 16 #[.int .i64 x, .int .i64 (m : Int)] w fun e w' => e = .returned (.int .i64 (br x m)) ∧ w' = w := by
  have q0 : ¬ ((m : Int) ≤ 0) := by omega
  have q1 : ¬ ((m : Int) = 0) := by omega
  have q2 : ((m : Int) == 0) = false := by simp; omega
  obtain ⟨_, _, b1, b2⟩ := br_rng x m h0
  unfold br
  generalize hr : x.tmod (m : Int) = r at b1 b2 ⊢
  obtain ⟨h1, h2⟩ := h
  by_cases hneg : r < 0
  · rw [if_pos hneg]
    go_enter Try.func16, Try.ntmps16
    go_wp2
    go_ret
    exact ⟨rfl, rfl⟩
  · rw [if_neg hneg]
    go_enter Try.func16, Try.ntmps16
    go_wp2
    go_ret
    exact ⟨rfl, rfl⟩
theorem cell_one (w : World) (b : Nat) (u : Value) (h : w.cell? ⟨b, 0, none⟩ = some u) : ∀ j x, [u][j]? = some x → w.cell? ((⟨b, 0, none⟩ : Addr).add j) = some x := fun j x hj => by
  cases j with
  | zero => simp at hj; subst hj; simpa [Addr.add] using h
  | succ n => simp at hj
/-- What may stand on the wire. -/
def nm (n : Int) : Bool := decide (0 ≤ n ∧ n ≤ 9007199254740991)
def nd (n : Int) : Bool := decide (1 ≤ n ∧ n ≤ 8)
theorem isNumber (n : Int) (w : World) : Calls Try.prog 54 #[.int .i64 n] w fun e w' => e = .returned (.bool (nm n)) ∧ w' = w := by
  have h : 0 ≤ n ∨ n < 0 := by omega
  rcases h with h | h
  all_goals
    go_enter Try.func54, Try.ntmps54
    go_wp2
    go_ret
    refine ⟨?_, rfl⟩
    simp [nm]
    try omega
theorem isNode (n : Int) (w : World) : Calls Try.prog 55 #[.int .i64 n] w fun e w' => e = .returned (.bool (nd n)) ∧ w' = w := by
  have h : 1 ≤ n ∨ n < 1 := by omega
  rcases h with h | h
  all_goals
    go_enter Try.func55, Try.ntmps55
    go_wp2
    go_ret
    refine ⟨?_, rfl⟩
    simp [nd]
    try omega
theorem number (n : Int) (w : World) : Calls Try.prog 80 #[.int .i64 n] w fun e w' => e = .returned (.bool (nm n)) ∧ w' = w := by
  have h : 0 ≤ n ∨ n < 0 := by omega
  rcases h with h | h
  all_goals
    go_enter Try.func80, Try.ntmps80
    go_wp2
    go_ret
    refine ⟨?_, rfl⟩
    simp [nm]
    try omega
/-- Which ring numbers may be. -/
def cr (q r : Int) : Int := if (q = 0 ∧ r = 0) ∨ (0 < q ∧ q ≤ 9007199254740991 ∧ 1 ≤ r ∧ r ≤ 8) then 0 else 2
theorem cr_zero {q r : Int} (h : q = 0 ∧ r = 0) : cr q r = 0 := by rw [cr, if_pos (.inl h)]
theorem cr_node {q r : Int} (h0 : ¬ (q = 0 ∧ r = 0)) (h1 : nm q = true) (h2 : 0 < q) : cr q r = if nd r = true then 0 else 2 := by
  simp only [nm, decide_eq_true_eq] at h1
  simp only [cr, nd, decide_eq_true_eq]
  simp [h0, h2, h1.2]
theorem cr_pos {q r : Int} (h0 : ¬ (q = 0 ∧ r = 0)) (h2 : ¬ 0 < q) : cr q r = 2 := by
  rw [cr, if_neg]
  rintro (h | h)
  · exact h0 h
  · exact h2 h.1
theorem cr_num {q r : Int} (h0 : ¬ (q = 0 ∧ r = 0)) (h1 : nm q = false) : cr q r = 2 := by
  rw [cr, if_neg]
  rintro (h | h)
  · exact h0 h
  · simp [nm] at h1
    omega
theorem CheckRing (q r : Int) (w : World) : Calls Try.prog 37 #[.agg #[.int .i64 q, .int .i64 r]] w fun e w' => e = .returned (.int .i64 (cr q r)) ∧ Mod (fun _ => False) w w' := by
  have HM : Mod (fun _ => False) w ((w.alloc (Obj.cells #[Value.int IntKind.i64 q, Value.int IntKind.i64 r] 23)).alloc
      (Obj.cells #[Value.int IntKind.i64 0, Value.int IntKind.i64 0] 23)) := ((Mod.refl _ _).alloc _).alloc _
  have H := isNumber q
  have N := isNode r
  by_cases h0 : q = 0 ∧ r = 0
  · rw [cr_zero h0]
    obtain ⟨rfl, rfl⟩ := h0
    go_enter Try.func37, Try.ntmps37
    go_wp2
    go_ret
    exact ⟨rfl, HM⟩
  · cases h1 : nm q with
    | false =>
      rw [cr_num h0 h1]
      rw [h1] at H
      have hq : ¬ q = 0 := by rintro rfl; exact absurd h1 (by decide)
      clear h1 h0
      go_enter Try.func37, Try.ntmps37
      go_wp2_with (fail)
      refine (H _).mono ?_
      rintro e w' ⟨rfl, rfl⟩
      go_wp2
      go_ret
      exact ⟨rfl, HM⟩
    | true =>
      by_cases h2 : 0 < q
      · rw [cr_node h0 h1 h2]
        rw [h1] at H
        clear h1
        cases h3 : nd r with
        | false =>
          rw [h3] at N
          rw [if_neg (by decide)]
          clear h3
          go_enter Try.func37, Try.ntmps37
          go_wp2_with (fail)
          refine (H _).mono ?_
          rintro e w' ⟨rfl, rfl⟩
          go_wp2_with (fail)
          refine (N _).mono ?_
          rintro e w' ⟨rfl, rfl⟩
          go_wp2
          go_ret
          exact ⟨rfl, HM⟩
        | true =>
          rw [h3] at N
          rw [if_pos rfl]
          clear h3
          go_enter Try.func37, Try.ntmps37
          go_wp2_with (fail)
          refine (H _).mono ?_
          rintro e w' ⟨rfl, rfl⟩
          go_wp2_with (fail)
          refine (N _).mono ?_
          rintro e w' ⟨rfl, rfl⟩
          go_wp2
          go_ret
          exact ⟨rfl, HM⟩
      · rw [cr_pos h0 h2]
        rw [h1] at H
        have hq : q = 0 := by simp [nm] at h1; omega
        subst hq
        have hr : ¬ r = 0 := fun h => h0 ⟨rfl, h⟩
        clear h1 h2 h0
        go_enter Try.func37, Try.ntmps37
        go_wp2_with (fail)
        refine (H _).mono ?_
        rintro e w' ⟨rfl, rfl⟩
        go_wp2
        go_ret
        exact ⟨rfl, HM⟩
theorem RCheckRing (q r : Int) (w : World) : Calls Try.prog 58 #[.agg #[.int .i64 q, .int .i64 r]] w fun e w' => e = .returned (.int .i64 (cr q r)) ∧ Mod (fun _ => False) w w' := by
  have HM : Mod (fun _ => False) w (w.alloc (Obj.cells #[Value.int IntKind.i64 q, Value.int IntKind.i64 r] 23)) := (Mod.refl _ _).alloc _
  have H := number q
  by_cases h0 : q = 0 ∧ r = 0
  · rw [cr_zero h0]
    obtain ⟨rfl, rfl⟩ := h0
    go_enter Try.func58, Try.ntmps58
    go_wp2_with (go_at_call 80; refine (H _).mono ?_; rintro e w' ⟨rfl, rfl⟩)
    go_ret
    exact ⟨rfl, HM⟩
  · rcases (show (q = 0 ∧ ¬ r = 0) ∨ ¬ q = 0 by omega) with ⟨hq, hr⟩ | hq
    · rw [cr_pos h0 (by omega)]
      subst hq
      clear h0
      go_enter Try.func58, Try.ntmps58
      go_wp2_with (go_at_call 80; refine (H _).mono ?_; rintro e w' ⟨rfl, rfl⟩)
      go_ret
      exact ⟨rfl, HM⟩
    · by_cases h2 : 0 < q
      · cases h1 : nm q with
        | false =>
          rw [cr_num h0 h1]
          rw [h1] at H
          clear h1 h0
          go_enter Try.func58, Try.ntmps58
          go_wp2_with (go_at_call 80; refine (H _).mono ?_; rintro e w' ⟨rfl, rfl⟩)
          go_ret
          exact ⟨rfl, HM⟩
        | true =>
          rw [cr_node h0 h1 h2]
          rw [h1] at H
          clear h1 h0
          rcases (show 1 ≤ r ∨ r < 1 by omega) with h3 | h3
          · rcases (show r ≤ 8 ∨ 8 < r by omega) with h4 | h4
            · rw [if_pos (by simp [nd]; omega)]
              go_enter Try.func58, Try.ntmps58
              go_wp2_with (go_at_call 80; refine (H _).mono ?_; rintro e w' ⟨rfl, rfl⟩)
              go_ret
              exact ⟨rfl, HM⟩
            · rw [if_neg (by simp [nd]; omega)]
              go_enter Try.func58, Try.ntmps58
              go_wp2_with (go_at_call 80; refine (H _).mono ?_; rintro e w' ⟨rfl, rfl⟩)
              go_ret
              exact ⟨rfl, HM⟩
          · rw [if_neg (by simp [nd]; omega)]
            go_enter Try.func58, Try.ntmps58
            go_wp2_with (go_at_call 80; refine (H _).mono ?_; rintro e w' ⟨rfl, rfl⟩)
            go_ret
            exact ⟨rfl, HM⟩
      · rw [cr_pos h0 h2]
        have h2' : q ≤ 0 := by omega
        clear h2 h0
        go_enter Try.func58, Try.ntmps58
        go_wp2_with (go_at_call 80; refine (H _).mono ?_; rintro e w' ⟨rfl, rfl⟩)
        go_ret
        exact ⟨rfl, HM⟩
theorem eqRing (q r q' r' : Int) (w : World) : (Op.equalIn 10000 23 (.agg #[.int .i64 q, .int .i64 r]) (.agg #[.int .i64 q', .int .i64 r'])).run Try.prog w = .ok (decide (q = q') && decide (r = r')) w := by
  by_cases h2 : q = q' <;> by_cases h3 : r = r' <;> simp [go_sem, h2, h3]
/-- A struct as a result through a cell. -/
theorem resT {t t' : TypeId} {n : Nat} {d : TypeDesc} (hi : (Try.prog.info? t).map (·.size) = some n) (hu : Try.prog.underlying t = some d) (hd : d.isRow = true) {fn : Func} {pp : Tmp} (h : fn.results = #[.cell pp t]) {tmps : Array Value} {w : World} {b : Nat} {xs : Array Value} (hp : tmps.getD pp undef = .pointer (some ⟨b, 0, none⟩)) (hb : Bk w b t' xs) (hs : xs.size = n) :
    (results fn tmps).run Try.prog w = .ok (.agg xs) w := by
  rw [results_cell1 h, hp]
  have hl := run_loadVar_mid (P := Try.prog) w b 0 t xs.toList _ hb.row hu hd (by rw [hi]; simp [hs])
  simp only [asAddr, Sem.run_pure, Result.andThen]
  rw [hl]
/-- .. and a number behind it. -/
theorem resT2 {t t' : TypeId} {n : Nat} {d : TypeDesc} (hi : (Try.prog.info? t).map (·.size) = some n) (hu : Try.prog.underlying t = some d) (hd : d.isRow = true) {fn : Func} {pp u : Tmp} (h : fn.results = #[.cell pp t, .tmp u]) {tmps : Array Value} {w : World} {b : Nat} {xs : Array Value} {v : Value} (hp : tmps.getD pp undef = .pointer (some ⟨b, 0, none⟩)) (hv : tmps.getD u undef = v) (hb : Bk w b t' xs) (hs : xs.size = n) :
    (results fn tmps).run Try.prog w = .ok (.tuple #[.agg xs, v]) w := by
  rw [results_cell_tmp h, hp, hv]
  have hl := run_loadVar_mid (P := Try.prog) w b 0 t xs.toList _ hb.row hu hd (by rw [hi]; simp [hs])
  simp only [asAddr, Sem.run_pure, Result.andThen]
  rw [hl]
theorem Mod.none {S : Nat → Prop} {a b : World} (h : Mod (fun _ => False) a b) : Mod S a b := h.mono fun _ _ h => h.elim
theorem Mod.and {a b c : World} (h : Mod (fun _ => False) a b) (k : Mod (fun _ => False) b c) : Mod (fun _ => False) a c := h.trans k (fun _ _ h => h) (fun _ _ h => h)
/-- A ring number that may be, and not none; a crew that is not empty. -/
def isr (q r : Int) : Bool := decide (¬ (q = 0 ∧ r = 0)) && (cr q r == 0)
def I64 (x : Int) : Prop := -9223372036854775808 ≤ x ∧ x ≤ 9223372036854775807
structure Tk where
  rs : Int
  rr : Int
  hop : Int
  sq : Int
  aru : Int
  low : Int
  st : Int
  idle : Int
  ask : List Int
def win (v a b : Int) : Bool := decide (a ≤ v) && decide (v ≤ b)
def asc (last : Int) : Int → List Int → Bool
  | _, [] => true
  | least, v :: r => win v least last && asc last (v + 1) r
def cask (l : List Int) (last : Int) : Bool := decide (l.length ≤ 16) && asc last 1 l
def okT (t : Tk) : Bool := isr t.rs t.rr && decide (0 < t.hop) && nm t.hop && nm t.sq && win t.aru 0 t.sq && win t.low 0 8 && nm t.st && nm t.idle && cask t.ask t.sq
theorem pkNode (n : Int) (w : World) : Calls Try.prog 21 #[.int .i64 n] w fun e w' => e = .returned (.bool (nd n)) ∧ w' = w := by
  have h : 1 ≤ n ∨ n < 1 := by omega
  rcases h with h | h
  all_goals
    go_enter Try.func21, Try.ntmps21
    go_wp2
    go_ret
    refine ⟨?_, rfl⟩
    simp [nd, h]
    try omega
theorem pkWithin (v a b : Int) (w : World) : Calls Try.prog 25 #[.int .i64 v, .int .i64 a, .int .i64 b] w fun e w' => e = .returned (.bool (win v a b)) ∧ w' = w := by
  have h : a ≤ v ∨ v < a := by omega
  rcases h with h | h
  all_goals
    go_enter Try.func25, Try.ntmps25
    go_wp2
    go_ret
    refine ⟨?_, rfl⟩
    simp [win, h]
    try omega
theorem win_nm (v : Int) : win v 0 9007199254740991 = nm v := by
  rw [win, nm, Bool.eq_iff_iff]
  simp
theorem pkNumber (v : Int) (w : World) : Calls Try.prog 26 #[.int .i64 v] w fun e w' => e = .returned (.bool (nm v)) ∧ w' = w := by
  have H := pkWithin v 0 9007199254740991
  rw [win_nm] at H
  generalize nm v = c at H ⊢
  go_enter Try.func26, Try.ntmps26
  go_wp2_with (fail)
  refine (H _).mono ?_
  rintro e w' ⟨rfl, rfl⟩
  go_wp2
  go_ret
  exact ⟨rfl, rfl⟩
theorem pkRing (q r : Int) (w : World) : Calls Try.prog 24 #[.agg #[.int .i64 q, .int .i64 r]] w fun e w' => e = .returned (.bool (isr q r)) ∧ Mod (fun _ => False) w w' := by
  have hA := ((Mod.refl (fun _ => False) w).alloc (.cells #[.int .i64 q, .int .i64 r] 23)).alloc (.cells #[.int .i64 0, .int .i64 0] 23)
  have H := CheckRing q r
  have ER := eqRing q r 0 0
  have hi : isr q r = (!(decide (q = 0) && decide (r = 0)) && (cr q r == 0)) := by
    rw [isr, Bool.eq_iff_iff]
    simp
  rw [hi]
  generalize (decide (q = 0) && decide (r = 0)) = z at ER ⊢
  generalize cr q r = c at H ⊢
  clear hi
  cases z
  · by_cases hc : c = 0
    · subst hc
      go_enter Try.func24, Try.ntmps24
      go_wp2_with (fail)
      refine (H _).mono ?_
      rintro e w1 ⟨rfl, hm1⟩
      go_wp2
      go_ret
      exact ⟨rfl, hA.trans hm1 (V := fun _ => False) (fun _ _ h => h) (fun _ _ h => h)⟩
    · have hcb : (c == 0) = false := by simp [hc]
      rw [hcb]
      go_enter Try.func24, Try.ntmps24
      go_wp2_with (fail)
      refine (H _).mono ?_
      rintro e w1 ⟨rfl, hm1⟩
      go_wp2
      go_ret
      exact ⟨rfl, hA.trans hm1 (V := fun _ => False) (fun _ _ h => h) (fun _ _ h => h)⟩
  · go_enter Try.func24, Try.ntmps24
    go_wp2
    go_ret
    exact ⟨rfl, hA⟩
theorem asc_drop {l : List Int} {k : Nat} {x last least : Int} (h : l[k]? = some x) : asc last least (l.drop k) = (win x least last && asc last (x + 1) (l.drop (k + 1))) := by
  obtain ⟨hk, rfl⟩ := List.getElem?_eq_some_iff.1 h
  rw [List.drop_eq_getElem_cons hk]
  rfl
set_option maxHeartbeats 1000000 in
theorem canAsk_any (v : Value) (l : List Int) (last : Int) (w : World) (hs : Cr.Sl w v l) (hi : ∀ x ∈ l, -9223372036854775808 ≤ x ∧ x ≤ 9223372036854775807) (hlast : last ≤ 9007199254740991) : Calls Try.prog 27 #[v, .int .i64 last] w fun e w' => e = .returned (.bool (cask l last)) ∧ w' = w := by
  obtain ⟨ao, cap, rfl, h1, h2, h3, h4⟩ := hs
  unfold maxLen at h2
  by_cases hl : 16 < l.length
  · have e : cask l last = false := by simp [cask]; intro h; omega
    have hli : (16 : Int) < l.length := by omega
    rw [e]
    clear h4
    go_enter Try.func27, Try.ntmps27
    go_wp2
    go_ret
    exact ⟨rfl, rfl⟩
  · have hR : Hid (cask l last = asc last 1 (l.drop 0)) := by show _ = _; simp [cask]; intro h; omega
    have hli : ¬ (16 : Int) < l.length := by omega
    generalize cask l last = R at hR ⊢
    have HW := fun x a => pkWithin x a last
    go_enter Try.func27, Try.ntmps27
    go_wp2
    go_loopw [5, 13] (fun ls i wr => ∃ (k : Nat) (least : Int), i = .int .i64 k ∧ ls = .int .i64 least ∧ k ≤ l.length ∧ Hid (R = asc last least (l.drop k)) ∧ wr = w) (fun _ i _ => l.length - (intOf i).toNat)
    case atStart => exact ⟨0, 1, rfl, rfl, by omega, hR, rfl⟩
    case round =>
      obtain ⟨k, least, rfl, rfl, hk, hR', rfl⟩ := hrel
      clear hR
      by_cases hlt : k < l.length
      · obtain ⟨x, hx⟩ : ∃ x, l[k]? = some x := ⟨_, List.getElem?_eq_getElem hlt⟩
        have hne : l ≠ [] := by rintro rfl; simp at hlt
        obtain ⟨b, off, rfl, hc⟩ := h4 hne
        have hcx := hc k hlt
        have hg : l.getD k 0 = x := by rw [List.getD_eq_getElem?_getD, hx]; rfl
        rw [hg] at hcx
        have hs := asc_drop (last := last) (least := least) hx
        have hix := hi x (List.mem_of_getElem? hx)
        rw [hs] at hR'
        have hki : (k : Int) < l.length := by omega
        have HX := HW x least
        have hwx : win x least last = true → x ≤ last := by simp [win]
        clear hs hg hx hc h4 HW
        cases hw : win x least last with
        | false =>
          rw [hw] at HX hR'
          have HR : Hid (R = false) := by show _ = _; have := hR'.out; simpa using this
          clear hR' hw
          go_wp2_with (fail)
          refine (HX _).mono ?_
          rintro e w' ⟨rfl, rfl⟩
          go_wp2
          have hRT := HR.out
          subst hRT
          go_ret
          exact ⟨rfl, rfl⟩
        | true =>
          rw [hw] at HX hR'
          have HR : Hid (R = asc last (x + 1) (l.drop (k + 1))) := by show _ = _; have := hR'.out; simpa using this
          have hxl := hwx hw
          clear hR' hw hwx
          go_wp2_with (fail)
          refine (HX _).mono ?_
          rintro e w' ⟨rfl, rfl⟩
          have hw2 : IntKind.i64.wrap (x + 1) = x + 1 := by rw [IntKind.wrap_i64]; omega
          go_wp2
          go_roundw
          case rel => exact ⟨k + 1, x + 1, by go_num, rfl, by omega, HR, by first | rfl | trivial⟩
          case measure => simp [intOf]; omega
      · have HR : Hid (R = true) := by show _ = _; have := hR'.out; rw [List.drop_eq_nil_of_le (by omega)] at this; exact this
        clear hR' h4
        go_wp2
        have hRT := HR.out
        subst hRT
        go_ret
        exact ⟨rfl, rfl⟩
/-- What Check answers. -/
def ckT (t : Tk) : Int := if okT t = true then 0 else 2
theorem okT_eq (rs rr hp sq ar lw st id : Int) (l : List Int) : okT ⟨rs, rr, hp, sq, ar, lw, st, id, l⟩ = (isr rs rr && (win hp 1 9007199254740991 && (nm sq && (win ar 0 sq && ((decide (lw = 0) || nd lw) && (nm st && (nm id && cask l sq))))))) := by
  rw [Bool.eq_iff_iff]
  simp only [okT, win, nm, nd, Bool.and_eq_true, Bool.or_eq_true, decide_eq_true_eq]
  constructor
  · rintro ⟨⟨⟨⟨⟨⟨⟨⟨h1, h2⟩, h3⟩, h4⟩, h5⟩, h6⟩, h7⟩, h8⟩, h9⟩
    exact ⟨h1, by omega, h4, h5, by omega, h7, h8, h9⟩
  · rintro ⟨h1, h2, h4, h5, h6, h7, h8, h9⟩
    exact ⟨⟨⟨⟨⟨⟨⟨⟨h1, by omega⟩, by omega⟩, h4⟩, h5⟩, by omega⟩, h7⟩, h8⟩, h9⟩
set_option maxRecDepth 100000 in
set_option maxHeartbeats 4000000 in
theorem tCheck (rs rr hp sq ar lw st id : Int) (ao : Option Addr) (cap : Nat) (l : List Int) (w : World) (hs : Cr.Sl w (.slice ao l.length cap) l) (hi : ∀ x ∈ l, I64 x) : Calls Try.prog 11 #[.agg #[.int .i64 rs, .int .i64 rr, .int .i64 hp, .int .i64 sq, .int .i64 ar, .int .i64 lw, .int .i64 st, .int .i64 id, .slice ao l.length cap]] w fun e w' => e = .returned (.int .i64 (ckT ⟨rs, rr, hp, sq, ar, lw, st, id, l⟩)) ∧ Mod (fun _ => False) w w' := by
  have hM := (Mod.refl (fun _ => False) w).alloc (.cells #[.int .i64 rs, .int .i64 rr, .int .i64 hp, .int .i64 sq, .int .i64 ar, .int .i64 lw, .int .i64 st, .int .i64 id, .slice ao l.length cap] 26)
  have hBk := Bk.new w #[.int .i64 rs, .int .i64 rr, .int .i64 hp, .int .i64 sq, .int .i64 ar, .int .i64 lw, .int .i64 st, .int .i64 id, .slice ao l.length cap] 26
  rw [ckT, okT_eq]
  have hsq : nm sq = true → sq ≤ 9007199254740991 := by simp [nm]
  have H0 := pkRing rs rr
  have H2 := pkWithin hp 1 9007199254740991
  have H3 := pkNumber sq
  have H4 := pkWithin ar 0 sq
  have H5 := pkNode lw
  have H6 := pkNumber st
  have H7 := pkNumber id
  have H8 := fun W h q => canAsk_any (.slice ao l.length cap) l sq W h hi q
  have dl : ∀ b : Bool, (if b = true then (0 : Int) else 2) = 0 ∧ b = true ∨ (if b = true then (0 : Int) else 2) = 2 ∧ b = false := by intro b; cases b <;> simp
  generalize (isr rs rr) = c0 at H0  ⊢
  generalize (win hp 1 9007199254740991) = c2 at H2  ⊢
  generalize (nm sq) = c3 at H3 hsq ⊢
  generalize (win ar 0 sq) = c4 at H4  ⊢
  generalize (nd lw) = c5 at H5  ⊢
  generalize (nm st) = c6 at H6  ⊢
  generalize (nm id) = c7 at H7  ⊢
  generalize (cask l sq) = c8 at H8  ⊢
  obtain ⟨lz, hlz⟩ : ∃ z : Bool, z = decide (lw = 0) := ⟨_, rfl⟩
  have hle : (lw == 0) = lz := by rw [hlz, Bool.eq_iff_iff]; simp
  rw [← hlz]
  have HLZ : Hid (lz = decide (lw = 0)) := hlz
  clear hlz
  obtain ⟨R, hR⟩ : ∃ R : Int, R = if (c0 && (c2 && (c3 && (c4 && ((lz || c5) && (c6 && (c7 && c8))))))) = true then 0 else 2 := ⟨_, rfl⟩
  rw [← hR]
  have HR : Hid (R = if (c0 && (c2 && (c3 && (c4 && ((lz || c5) && (c6 && (c7 && c8))))))) = true then 0 else 2) := hR
  clear hR dl
  go_enter Try.func11, Try.ntmps11
  go_wp2_with (fail)
  refine (H0 _).mono ?_
  rintro e w0 ⟨rfl, hm0⟩
  replace hM := hM.trans hm0 (V := fun _ => False) (fun _ _ h => h) (fun _ _ h => h)
  replace hBk := hBk.mod hm0 (fun h => h)
  have a0 := hBk.cellv (j := 0) rfl
  have a1 := hBk.cellv (j := 1) rfl
  have a2 := hBk.cellv (j := 2) rfl
  have a3 := hBk.cellv (j := 3) rfl
  have a4 := hBk.cellv (j := 4) rfl
  have a5 := hBk.cellv (j := 5) rfl
  have a6 := hBk.cellv (j := 6) rfl
  have a7 := hBk.cellv (j := 7) rfl
  have a8 := hBk.cellv (j := 8) rfl
  cases c0
  case false =>
    go_wp2
    have hRT := HR.out
    simp at hRT
    subst hRT
    go_ret
    exact ⟨rfl, hM⟩
  case true =>
  go_wp2_with (fail)
  refine (H2 _).mono ?_
  rintro e w2 ⟨rfl, rfl⟩
  cases c2
  case false =>
    go_wp2
    have hRT := HR.out
    simp at hRT
    subst hRT
    go_ret
    exact ⟨rfl, hM⟩
  case true =>
  go_wp2_with (fail)
  refine (H3 _).mono ?_
  rintro e w3 ⟨rfl, rfl⟩
  cases c3
  case false =>
    go_wp2
    have hRT := HR.out
    simp at hRT
    subst hRT
    go_ret
    exact ⟨rfl, hM⟩
  case true =>
  go_wp2_with (fail)
  refine (H4 _).mono ?_
  rintro e w4 ⟨rfl, rfl⟩
  cases c4
  case false =>
    go_wp2
    have hRT := HR.out
    simp at hRT
    subst hRT
    go_ret
    exact ⟨rfl, hM⟩
  case true =>
  cases lz
  case true =>
    go_wp2_with (fail)
    refine (H6 _).mono ?_
    rintro e w6 ⟨rfl, rfl⟩
    cases c6
    case false =>
      go_wp2
      have hRT := HR.out
      simp at hRT
      subst hRT
      go_ret
      exact ⟨rfl, hM⟩
    case true =>
    go_wp2_with (fail)
    refine (H7 _).mono ?_
    rintro e w7 ⟨rfl, rfl⟩
    cases c7
    case false =>
      go_wp2
      have hRT := HR.out
      simp at hRT
      subst hRT
      go_ret
      exact ⟨rfl, hM⟩
    case true =>
    go_wp2_with (fail)
    refine (H8 _ (hs.mod hM (fun _ _ h => h)) (hsq trivial)).mono ?_
    rintro e w8 ⟨rfl, rfl⟩
    cases c8
    case false =>
      go_wp2
      have hRT := HR.out
      simp at hRT
      subst hRT
      go_ret
      exact ⟨rfl, hM⟩
    case true =>
      go_wp2
      have hRT := HR.out
      simp at hRT
      subst hRT
      go_ret
      exact ⟨rfl, hM⟩
  case false =>
  go_wp2_with (fail)
  refine (H5 _).mono ?_
  rintro e w5 ⟨rfl, rfl⟩
  cases c5
  case false =>
    go_wp2
    have hRT := HR.out
    simp at hRT
    subst hRT
    go_ret
    exact ⟨rfl, hM⟩
  case true =>
  go_wp2_with (fail)
  refine (H6 _).mono ?_
  rintro e w6 ⟨rfl, rfl⟩
  cases c6
  case false =>
    go_wp2
    have hRT := HR.out
    simp at hRT
    subst hRT
    go_ret
    exact ⟨rfl, hM⟩
  case true =>
  go_wp2_with (fail)
  refine (H7 _).mono ?_
  rintro e w7 ⟨rfl, rfl⟩
  cases c7
  case false =>
    go_wp2
    have hRT := HR.out
    simp at hRT
    subst hRT
    go_ret
    exact ⟨rfl, hM⟩
  case true =>
  go_wp2_with (fail)
  refine (H8 _ (hs.mod hM (fun _ _ h => h)) (hsq trivial)).mono ?_
  rintro e w8 ⟨rfl, rfl⟩
  cases c8
  case false =>
    go_wp2
    have hRT := HR.out
    simp at hRT
    subst hRT
    go_ret
    exact ⟨rfl, hM⟩
  case true =>
    go_wp2
    have hRT := HR.out
    simp at hRT
    subst hRT
    go_ret
    exact ⟨rfl, hM⟩
theorem tSafe (a b c : Int) (w : World) : Calls Try.prog 18 #[.int .i64 a, .int .i64 b, .int .i64 c] w fun e w' => e = .returned (.int .i64 (max a (min b c))) ∧ w' = w := by
  obtain ⟨m, hm⟩ : ∃ m, m = min b c := ⟨_, rfl⟩
  obtain ⟨x, hx⟩ : ∃ x, x = max a m := ⟨_, rfl⟩
  have h1 : ∀ W, (Builtin.min_ #[3, 3] 3 #[.int .i64 b, .int .i64 c]).run Try.prog W = .ok (.int .i64 m) W := fun W => by rw [Lib.run_min_ints, hm]
  have h2 : ∀ W, (Builtin.max_ #[3, 3] 3 #[.int .i64 a, .int .i64 m]).run Try.prog W = .ok (.int .i64 x) W := fun W => by rw [Lib.run_max_ints, hx]
  rw [← hm, ← hx]
  clear hm hx
  go_enter Try.func18, Try.ntmps18
  go_wp2
  go_ret
  exact ⟨rfl, rfl⟩
end Go.Proofs.Ytbjkncfpddhpkaa
