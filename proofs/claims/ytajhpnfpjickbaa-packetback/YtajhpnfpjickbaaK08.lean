/- Contracts of crew's calls that make no memory. No conditions. Contracts of CopyInts and EqInts: what each returns and which blocks it turns, for slices of ints. Conditions: slices of at most 2^47 bytes. Count, by the library's way of counting bits. No conditions. Contracts of List and Of, the program's and the document's, and of the document's Check, Count, Next, Least. Conditions: lists of at most 2^47 bytes. -/
import Derived.Test.YtajhpnfpjickbaaK06
import Derived.Test.YtajhpnfpjickbaaK07
import Derived.Deep.QuietTactic
import Derived.BigQuiet
namespace Go.Proofs.Ytajhpnfpjickbaa.Cr
open Go.RowKit
theorem isNode (n : Int) (w : World) : Calls Try.prog 146 #[.int .i64 n] w fun e w' => e = .returned (.bool (node n)) ∧ w' = w := by
  have h : 1 ≤ n ∨ n < 1 := by omega
  rcases h with h | h
  all_goals
    go_enter Try.func146, Try.ntmps146
    go_wp2
    go_ret
    refine ⟨?_, rfl⟩
    simp [node]
    try omega
theorem Has (c n : Int) (w : World) : Calls Try.prog 138 #[.int .i64 c, .int .i64 n] w fun e w' => e = .returned (.bool (has c n)) ∧ w' = w := by
  have H := isNode n w
  cases h : node n with
  | true =>
    have hn : 1 ≤ n ∧ n < 9 := by simpa [node] using h
    have h1 := hn.1
    have h2 := hn.2
    have e := shr_bit c n h1 h2
    have E : Hid ((bits .and .i64 (c / 2 ^ n.toNat) 1 == 1) = has c n) := by rw [Hid, e, has, h, Bool.true_and]
    rw [h] at H
    clear h hn e
    generalize has c n = r at E ⊢
    go_enter Try.func138, Try.ntmps138
    go_wp2_with (go_at_call 146; refine H.mono ?_; rintro e w' ⟨rfl, rfl⟩)
    go_ret
    refine ⟨?_, rfl⟩
    rw [← E.out]
    rfl
  | false =>
    have e : has c n = false := by simp [has, h]
    rw [e]
    rw [h] at H
    clear h e
    go_enter Try.func138, Try.ntmps138
    go_wp2_with (go_at_call 146; refine H.mono ?_; rintro e w' ⟨rfl, rfl⟩)
    go_ret
    exact ⟨rfl, rfl⟩
theorem Check (c : Int) (w : World) (hc : -9223372036854775808 ≤ c ∧ c ≤ 9223372036854775807) : Calls Try.prog 137 #[.int .i64 c] w fun e w' => e = .returned (.int .i64 (chk c)) ∧ w' = w := by
  have E := chk_eq c hc
  clear hc
  cases h : decide (((lo c &&& 510 : Nat) : Int) = c) with
  | true =>
    have e : chk c = 0 := by rw [chk, if_pos (of_decide_eq_true h)]
    rw [h] at E
    rw [e]
    clear h e
    go_enter Try.func137, Try.ntmps137
    go_wp2
    go_ret
    exact ⟨rfl, rfl⟩
  | false =>
    have e : chk c = 2 := by rw [chk, if_neg (of_decide_eq_false h)]
    rw [h] at E
    rw [e]
    clear h e
    go_enter Try.func137, Try.ntmps137
    go_wp2
    go_ret
    exact ⟨rfl, rfl⟩
theorem above (c n : Int) (w : World) : Calls Try.prog 148 #[.int .i64 c, .int .i64 n] w fun e w' => e = .returned (.int .i64 (ab (lo c) n)) ∧ w' = w := by
  have H := fun k : Nat => Has c k
  have hc : ∀ k : Nat, has c k = hs (lo c) k := by
    intro k
    by_cases h : 1 ≤ k ∧ k ≤ 8
    · rw [has, show node k = true by simp [node]; omega, Bool.true_and, Int.toNat_natCast]
    · have : hs (lo c) k = false := by rw [Bool.eq_false_iff]; intro e; exact h (hs_pos e)
      rw [this, has, show node k = false by simp [node]; omega, Bool.false_and]
  simp only [hc] at H
  clear hc
  generalize lo c = m at H ⊢
  have HA : Hid (ab m n = abf m n 9) := rfl
  generalize ab m n = r at HA ⊢
  go_enter Try.func148, Try.ntmps148
  go_wp2
  go_loopw [6] (fun i wr => ∃ k : Nat, i = .int .i64 k ∧ k ≤ 9 ∧ Hid (r = abf m n (9 - k)) ∧ wr = w) (fun i _ => 9 - (intOf i).toNat)
  case atStart => exact ⟨0, rfl, by omega, HA, rfl⟩
  case round =>
    obtain ⟨k, rfl, hk, hr, rfl⟩ := hrel
    clear HA
    by_cases hlt : k < 9
    · have hi : (k : Int) < 9 := by omega
      have hs' : Hid (r = if decide (n < (k : Int)) && hs m k then k else abf m n (9 - (k + 1))) := by
        have h := hr.out
        rw [show 9 - k = (8 - k) + 1 by omega, abf, show 8 - (8 - k) = k by omega, show 8 - k = 9 - (k + 1) by omega] at h
        exact h
      have HK := H k wr
      clear H hr
      by_cases hn : n < (k : Int)
      · cases hh : hs m k with
        | true =>
          have e : Hid (r = k) := by have := hs'.out; rw [hh, decide_eq_true hn] at this; exact this
          rw [hh] at HK
          clear hs' hh
          go_wp2_with (go_at_call 138; refine HK.mono ?_; rintro e w' ⟨rfl, rfl⟩)
          go_ret
          exact ⟨by rw [e.out]; rfl, rfl⟩
        | false =>
          have e : Hid (r = abf m n (9 - (k + 1))) := by have := hs'.out; rw [hh, decide_eq_true hn] at this; exact this
          rw [hh] at HK
          clear hs' hh
          go_wp2_with (go_at_call 138; refine HK.mono ?_; rintro e w' ⟨rfl, rfl⟩)
          go_roundw
          case rel => exact ⟨k + 1, by go_num, by omega, e, trivial⟩
          case measure => simp [intOf]; omega
      · have e : Hid (r = abf m n (9 - (k + 1))) := by have := hs'.out; rw [decide_eq_false hn] at this; exact this
        have hn' : (k : Int) ≤ n := by omega
        clear hs' hn HK
        go_wp2
        go_roundw
        case rel => exact ⟨k + 1, by go_num, by omega, e, trivial⟩
        case measure => simp [intOf]; omega
    · obtain rfl : k = 9 := by omega
      have e : Hid (r = 0) := hr.out
      clear hr H
      go_wp2
      go_ret
      exact ⟨by rw [e.out]; rfl, rfl⟩
theorem Least (c : Int) (w : World) : Calls Try.prog 140 #[.int .i64 c] w fun e w' => e = .returned (.int .i64 (ab (lo c) 0)) ∧ w' = w := by
  have H := above c 0 w
  generalize ab (lo c) 0 = r at H ⊢
  go_enter Try.func140, Try.ntmps140
  go_wp2_with (go_at_call 148; refine H.mono ?_; rintro e w' ⟨rfl, rfl⟩)
  go_ret
  exact ⟨rfl, rfl⟩
end Go.Proofs.Ytajhpnfpjickbaa.Cr
namespace Go.Proofs.Ytajhpnfpjickbaa.Cr
open Go.RowKit
theorem info3 : (Try.prog.info? 3).map (fun i => (i.zero, i.size, i.bytes)) = some (some (.int .i64 0), 1, 8) := by kernel_rfl

theorem add_at (b off j : Nat) : (⟨b, off, none⟩ : Addr).add j = ⟨b, off + j, none⟩ := by
  unfold Addr.add
  by_cases h : j = 0 <;> simp [h]

/-- The cells of a slice that reads as l, in the form that append asks. -/
theorem cells_of {w : World} {b off : Nat} {l : List Int} (hc : ∀ j, j < l.length → w.cell? ⟨b, off + j, none⟩ = some (.int .i64 (l.getD j 0))) : ∀ j u, (U l)[j]? = some u → w.cell? ((⟨b, off, none⟩ : Addr).add j) = some u := by
  intro j u hu
  have hj : j < l.length := by
    rcases Nat.lt_or_ge j l.length with h | h
    · exact h
    · rw [List.getElem?_eq_none (by rw [U_len]; exact h)] at hu; cases hu
  rw [U_get l j hj] at hu
  cases hu
  rw [add_at]
  exact hc j hj

/-- One int that was just laid. -/
theorem app1 (w : World) (c : Int) (t : TypeId) : ∀ j u, [Value.int .i64 c][j]? = some u → (w.alloc (.cells #[.int .i64 c] t)).cell? ((⟨w.heap.size, 0, none⟩ : Addr).add j) = some u := by
  intro j u hj
  match j, hj with
  | 0, hj => simp at hj; subst hj; simp [Addr.add]
  | j + 1, hj => simp at hj

theorem eq_take {a b : List Int} {k : Nat} (ha : k < a.length) (hb : k < b.length) (h : a.take k = b.take k) (hk : a.getD k 0 = b.getD k 0) : a.take (k + 1) = b.take (k + 1) := by
  rw [List.take_succ_eq_append_getElem ha, List.take_succ_eq_append_getElem hb, h]
  simp [ha, hb] at hk
  rw [hk]
set_option maxRecDepth 100000 in
theorem EqInts_some (b1 o1 c1 b2 o2 c2 : Nat) (a b : List Int) (w : World) (hl : a.length = b.length) (hmax : a.length ≤ 9223372036854775807)
   (hca : ∀ j, j < a.length → w.cell? ⟨b1, o1 + j, none⟩ = some (.int .i64 (a.getD j 0)))
   (hcb : ∀ j, j < b.length → w.cell? ⟨b2, o2 + j, none⟩ = some (.int .i64 (b.getD j 0))) :
    Calls Try.prog 44 #[.slice (some ⟨b1, o1, none⟩) a.length c1, .slice (some ⟨b2, o2, none⟩) b.length c2] w fun e w' => e = .returned (.bool (decide (a = b))) ∧ ∃ n, w' = w.drewN n := by
  have HL : Hid (a.length = b.length) := hl
  obtain ⟨n, hn⟩ : ∃ n, n = a.length := ⟨_, rfl⟩
  rw [← hl, ← hn] 
  rw [← hl] at hcb
  rw [← hn] at hmax hca hcb
  have HN : Hid (n = a.length) := hn
  clear hl hn
  go_enter Try.func44, Try.ntmps44
  go_wp2
  go_loopw [5] (fun i wr => ∃ k q : Nat, i = .int .i64 k ∧ k ≤ n ∧ Hid (a.take k = b.take k) ∧ wr = w.drewN q) (fun i _ => n - (intOf i).toNat)
  case atStart => exact ⟨0, 0, rfl, by omega, rfl, rfl⟩
  case round =>
    obtain ⟨k, q, rfl, hk, ht, rfl⟩ := hrel
    by_cases hlt : k < n
    · have h1 := hca k hlt
      have h2 := hcb k hlt
      have hi : (k : Int) < (n : Int) := by omega
      obtain ⟨x, hx⟩ : ∃ x, x = a.getD k 0 := ⟨_, rfl⟩
      obtain ⟨y, hy⟩ : ∃ y, y = b.getD k 0 := ⟨_, rfl⟩
      rw [← hx] at h1
      rw [← hy] at h2
      have HX : Hid (x = a.getD k 0) := hx
      have HY : Hid (y = b.getD k 0) := hy
      clear hx hy hca hcb
      go_wp2
      go_quiet (fail)
      go_wp2
      · have hne : x ≠ y := by have : (x != y) = true := by assumption
                               simpa using this
        go_ret
        refine ⟨?_, q + nq, by simp⟩
        have : ¬ a = b := by
          intro e
          apply hne
          rw [HX.out, HY.out, e]
        simp [this]
      · have heq : x = y := by have : (x != y) = false := by assumption
                               simpa using this
        have HT : Hid (a.take (k + 1) = b.take (k + 1)) := eq_take (by have := HN.out; omega) (by have := HN.out; have := HL.out; omega) ht.out (by rw [← HX.out, ← HY.out, heq])
        go_roundw
        case rel => exact ⟨k + 1, q + nq, by go_num, by omega, HT, by simp⟩
        case measure => simp [intOf]; omega
    · have e : a = b := by
        have h := ht.out
        have h1 := HN.out
        have h2 := HL.out
        rwa [List.take_of_length_le (by omega), List.take_of_length_le (by omega)] at h
      have HE : Hid (a = b) := e
      clear e hca hcb
      go_wp2
      go_ret
      exact ⟨by simp [HE.out], q, rfl⟩
theorem EqInts_zero (a1 : Option Addr) (c1 : Nat) (a2 : Option Addr) (c2 : Nat) (w : World) :
    Calls Try.prog 44 #[.slice a1 0 c1, .slice a2 0 c2] w fun e w' => e = .returned (.bool true) ∧ w' = w := by
  go_enter Try.func44, Try.ntmps44
  go_wp2
  go_loop [5] (fun i => i = .int .i64 0) (fun _ => 0)
  case atStart => rfl
  case round =>
    obtain rfl := hrel
    go_wp2
    go_ret
    exact ⟨rfl, rfl⟩
theorem EqInts_len (a1 : Option Addr) (n1 c1 : Nat) (a2 : Option Addr) (n2 c2 : Nat) (w : World) (h : n1 ≠ n2) :
    Calls Try.prog 44 #[.slice a1 n1 c1, .slice a2 n2 c2] w fun e w' => e = .returned (.bool false) ∧ w' = w := by
  have hb : ((n1 : Int) == (n2 : Int)) = false := by simp; omega
  have hn : ((n1 : Int) != (n2 : Int)) = true := by simp; omega
  go_enter Try.func44, Try.ntmps44
  go_wp2
  go_ret
  exact ⟨rfl, rfl⟩
/-- EqInts: whether two lists are the same. -/
theorem EqInts_any (u v : Value) (a b : List Int) (w : World) (hu : Sl w u a) (hv : Sl w v b) :
    Calls Try.prog 44 #[u, v] w fun e w' => e = .returned (.bool (decide (a = b))) ∧ Mod (fun _ => False) w w' := by
  obtain ⟨a1, c1, rfl, _, hm, _, h1⟩ := hu
  obtain ⟨a2, c2, rfl, _, _, _, h2⟩ := hv
  by_cases hl : a.length = b.length
  · by_cases ha : a = []
    · subst ha
      obtain rfl : b = [] := List.eq_nil_of_length_eq_zero (by simpa using hl.symm)
      refine (EqInts_zero _ _ _ _ _).mono ?_
      rintro e w' ⟨rfl, rfl⟩
      exact ⟨by simp, Mod.refl _ _⟩
    · obtain ⟨b1, o1, rfl, hc1⟩ := h1 ha
      obtain ⟨b2, o2, rfl, hc2⟩ := h2 (by rintro rfl; exact ha (List.eq_nil_of_length_eq_zero (by simpa using hl)))
      refine (EqInts_some b1 o1 c1 b2 o2 c2 a b w hl (by unfold maxLen at hm; omega) hc1 hc2).mono ?_
      rintro e w' ⟨rfl, n, rfl⟩
      exact ⟨rfl, (Mod.refl _ _).drewN n⟩
  · refine (EqInts_len _ _ _ _ _ _ _ hl).mono ?_
    rintro e w' ⟨rfl, rfl⟩
    have : ¬ a = b := by rintro rfl; exact hl rfl
    exact ⟨by simp [this], Mod.refl _ _⟩
theorem EqInts_at {u v : Value} {w : World} {a b : List Int} (r : Bool) (hu : Sl w u a) (hv : Sl w v b) (hr : decide (a = b) = r) :
    Calls Try.prog 44 #[u, v] w fun e w' => e = .returned (.bool r) ∧ Mod (fun _ => False) w w' := by
  have c := EqInts_any u v a b w hu hv
  rwa [hr] at c
theorem Mod.none {S : Nat → Prop} {a b : World} (h : Mod (fun _ => False) a b) : Mod S a b := h.mono fun _ _ h => h.elim
end Go.Proofs.Ytajhpnfpjickbaa.Cr
namespace Go.Proofs.Ytajhpnfpjickbaa.Cr
open Go.RowKit
def p1 (x : Int) : Int := IntKind.u64.wrap (bits .and .u64 (x / 2) 6148914691236517205 + bits .and .u64 x 6148914691236517205)
def p2 (x : Int) : Int := IntKind.u64.wrap (bits .and .u64 (x / 4) 3689348814741910323 + bits .and .u64 x 3689348814741910323)
def p3 (x : Int) : Int := bits .and .u64 (IntKind.u64.wrap (x / 16 + x)) 1085102592571150095
def p4 (x : Int) : Int := IntKind.u64.wrap (x + x / 256)
def p5 (x : Int) : Int := IntKind.u64.wrap (x + x / 65536)
def p6 (x : Int) : Int := IntKind.u64.wrap (x + x / 4294967296)
def p7 (x : Int) : Int := bits .and .i64 (wrap64 x) 127
theorem pop_fact : ∀ m : Fin 512, p7 (p6 (p5 (p4 (p3 (p2 (p1 ((m.val &&& 510 : Nat) : Int))))))) = (cn m.val : Int) := by decide +kernel
theorem OC64 (x : Int) (w : World) : Calls Try.prog 150 #[.int .u64 x] w fun e w' => e = .returned (.int .i64 (p7 (p6 (p5 (p4 (p3 (p2 (p1 x)))))))) ∧ w' = w := by
    go_enter Try.func150, Try.ntmps150
    go_wp2
    go_ret
    refine ⟨?_, rfl⟩
    unfold p7 p6 p5 p4 p3 p2 p1
    rfl
theorem OC (x : Int) (w : World) : Calls Try.prog 147 #[.int .u64 x] w fun e w' => e = .returned (.int .i64 (p7 (p6 (p5 (p4 (p3 (p2 (p1 x)))))))) ∧ w' = w := by
    have H := OC64 x w
    generalize p7 (p6 (p5 (p4 (p3 (p2 (p1 x)))))) = r at H ⊢
    go_enter Try.func147, Try.ntmps147
    go_wp2_with (go_at_call 150; refine H.mono ?_; rintro e w' ⟨rfl, rfl⟩)
    go_ret
    exact ⟨rfl, rfl⟩
theorem Count (c : Int) (w : World) : Calls Try.prog 139 #[.int .i64 c] w fun e w' => e = .returned (.int .i64 (cn (lo c))) ∧ w' = w := by
    have h : IntKind.u64.wrap (bits .and .i64 c 510) = ((lo c &&& 510 : Nat) : Int) := by
      rw [show bits .and .i64 c 510 = ((lo c &&& 510 : Nat) : Int) from and_lo c 510 (by omega), IntKind.wrap_u64]
      have : lo c &&& 510 ≤ 510 := Nat.and_le_right
      omega
    have H := OC (IntKind.u64.wrap (bits .and .i64 c 510)) w
    rw [h, pop_fact ⟨lo c, lo_lt c⟩, ← h] at H
    clear h
    generalize (cn (lo c) : Int) = r at H ⊢
    go_enter Try.func139, Try.ntmps139
    go_wp2_with (go_at_call 147; refine H.mono ?_; rintro e w' ⟨rfl, rfl⟩)
    go_ret
    exact ⟨rfl, rfl⟩
end Go.Proofs.Ytajhpnfpjickbaa.Cr
namespace Go.Proofs.Ytajhpnfpjickbaa.Cr
open Go.RowKit
theorem has_nat (c : Int) (k : Nat) : has c k = hs (lo c) k := by
  by_cases h : 1 ≤ k ∧ k ≤ 8
  · rw [has, show node k = true by simp [node]; omega, Bool.true_and, Int.toNat_natCast]
  · have : hs (lo c) k = false := by rw [Bool.eq_false_iff]; intro e; exact h (hs_pos e)
    rw [this, has, show node k = false by simp [node]; omega, Bool.false_and]
theorem lsk_len (m : Nat) : ∀ k, (lsk m k).length ≤ k
  | 0 => by simp [lsk]
  | k + 1 => by
    have := lsk_len m k
    unfold lsk
    split
    · simp; omega
    · omega
theorem Own.alloc {w : World} {v : Value} {l : List Int} (h : Own w v l) (o : Obj) : Own (w.alloc o) v l := h.mod ((Mod.refl (fun _ => False) w).alloc o) fun _ _ h => h
/-- New: in blocks that were not there. -/
def New (w : World) (v : Value) : Prop := ∀ g, v.ownBlock = some g → w.heap.size ≤ g
theorem Own.one {w wr w1 : World} {g cap : Nat} {v' : Value} {l' : List Int} {c : Int} {t : TypeId} (hm : Mod (fun _ => False) w wr) (hv : New w v')
    (hown : w1.ownsRow 0 3 1 (.slice (some ⟨g, 0, none⟩) (l'.length + 1) cap) (l'.length + 1) (U l' ++ [.int .i64 c]))
    (hgrow : (wr.alloc (.cells #[.int .i64 c] t)).grownBy w1 v'.ownBlock) (hg : v'.ownBlock = some g ∨ g = wr.heap.size + 1) :
    Own w1 (.slice (some ⟨g, 0, none⟩) (l'.length + 1) cap) (l' ++ [c]) ∧ Mod (fun _ => False) w w1 ∧ New w (Value.slice (some ⟨g, 0, none⟩) (l'.length + 1) cap) := by
  refine ⟨?_, (hm.alloc _).grown hgrow (fun k hk hlt => by have := hv k hk; omega), ?_⟩
  · unfold Own
    rw [U_app]
    simpa [U] using hown
  · intro g' hg'
    simp only [Value.ownBlock, Option.some.injEq] at hg'
    subst hg'
    rcases hg with h | h
    · exact hv _ h
    · have := hm.size
      omega
theorem List12 (c : Int) (w : World) : Calls Try.prog 142 #[.int .i64 c] w fun e w' => ∃ v, e = .returned v ∧ Own w' v (ls (lo c)) ∧ Mod (fun _ => False) w w' ∧ New w v := by
  obtain ⟨i0, hi, hz0, hz1, hz2⟩ := info_parts info3
  have H := fun k : Nat => Has c k
  simp only [has_nat c] at H
  have HS : Hid (ls (lo c) = lsk (lo c) 9) := rfl
  have H1 : Hid (lsk (lo c) 1 = []) := rfl
  generalize lo c = m at H HS H1 ⊢
  generalize ls m = L at HS ⊢
  go_enter Try.func142, Try.ntmps142
  go_wp2
  go_loopw [3, 5] (fun s i wr => ∃ k : Nat, i = .int .i64 k ∧ k ≤ 9 ∧ Hid (Own wr s (lsk m k)) ∧ Hid (Mod (fun _ => False) w wr) ∧ Hid (New w s)) (fun _ i _ => 9 - (intOf i).toNat)
  case atStart => exact ⟨0, rfl, by omega, by show Own _ _ _; exact Own.nil _, Mod.refl _ _, by intro g hg; simp [Value.ownBlock] at hg⟩
  case round =>
    obtain ⟨k, rfl, hk, hown, hmod, hnew⟩ := hrel
    clear H1
    by_cases hlt : k < 9
    · have hi9 : (k : Int) < 9 := by omega
      have hi8 : (k : Int) ≤ 8 := by omega
      have HK := H k wr
      clear H HS
      cases hh : hs m k with
      | true =>
        rw [hh] at HK
        have hl : Hid (lsk m (k + 1) = lsk m k ++ [(k : Int)]) := by rw [Hid, lsk, if_pos hh]
        have hll : Hid ((lsk m k).length ≤ 9) := by have := lsk_len m k; exact Nat.le_trans this hk
        clear hh
        generalize lsk m k = l1 at hl hown hll
        go_wp2_with (first | (go_at_call 138; refine HK.mono ?_; rintro e w' ⟨rfl, rfl⟩) | (at_builtin; refine wpList_append_lies _ rfl _ _ 65 rfl 0 3 i0 (.int .i64 0) 1 8 Try.underlying65 hi hz0 hz1 hz2 rfl (by decide) u3 l1.length (U l1) rfl (hown.out.alloc _) ⟨w'.heap.size, 0, none⟩ 1 1 [.int .i64 (k : Int)] rfl rfl (app1 _ _ _) (U_one [(k : Int)]) (by omega) (by have := hll.out; simp only [maxLen]; omega) (by have := hll.out; omega) (Nat.zero_le _) (w'.heap.size + 1) (by simp) ?_; intro g cap1 w3 hown1 hgrow hg hlt))
        have R := Own.one hmod.out hnew.out hown1 hgrow hg
        go_roundw
        case rel => exact ⟨k + 1, by go_num, by omega, by show Own _ _ _; rw [hl.out]; exact R.1, R.2.1, R.2.2⟩
        case measure => simp [intOf]; omega
      | false =>
        rw [hh] at HK
        have hl : Hid (lsk m (k + 1) = lsk m k) := by rw [Hid, lsk, hh]; rfl
        clear hh
        go_wp2_with (go_at_call 138; refine HK.mono ?_; rintro e w' ⟨rfl, rfl⟩)
        go_roundw
        case rel => exact ⟨k + 1, by go_num, by omega, by show Own _ _ _; rw [hl.out]; exact hown, hmod, hnew⟩
        case measure => simp [intOf]; omega
    · obtain rfl : k = 9 := by omega
      clear H
      go_wp2
      go_ret
      exact ⟨_, rfl, by rw [HS.out]; exact hown.out, hmod.out, hnew.out⟩
/-- What Of answers: the number, and the error. -/
def ofx (l : List Int) : Nat := (off 0 l).getD 0
def ofe (l : List Int) : Int := if (off 0 l).isSome then 0 else 2
end Go.Proofs.Ytajhpnfpjickbaa.Cr
