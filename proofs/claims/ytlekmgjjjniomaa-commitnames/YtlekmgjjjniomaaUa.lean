/- Contracts of crew's calls and of mark's, the program's and the document's; commit's small functions. Conditions: lists of at most 2^47 bytes. -/
import Derived.Test.YtlekmgjjjniomaaNb
import Derived.Test.YtlekmgjjjniomaaNc
import Derived.Test.YtlekmgjjjniomaaNd
import Derived.Test.YtlekmgjjjniomaaWi
import Derived.Deep.QuietTactic
import Derived.BigQuiet
import Derived.Deep.RegionHeld3
import Derived.Lib.MinMax
import Derived.Laws.Cover1
namespace Go.Proofs.Ytlekmgjjjniomaa.Cr
open Go.RowKit
theorem bit (n : Nat) (w : World) (hn : n ≤ 8) : Calls Try.prog 76 #[.int .i64 n] w fun e w' => e = .returned (.int .i64 ((2 ^ n : Nat) : Int)) ∧ w' = w := by
  go_enter Try.func76, Try.ntmps76
  go_wp2
  go_loopw [3, 4] (fun o i wr => ∃ k p : Nat, i = .int .i64 k ∧ o = .int .i64 p ∧ k ≤ n ∧ Hid (p = 2 ^ k) ∧ p ≤ 256 ∧ wr = w) (fun _ i _ => n - (intOf i).toNat)
  case atStart => exact ⟨0, 1, rfl, rfl, by omega, rfl, by omega, rfl⟩
  case round =>
    obtain ⟨k, p, rfl, rfl, hk, hp, hpl, rfl⟩ := hrel
    by_cases hlt : k < n
    · have hi : (k : Int) < (n : Int) := by omega
      have hp2 : p * 2 ≤ 256 := by
        have h := hp.out
        have : 2 ^ (k + 1) ≤ 2 ^ 8 := Nat.pow_le_pow_right (by omega) (by omega)
        rw [Nat.pow_succ, ← h] at this
        omega
      go_wp2
      go_roundw
      case rel => exact ⟨k + 1, p * 2, by go_num, by go_num, by omega, by have := hp.out; subst this; exact (Nat.pow_succ ..).symm, hp2, trivial⟩
      case measure => simp [intOf]; omega
    · obtain rfl : k = n := by omega
      have HP : Hid (p = 2 ^ k) := hp
      clear hp
      go_wp2
      go_ret
      exact ⟨by rw [HP.out]; rfl, rfl⟩
theorem RHas (c n : Int) (w : World) : Calls Try.prog 60 #[.int .i64 c, .int .i64 n] w fun e w' => e = .returned (.bool (has c n)) ∧ w' = w := by
  by_cases h1 : 1 ≤ n
  · by_cases h2 : n ≤ 8
    · obtain ⟨k, rfl⟩ : ∃ k : Nat, n = k := ⟨n.toNat, by omega⟩
      have e := and_bit c k h1 (by omega)
      have H := bit k w (by omega)
      have E : Hid ((bits .and .i64 c ((2 ^ k : Nat) : Int) != 0) = has c k) := by
        rw [Int.toNat_natCast] at e
        rw [Hid, e, has, show node k = true by simp [node]; omega, Bool.true_and, Int.toNat_natCast]
      clear e
      generalize has c k = r at E ⊢
      generalize 2 ^ k = q at E H
      go_enter Try.func60, Try.ntmps60
      go_wp2_with (go_at_call 76; refine H.mono ?_; rintro e w' ⟨rfl, rfl⟩)
      go_ret
      refine ⟨?_, rfl⟩
      rw [← E.out]
      rfl
    · have e : has c n = false := by simp [has, node]; omega
      rw [e]
      clear e
      have h2' : 8 < n := by omega
      clear h2
      go_enter Try.func60, Try.ntmps60
      go_wp2
      go_ret
      exact ⟨rfl, rfl⟩
  · have e : has c n = false := by simp [has, node]; omega
    rw [e]
    clear e
    have h2 : n < 1 := by omega
    clear h1
    go_enter Try.func60, Try.ntmps60
    go_wp2
    go_ret
    exact ⟨rfl, rfl⟩
theorem info3 : (Try.prog.info? 3).map (fun i => (i.zero, i.size, i.bytes)) = some (some (.int .i64 0), 1, 8) := by kernel_rfl
theorem add_at (b off j : Nat) : (⟨b, off, none⟩ : Addr).add j = ⟨b, off + j, none⟩ := by
  unfold Addr.add
  by_cases h : j = 0 <;> simp [h]
/-- The cells of a slice that reads as l, in the form that append asks. -/
theorem cells_of {w : World} {b off : Nat} {l : List Int} (hc : ∀ j, j < l.length → w.cell? ⟨b, off + j, none⟩ = some (.int .i64 (l.getD j 0))) : ∀ j u, (U l)[j]? = some u → w.cell? ((⟨b, off, none⟩ : Addr).add j) = some u := by
  intro j u hu
  have hj : j < l.length := by
    rcases Nat.lt_or_ge j l.length with h | h
    · exact h
    · rw [List.getElem?_eq_none (by rw [U_len]; exact h)] at hu; cases hu
  rw [U_get l j hj] at hu
  cases hu
  rw [add_at]
  exact hc j hj
/-- One int that was just laid. -/
theorem app1 (w : World) (c : Int) (t : TypeId) : ∀ j u, [Value.int .i64 c][j]? = some u → (w.alloc (.cells #[.int .i64 c] t)).cell? ((⟨w.heap.size, 0, none⟩ : Addr).add j) = some u := by
  intro j u hj
  match j, hj with
  | 0, hj => simp at hj; subst hj; simp [Addr.add]
  | j + 1, hj => simp at hj
theorem has_nat (c : Int) (k : Nat) : has c k = hs (lo c) k := by
  by_cases h : 1 ≤ k ∧ k ≤ 8
  · rw [has, show node k = true by simp [node]; omega, Bool.true_and, Int.toNat_natCast]
  · have : hs (lo c) k = false := by rw [Bool.eq_false_iff]; intro e; exact h (hs_pos e)
    rw [this, has, show node k = false by simp [node]; omega, Bool.false_and]
theorem lsk_len (m : Nat) : ∀ k, (lsk m k).length ≤ k
  | 0 => by simp [lsk]
  | k + 1 => by
    have := lsk_len m k
    unfold lsk
    split
    · simp; omega
    · omega
theorem Own.alloc {w : World} {v : Value} {l : List Int} (h : Own w v l) (o : Obj) : Own (w.alloc o) v l := h.mod ((Mod.refl (fun _ => False) w).alloc o) fun _ _ h => h
/-- New: in blocks that were not there. -/
def New (w : World) (v : Value) : Prop := ∀ g, v.ownBlock = some g → w.heap.size ≤ g
theorem Own.one {w wr w1 : World} {g cap : Nat} {v' : Value} {l' : List Int} {c : Int} {t : TypeId} (hm : Mod (fun _ => False) w wr) (hv : New w v')
    (hown : w1.ownsRow 0 3 1 (.slice (some ⟨g, 0, none⟩) (l'.length + 1) cap) (l'.length + 1) (U l' ++ [.int .i64 c]))
    (hgrow : (wr.alloc (.cells #[.int .i64 c] t)).grownBy w1 v'.ownBlock) (hg : v'.ownBlock = some g ∨ g = wr.heap.size + 1) :
    Own w1 (.slice (some ⟨g, 0, none⟩) (l'.length + 1) cap) (l' ++ [c]) ∧ Mod (fun _ => False) w w1 ∧ New w (Value.slice (some ⟨g, 0, none⟩) (l'.length + 1) cap) := by
  refine ⟨?_, (hm.alloc _).grown hgrow (fun k hk hlt => by have := hv k hk; omega), ?_⟩
  · unfold Own
    rw [U_app]
    simpa [U] using hown
  · intro g' hg'
    simp only [Value.ownBlock, Option.some.injEq] at hg'
    subst hg'
    rcases hg with h | h
    · exact hv _ h
    · have := hm.size
      omega
theorem List12 (c : Int) (w : World) : Calls Try.prog 25 #[.int .i64 c] w fun e w' => ∃ v, e = .returned v ∧ Own w' v (ls (lo c)) ∧ Mod (fun _ => False) w w' ∧ New w v := by
  obtain ⟨i0, hi, hz0, hz1, hz2⟩ := info_parts info3
  have H := fun k : Nat => Has c k
  simp only [has_nat c] at H
  have HS : Hid (ls (lo c) = lsk (lo c) 9) := rfl
  have H1 : Hid (lsk (lo c) 1 = []) := rfl
  generalize lo c = m at H HS H1 ⊢
  generalize ls m = L at HS ⊢
  go_enter Try.func25, Try.ntmps25
  go_wp2
  go_loopw [3, 5] (fun s i wr => ∃ k : Nat, i = .int .i64 k ∧ k ≤ 9 ∧ Hid (Own wr s (lsk m k)) ∧ Hid (Mod (fun _ => False) w wr) ∧ Hid (New w s)) (fun _ i _ => 9 - (intOf i).toNat)
  case atStart => exact ⟨0, rfl, by omega, by show Own _ _ _; exact Own.nil _, Mod.refl _ _, by intro g hg; simp [Value.ownBlock] at hg⟩
  case round =>
    obtain ⟨k, rfl, hk, hown, hmod, hnew⟩ := hrel
    clear H1
    by_cases hlt : k < 9
    · have hi9 : (k : Int) < 9 := by omega
      have hi8 : (k : Int) ≤ 8 := by omega
      have HK := H k wr
      clear H HS
      cases hh : hs m k with
      | true =>
        rw [hh] at HK
        have hl : Hid (lsk m (k + 1) = lsk m k ++ [(k : Int)]) := by rw [Hid, lsk, if_pos hh]
        have hll : Hid ((lsk m k).length ≤ 9) := by have := lsk_len m k; exact Nat.le_trans this hk
        clear hh
        generalize lsk m k = l1 at hl hown hll
        go_wp2_with (first | (go_at_call 27; refine HK.mono ?_; rintro e w' ⟨rfl, rfl⟩) | (at_builtin; refine wpList_append_lies _ rfl _ _ 44 rfl 0 3 i0 (.int .i64 0) 1 8 Try.underlying44 hi hz0 hz1 hz2 rfl (by decide) u3 l1.length (U l1) rfl (hown.out.alloc _) ⟨w'.heap.size, 0, none⟩ 1 1 [.int .i64 (k : Int)] rfl rfl (app1 _ _ _) (U_one [(k : Int)]) (by omega) (by have := hll.out; simp only [maxLen]; omega) (by have := hll.out; omega) (Nat.zero_le _) (w'.heap.size + 1) (by simp) ?_; intro g cap1 w3 hown1 hgrow hg hlt))
        have R := Own.one hmod.out hnew.out hown1 hgrow hg
        go_roundw
        case rel => exact ⟨k + 1, by go_num, by omega, by show Own _ _ _; rw [hl.out]; exact R.1, R.2.1, R.2.2⟩
        case measure => simp [intOf]; omega
      | false =>
        rw [hh] at HK
        have hl : Hid (lsk m (k + 1) = lsk m k) := by rw [Hid, lsk, hh]; rfl
        clear hh
        go_wp2_with (go_at_call 27; refine HK.mono ?_; rintro e w' ⟨rfl, rfl⟩)
        go_roundw
        case rel => exact ⟨k + 1, by go_num, by omega, by show Own _ _ _; rw [hl.out]; exact hown, hmod, hnew⟩
        case measure => simp [intOf]; omega
    · obtain rfl : k = 9 := by omega
      clear H
      go_wp2
      go_ret
      exact ⟨_, rfl, by rw [HS.out]; exact hown.out, hmod.out, hnew.out⟩
theorem RList (c : Int) (w : World) : Calls Try.prog 49 #[.int .i64 c] w fun e w' => ∃ v, e = .returned v ∧ Own w' v (ls (lo c)) ∧ Mod (fun _ => False) w w' ∧ New w v := by
  obtain ⟨i0, hi, hz0, hz1, hz2⟩ := info_parts info3
  have H := fun k : Nat => RHas c k
  simp only [has_nat c] at H
  have HS : Hid (ls (lo c) = lsk (lo c) 9) := rfl
  have H1 : Hid (lsk (lo c) 1 = []) := rfl
  generalize lo c = m at H HS H1 ⊢
  generalize ls m = L at HS ⊢
  go_enter Try.func49, Try.ntmps49
  go_wp2
  go_loopw [3, 4] (fun s i wr => ∃ k : Nat, i = .int .i64 k ∧ k ≤ 9 ∧ Hid (Own wr s (lsk m k)) ∧ Hid (Mod (fun _ => False) w wr) ∧ Hid (New w s)) (fun _ i _ => 9 - (intOf i).toNat)
  case atStart => exact ⟨1, rfl, by omega, by show Own _ _ _; rw [H1.out]; exact Own.nil _, Mod.refl _ _, by intro g hg; simp [Value.ownBlock] at hg⟩
  case round =>
    obtain ⟨k, rfl, hk, hown, hmod, hnew⟩ := hrel
    clear H1
    by_cases hlt : k < 9
    · have hi9 : (k : Int) < 9 := by omega
      have hi8 : (k : Int) ≤ 8 := by omega
      have HK := H k wr
      clear H HS
      cases hh : hs m k with
      | true =>
        rw [hh] at HK
        have hl : Hid (lsk m (k + 1) = lsk m k ++ [(k : Int)]) := by rw [Hid, lsk, if_pos hh]
        have hll : Hid ((lsk m k).length ≤ 9) := by have := lsk_len m k; exact Nat.le_trans this hk
        clear hh
        generalize lsk m k = l1 at hl hown hll
        go_wp2_with (first | (go_at_call 60; refine HK.mono ?_; rintro e w' ⟨rfl, rfl⟩) | (at_builtin; refine wpList_append_lies _ rfl _ _ 44 rfl 0 3 i0 (.int .i64 0) 1 8 Try.underlying44 hi hz0 hz1 hz2 rfl (by decide) u3 l1.length (U l1) rfl (hown.out.alloc _) ⟨w'.heap.size, 0, none⟩ 1 1 [.int .i64 (k : Int)] rfl rfl (app1 _ _ _) (U_one [(k : Int)]) (by omega) (by have := hll.out; simp only [maxLen]; omega) (by have := hll.out; omega) (Nat.zero_le _) (w'.heap.size + 1) (by simp) ?_; intro g cap1 w3 hown1 hgrow hg hlt))
        have R := Own.one hmod.out hnew.out hown1 hgrow hg
        go_roundw
        case rel => exact ⟨k + 1, by go_num, by omega, by show Own _ _ _; rw [hl.out]; exact R.1, R.2.1, R.2.2⟩
        case measure => simp [intOf]; omega
      | false =>
        rw [hh] at HK
        have hl : Hid (lsk m (k + 1) = lsk m k) := by rw [Hid, lsk, hh]; rfl
        clear hh
        go_wp2_with (go_at_call 60; refine HK.mono ?_; rintro e w' ⟨rfl, rfl⟩)
        go_roundw
        case rel => exact ⟨k + 1, by go_num, by omega, by show Own _ _ _; rw [hl.out]; exact hown, hmod, hnew⟩
        case measure => simp [intOf]; omega
    · obtain rfl : k = 9 := by omega
      clear H
      go_wp2
      go_ret
      exact ⟨_, rfl, by rw [HS.out]; exact hown.out, hmod.out, hnew.out⟩
/-- What Of answers: the number, and the error. -/
def ofx (l : List Int) : Nat := (off 0 l).getD 0
def ofe (l : List Int) : Int := if (off 0 l).isSome then 0 else 2
theorem drop_getD (l : List Int) (k : Nat) (h : k < l.length) : l.drop k = l.getD k 0 :: l.drop (k + 1) := by
  rw [List.drop_eq_getElem_cons h]
  simp [h]
theorem two_lt {x : Int} (h : node x = true) : 2 ^ x.toNat < 512 := by
  have hn : 1 ≤ x ∧ x < 9 := by simpa [node] using h
  have : 2 ^ x.toNat ≤ 2 ^ 8 := Nat.pow_le_pow_right (by omega) (by omega)
  omega
theorem two_wrap {x : Int} (h : node x = true) : wrap64 (2 ^ x.toNat) = ((2 ^ x.toNat : Nat) : Int) := by
  have hn : 1 ≤ x ∧ x < 9 := by simpa [node] using h
  obtain ⟨k, hk⟩ : ∃ k, k = x.toNat := ⟨_, rfl⟩
  rw [← hk]
  have : k = 1 ∨ k = 2 ∨ k = 3 ∨ k = 4 ∨ k = 5 ∨ k = 6 ∨ k = 7 ∨ k = 8 := by omega
  rcases this with rfl | rfl | rfl | rfl | rfl | rfl | rfl | rfl <;> decide +kernel
theorem ROf_empty (a : Option Addr) (cap : Nat) (w : World) : Calls Try.prog 65 #[.slice a 0 cap] w fun e w' => e = .returned (.tuple #[.int .i64 0, .int .i64 0]) ∧ w' = w := by
  go_enter Try.func65, Try.ntmps65
  go_wp2
  go_loopw [4, 5] (fun c i wr => c = .int .i64 0 ∧ i = .int .i64 0 ∧ wr = w) (fun _ _ _ => 0)
  case atStart => exact ⟨rfl, rfl, rfl⟩
  case round =>
    obtain ⟨rfl, rfl, rfl⟩ := hrel
    go_wp2
    go_ret2
    exact ⟨rfl, rfl⟩
theorem off_has {a : Nat} {x : Int} (ha : a < 512) (hx : node x = true) (h : hs a x.toNat = true) : a ||| 2 ^ x.toNat = a := by
  have hn : 1 ≤ x ∧ x < 9 := by simpa [node] using hx
  exact (or_has ⟨a, ha⟩ ⟨x.toNat, by omega⟩ (by show x.toNat ≠ 0; omega) h).symm
theorem off_add {a : Nat} {x : Int} (ha : a < 512) (hx : node x = true) (h : hs a x.toNat = false) : a ||| 2 ^ x.toNat = a + 2 ^ x.toNat := by
  have hn : 1 ≤ x ∧ x < 9 := by simpa [node] using hx
  exact (add_or ⟨a, ha⟩ ⟨x.toNat, by omega⟩ (by show x.toNat ≠ 0; omega) h).symm
theorem lo_nat {a : Nat} (h : a < 512) : lo (a : Int) = a := by unfold lo; omega
theorem ROf_some (b o cap : Nat) (l : List Int) (w : World) (hmax : l.length ≤ 9223372036854775807)
   (hc : ∀ j, j < l.length → w.cell? ⟨b, o + j, none⟩ = some (.int .i64 (l.getD j 0))) :
    Calls Try.prog 65 #[.slice (some ⟨b, o, none⟩) l.length cap] w fun e w' => e = .returned (.tuple #[.int .i64 (ofx l), .int .i64 (ofe l)]) ∧ w' = w := by
  have HX : Hid (off 0 l = off 0 (l.drop 0)) := rfl
  obtain ⟨n, hn⟩ : ∃ n, n = l.length := ⟨_, rfl⟩
  rw [← hn] at hmax hc ⊢
  have HN : Hid (n = l.length) := hn
  clear hn
  have HR : Hid (ofx l = (off 0 l).getD 0 ∧ ofe l = if (off 0 l).isSome then 0 else 2) := ⟨rfl, rfl⟩
  generalize ofx l = rx at HR ⊢
  generalize ofe l = re at HR ⊢
  go_enter Try.func65, Try.ntmps65
  go_wp2
  go_loopw [4, 5] (fun c i wr => ∃ k a : Nat, c = .int .i64 a ∧ i = .int .i64 k ∧ k ≤ n ∧ a < 512 ∧ Hid (off 0 l = off a (l.drop k)) ∧ wr = w) (fun _ i _ => n - (intOf i).toNat)
  case atStart => exact ⟨0, 0, rfl, rfl, by omega, by omega, HX, rfl⟩
  case round =>
    obtain ⟨k, a, rfl, rfl, hk, ha, ho, rfl⟩ := hrel
    clear HX
    by_cases hlt : k < n
    · have hi : (k : Int) < (n : Int) := by omega
      have h1 := hc k hlt
      have hd : Hid (l.drop k = l.getD k 0 :: l.drop (k + 1)) := drop_getD l k (by rw [← HN.out]; exact hlt)
      generalize l.getD k 0 = x at h1 hd
      cases hh : node x with
      | true =>
        have ho2 : Hid (off 0 l = off (a ||| 2 ^ x.toNat) (l.drop (k + 1))) := by rw [Hid, ho.out, hd.out, off, if_pos hh]
        have hn : 1 ≤ x ∧ x < 9 := by simpa [node] using hh
        have hx1 := hn.1
        have hx2 : x ≤ 8 := by omega
        have HK := RHas a x wr
        have HB := bit x.toNat wr (by omega)
        rw [Int.toNat_of_nonneg (by omega)] at HB
        have he : has a x = hs a x.toNat := by rw [has, hh, Bool.true_and, lo_nat ha]
        rw [he] at HK
        have h2 := two_lt hh
        clear hc HR hd ho hn he
        cases hv : hs a x.toNat with
        | true =>
          have e := off_has ha hh hv
          rw [e] at ho2
          rw [hv] at HK
          clear hh e hv HB
          go_wp2_with (go_at_call 60; refine HK.mono ?_; rintro e w' ⟨rfl, rfl⟩)
          go_roundw
          case rel => exact ⟨k + 1, a, rfl, by go_num, by omega, ha, ho2, trivial⟩
          case measure => simp [intOf]; omega
        | false =>
          have e := off_add ha hh hv
          rw [e] at ho2
          have ho3 : a ||| 2 ^ x.toNat < 512 := Nat.or_lt_two_pow (n := 9) (by omega) h2
          rw [e] at ho3
          rw [hv] at HK
          clear hh e hv
          generalize 2 ^ x.toNat = p at ho2 ho3 h2 HB
          go_wp2_with (first | (go_at_call 60; refine HK.mono ?_; rintro e w' ⟨rfl, rfl⟩) | (go_at_call 76; refine HB.mono ?_; rintro e w' ⟨rfl, rfl⟩))
          go_roundw
          case rel => exact ⟨k + 1, a + p, by go_num, by go_num, by omega, ho3, ho2, trivial⟩
          case measure => simp [intOf]; omega
      | false =>
        have hr : Hid (rx = 0 ∧ re = 2) := by
          have h : off 0 l = none := by rw [ho.out, hd.out, off, hh]; rfl
          have := HR.out
          rw [h] at this
          exact this
        have hx : x < 1 ∨ (1 ≤ x ∧ 8 < x) := by simp [node] at hh; omega
        clear hc HR hd ho hh
        rcases hx with hx | ⟨hx, hx2⟩
        · go_wp2
          go_ret2
          exact ⟨by rw [hr.out.1, hr.out.2]; rfl, rfl⟩
        · go_wp2
          go_ret2
          exact ⟨by rw [hr.out.1, hr.out.2]; rfl, rfl⟩
    · have hr : Hid (rx = a ∧ re = 0) := by
        have h : off 0 l = some a := by rw [ho.out, List.drop_of_length_le (by have := HN.out; omega), off]
        have := HR.out
        rw [h] at this
        exact this
      clear hc HR ho
      go_wp2
      go_ret2
      exact ⟨by rw [hr.out.1, hr.out.2]; rfl, rfl⟩
theorem ROf (v : Value) (l : List Int) (w : World) (hs : Sl w v l) : Calls Try.prog 65 #[v] w fun e w' => e = .returned (.tuple #[.int .i64 (ofx l), .int .i64 (ofe l)]) ∧ w' = w := by
  obtain ⟨ao, cap, rfl, h1, h2, h3, h4⟩ := hs
  by_cases hl : l = []
  · subst hl
    exact ROf_empty ao cap w
  · obtain ⟨b, off, rfl, hc⟩ := h4 hl
    exact ROf_some b off cap l w (by unfold maxLen at h2; omega) hc
theorem RCheck (c : Int) (w : World) : Calls Try.prog 48 #[.int .i64 c] w fun e w' => e = .returned (.int .i64 (chk c)) ∧ Mod (fun _ => False) w w' := by
  have H := RList c w
  have K := fun v w => ROf v (ls (lo c)) w
  have hx : ofx (ls (lo c)) = lo c &&& 510 := by rw [ofx, off_ls ⟨lo c, lo_lt c⟩]; rfl
  rw [hx] at K
  generalize ofe (ls (lo c)) = E at K
  have HC : Hid (chk c = if ((lo c &&& 510 : Nat) : Int) = c then 0 else 2) := rfl
  generalize chk c = C at HC ⊢
  generalize ls (lo c) = L at H K
  generalize lo c &&& 510 = x at K HC
  clear hx
  by_cases h : (x : Int) = c
  · have e : Hid (C = 0) := by have := HC.out; rw [if_pos h] at this; exact this
    subst h
    clear HC
    go_enter Try.func48, Try.ntmps48
    go_wp2_with (first | (go_at_call 49; refine H.mono ?_; rintro e w' ⟨v, rfl, ho, hm, hn⟩; have K2 := K v w' ho.sl; clear K) | (go_at_call 65; refine K2.mono ?_; rintro e w2 ⟨rfl, rfl⟩))
    go_ret
    exact ⟨by rw [e.out]; rfl, hm⟩
  · have e : Hid (C = 2) := by have := HC.out; rw [if_neg h] at this; exact this
    have hne : ((x : Int) != c) = true := by simpa using h
    clear HC h
    go_enter Try.func48, Try.ntmps48
    go_wp2_with (first | (go_at_call 49; refine H.mono ?_; rintro e w' ⟨v, rfl, ho, hm, hn⟩; have K2 := K v w' ho.sl; clear K) | (go_at_call 65; refine K2.mono ?_; rintro e w2 ⟨rfl, rfl⟩))
    go_ret
    exact ⟨by rw [e.out]; rfl, hm⟩
end Go.Proofs.Ytlekmgjjjniomaa.Cr
namespace Go.Proofs.Ytlekmgjjjniomaa
open Go.RowKit
/-- x brought to 0 .. m - 1. -/
def br (x m : Int) : Int := if x.tmod m < 0 then x.tmod m + m else x.tmod m
theorem br_rng (x : Int) (m : Nat) (h0 : 0 < m) : 0 ≤ br x m ∧ br x m < m ∧ -(m : Int) < x.tmod m ∧ x.tmod m < m := by
  have q1 : ¬ ((m : Int) = 0) := by omega
  have hb : -(m : Int) < x.tmod (m : Int) ∧ x.tmod (m : Int) < (m : Int) := by
    rcases (show 0 ≤ x ∨ x < 0 by omega) with h | h
    · rw [Int.tmod_eq_emod_of_nonneg h]
      have a1 := Int.emod_nonneg x q1
      have a2 := Int.emod_lt_of_pos x (show (0 : Int) < m by omega)
      omega
    · have e := Int.neg_tmod (-x) (m : Int)
      rw [Int.neg_neg, Int.tmod_eq_emod_of_nonneg (by omega : 0 ≤ -x)] at e
      rw [e]
      have a1 := Int.emod_nonneg (-x) q1
      have a2 := Int.emod_lt_of_pos (-x) (show (0 : Int) < m by omega)
      omega
  unfold br
  split <;> omega
theorem bring (x : Int) (m : Nat) (w : World) (h0 : 0 < m) (hm : m ≤ 1152921504606846976) (h : -9223372036854775808 ≤ x ∧ x ≤ 9223372036854775807) :
    Calls Try.prog 44 #[.int .i64 x, .int .i64 (m : Int)] w fun e w' => e = .returned (.int .i64 (br x m)) ∧ w' = w := by
  have q0 : ¬ ((m : Int) ≤ 0) := by omega
  have q1 : ¬ ((m : Int) = 0) := by omega
  have q2 : ((m : Int) == 0) = false := by simp; omega
  obtain ⟨_, _, b1, b2⟩ := br_rng x m h0
  unfold br
  generalize hr : x.tmod (m : Int) = r at b1 b2 ⊢
  obtain ⟨h1, h2⟩ := h
  by_cases hneg : r < 0
  · rw [if_pos hneg]
    go_enter Try.func44, Try.ntmps44
    go_wp2
    go_ret
    exact ⟨rfl, rfl⟩
  · rw [if_neg hneg]
    go_enter Try.func44, Try.ntmps44
    go_wp2
    go_ret
    exact ⟨rfl, rfl⟩
theorem Cr.Own.rng {w : World} {v : Value} {l : List Int} (h : Cr.Own w v l) : ∃ ao cap, v = .slice ao l.length cap ∧ l.length ≤ cap ∧ cap ≤ maxLen := by
  rcases h.2 with ⟨rfl, h0⟩ | ⟨g, cap, cur, rfl, _, _, hn, hc, _⟩
  · exact ⟨none, 0, by rw [h0], by omega, by simp [maxLen]⟩
  · exact ⟨_, cap, rfl, hn, hc⟩
theorem cell_one (w : World) (b : Nat) (u : Value) (h : w.cell? ⟨b, 0, none⟩ = some u) : ∀ j x, [u][j]? = some x → w.cell? ((⟨b, 0, none⟩ : Addr).add j) = some x := fun j x hj => by
  cases j with
  | zero => simp at hj; subst hj; simpa [Addr.add] using h
  | succ n => simp at hj
/-- A struct as a result through a cell. -/
theorem resT {t t' : TypeId} {n : Nat} {d : TypeDesc} (hi : (Try.prog.info? t).map (·.size) = some n) (hu : Try.prog.underlying t = some d) (hd : d.isRow = true) {fn : Func} {pp : Tmp} (h : fn.results = #[.cell pp t]) {tmps : Array Value} {w : World} {b : Nat} {xs : Array Value} (hp : tmps.getD pp undef = .pointer (some ⟨b, 0, none⟩)) (hb : Bk w b t' xs) (hs : xs.size = n) :
    (results fn tmps).run Try.prog w = .ok (.agg xs) w := by
  rw [results_cell1 h, hp]
  have hl := run_loadVar_mid (P := Try.prog) w b 0 t xs.toList _ hb.row hu hd (by rw [hi]; simp [hs])
  simp only [asAddr, Sem.run_pure, Result.andThen]
  rw [hl]
/-- .. and a number behind it. -/
theorem resT2 {t t' : TypeId} {n : Nat} {d : TypeDesc} (hi : (Try.prog.info? t).map (·.size) = some n) (hu : Try.prog.underlying t = some d) (hd : d.isRow = true) {fn : Func} {pp u : Tmp} (h : fn.results = #[.cell pp t, .tmp u]) {tmps : Array Value} {w : World} {b : Nat} {xs : Array Value} {v : Value} (hp : tmps.getD pp undef = .pointer (some ⟨b, 0, none⟩)) (hv : tmps.getD u undef = v) (hb : Bk w b t' xs) (hs : xs.size = n) :
    (results fn tmps).run Try.prog w = .ok (.tuple #[.agg xs, v]) w := by
  rw [results_cell_tmp h, hp, hv]
  have hl := run_loadVar_mid (P := Try.prog) w b 0 t xs.toList _ hb.row hu hd (by rw [hi]; simp [hs])
  simp only [asAddr, Sem.run_pure, Result.andThen]
  rw [hl]
theorem Mod.none {S : Nat → Prop} {a b : World} (h : Mod (fun _ => False) a b) : Mod S a b := h.mono fun _ _ h => h.elim
theorem Mod.and {a b c : World} (h : Mod (fun _ => False) a b) (k : Mod (fun _ => False) b c) : Mod (fun _ => False) a c := h.trans k (fun _ _ h => h) (fun _ _ h => h)
def I64 (x : Int) : Prop := -9223372036854775808 ≤ x ∧ x ≤ 9223372036854775807
/-- What may stand on the wire. -/
def nm (n : Int) : Bool := decide (0 ≤ n ∧ n ≤ 9007199254740991)
def nd (n : Int) : Bool := decide (1 ≤ n ∧ n ≤ 8)
theorem isNumber (n : Int) (w : World) : Calls Try.prog 66 #[.int .i64 n] w fun e w' => e = .returned (.bool (nm n)) ∧ w' = w := by
  have h : 0 ≤ n ∨ n < 0 := by omega
  rcases h with h | h
  all_goals
    go_enter Try.func66, Try.ntmps66
    go_wp2
    go_ret
    refine ⟨?_, rfl⟩
    simp [nm]
    try omega
theorem isNode (n : Int) (w : World) : Calls Try.prog 67 #[.int .i64 n] w fun e w' => e = .returned (.bool (nd n)) ∧ w' = w := by
  have h : 1 ≤ n ∨ n < 1 := by omega
  rcases h with h | h
  all_goals
    go_enter Try.func67, Try.ntmps67
    go_wp2
    go_ret
    refine ⟨?_, rfl⟩
    simp [nd]
    try omega
theorem number (n : Int) (w : World) : Calls Try.prog 79 #[.int .i64 n] w fun e w' => e = .returned (.bool (nm n)) ∧ w' = w := by
  have h : 0 ≤ n ∨ n < 0 := by omega
  rcases h with h | h
  all_goals
    go_enter Try.func79, Try.ntmps79
    go_wp2
    go_ret
    refine ⟨?_, rfl⟩
    simp [nm]
    try omega
/-- Which ring numbers may be. -/
def cr (q r : Int) : Int := if (q = 0 ∧ r = 0) ∨ (0 < q ∧ q ≤ 9007199254740991 ∧ 1 ≤ r ∧ r ≤ 8) then 0 else 2
theorem cr_zero {q r : Int} (h : q = 0 ∧ r = 0) : cr q r = 0 := by rw [cr, if_pos (.inl h)]
theorem cr_node {q r : Int} (h0 : ¬ (q = 0 ∧ r = 0)) (h1 : nm q = true) (h2 : 0 < q) : cr q r = if nd r = true then 0 else 2 := by
  simp only [nm, decide_eq_true_eq] at h1
  simp only [cr, nd, decide_eq_true_eq]
  simp [h0, h2, h1.2]
theorem cr_pos {q r : Int} (h0 : ¬ (q = 0 ∧ r = 0)) (h2 : ¬ 0 < q) : cr q r = 2 := by
  rw [cr, if_neg]
  rintro (h | h)
  · exact h0 h
  · exact h2 h.1
theorem cr_num {q r : Int} (h0 : ¬ (q = 0 ∧ r = 0)) (h1 : nm q = false) : cr q r = 2 := by
  rw [cr, if_neg]
  rintro (h | h)
  · exact h0 h
  · simp [nm] at h1
    omega
theorem CheckRing (q r : Int) (w : World) : Calls Try.prog 50 #[.agg #[.int .i64 q, .int .i64 r]] w fun e w' => e = .returned (.int .i64 (cr q r)) ∧ Mod (fun _ => False) w w' := by
  have HM : Mod (fun _ => False) w ((w.alloc (Obj.cells #[Value.int IntKind.i64 q, Value.int IntKind.i64 r] 23)).alloc
      (Obj.cells #[Value.int IntKind.i64 0, Value.int IntKind.i64 0] 23)) := ((Mod.refl _ _).alloc _).alloc _
  have H := isNumber q
  have N := isNode r
  by_cases h0 : q = 0 ∧ r = 0
  · rw [cr_zero h0]
    obtain ⟨rfl, rfl⟩ := h0
    go_enter Try.func50, Try.ntmps50
    go_wp2
    go_ret
    exact ⟨rfl, HM⟩
  · cases h1 : nm q with
    | false =>
      rw [cr_num h0 h1]
      rw [h1] at H
      have hq : ¬ q = 0 := by rintro rfl; exact absurd h1 (by decide)
      clear h1 h0
      go_enter Try.func50, Try.ntmps50
      go_wp2_with (fail)
      refine (H _).mono ?_
      rintro e w' ⟨rfl, rfl⟩
      go_wp2
      go_ret
      exact ⟨rfl, HM⟩
    | true =>
      by_cases h2 : 0 < q
      · rw [cr_node h0 h1 h2]
        rw [h1] at H
        clear h1
        cases h3 : nd r with
        | false =>
          rw [h3] at N
          rw [if_neg (by decide)]
          clear h3
          go_enter Try.func50, Try.ntmps50
          go_wp2_with (fail)
          refine (H _).mono ?_
          rintro e w' ⟨rfl, rfl⟩
          go_wp2_with (fail)
          refine (N _).mono ?_
          rintro e w' ⟨rfl, rfl⟩
          go_wp2
          go_ret
          exact ⟨rfl, HM⟩
        | true =>
          rw [h3] at N
          rw [if_pos rfl]
          clear h3
          go_enter Try.func50, Try.ntmps50
          go_wp2_with (fail)
          refine (H _).mono ?_
          rintro e w' ⟨rfl, rfl⟩
          go_wp2_with (fail)
          refine (N _).mono ?_
          rintro e w' ⟨rfl, rfl⟩
          go_wp2
          go_ret
          exact ⟨rfl, HM⟩
      · rw [cr_pos h0 h2]
        rw [h1] at H
        have hq : q = 0 := by simp [nm] at h1; omega
        subst hq
        have hr : ¬ r = 0 := fun h => h0 ⟨rfl, h⟩
        clear h1 h2 h0
        go_enter Try.func50, Try.ntmps50
        go_wp2_with (fail)
        refine (H _).mono ?_
        rintro e w' ⟨rfl, rfl⟩
        go_wp2
        go_ret
        exact ⟨rfl, HM⟩
theorem RCheckRing (q r : Int) (w : World) : Calls Try.prog 71 #[.agg #[.int .i64 q, .int .i64 r]] w fun e w' => e = .returned (.int .i64 (cr q r)) ∧ Mod (fun _ => False) w w' := by
  have HM : Mod (fun _ => False) w (w.alloc (Obj.cells #[Value.int IntKind.i64 q, Value.int IntKind.i64 r] 23)) := (Mod.refl _ _).alloc _
  have H := number q
  by_cases h0 : q = 0 ∧ r = 0
  · rw [cr_zero h0]
    obtain ⟨rfl, rfl⟩ := h0
    go_enter Try.func71, Try.ntmps71
    go_wp2_with (go_at_call 79; refine (H _).mono ?_; rintro e w' ⟨rfl, rfl⟩)
    go_ret
    exact ⟨rfl, HM⟩
  · rcases (show (q = 0 ∧ ¬ r = 0) ∨ ¬ q = 0 by omega) with ⟨hq, hr⟩ | hq
    · rw [cr_pos h0 (by omega)]
      subst hq
      clear h0
      go_enter Try.func71, Try.ntmps71
      go_wp2_with (go_at_call 79; refine (H _).mono ?_; rintro e w' ⟨rfl, rfl⟩)
      go_ret
      exact ⟨rfl, HM⟩
    · by_cases h2 : 0 < q
      · cases h1 : nm q with
        | false =>
          rw [cr_num h0 h1]
          rw [h1] at H
          clear h1 h0
          go_enter Try.func71, Try.ntmps71
          go_wp2_with (go_at_call 79; refine (H _).mono ?_; rintro e w' ⟨rfl, rfl⟩)
          go_ret
          exact ⟨rfl, HM⟩
        | true =>
          rw [cr_node h0 h1 h2]
          rw [h1] at H
          clear h1 h0
          rcases (show 1 ≤ r ∨ r < 1 by omega) with h3 | h3
          · rcases (show r ≤ 8 ∨ 8 < r by omega) with h4 | h4
            · rw [if_pos (by simp [nd]; omega)]
              go_enter Try.func71, Try.ntmps71
              go_wp2_with (go_at_call 79; refine (H _).mono ?_; rintro e w' ⟨rfl, rfl⟩)
              go_ret
              exact ⟨rfl, HM⟩
            · rw [if_neg (by simp [nd]; omega)]
              go_enter Try.func71, Try.ntmps71
              go_wp2_with (go_at_call 79; refine (H _).mono ?_; rintro e w' ⟨rfl, rfl⟩)
              go_ret
              exact ⟨rfl, HM⟩
          · rw [if_neg (by simp [nd]; omega)]
            go_enter Try.func71, Try.ntmps71
            go_wp2_with (go_at_call 79; refine (H _).mono ?_; rintro e w' ⟨rfl, rfl⟩)
            go_ret
            exact ⟨rfl, HM⟩
      · rw [cr_pos h0 h2]
        have h2' : q ≤ 0 := by omega
        clear h2 h0
        go_enter Try.func71, Try.ntmps71
        go_wp2_with (go_at_call 79; refine (H _).mono ?_; rintro e w' ⟨rfl, rfl⟩)
        go_ret
        exact ⟨rfl, HM⟩
theorem eqRing (q r q' r' : Int) (w : World) : (Op.equalIn 10000 23 (.agg #[.int .i64 q, .int .i64 r]) (.agg #[.int .i64 q', .int .i64 r'])).run Try.prog w = .ok (decide (q = q') && decide (r = r')) w := by
  by_cases h2 : q = q' <;> by_cases h3 : r = r' <;> simp [go_sem, h2, h3]
/-- A ring number that may be, and not none; a crew that is not empty. -/
def isr (q r : Int) : Bool := decide (¬ (q = 0 ∧ r = 0)) && (cr q r == 0)
def win (v a b : Int) : Bool := decide (a ≤ v) && decide (v ≤ b)
theorem pkWithin (v a b : Int) (w : World) : Calls Try.prog 39 #[.int .i64 v, .int .i64 a, .int .i64 b] w fun e w' => e = .returned (.bool (win v a b)) ∧ w' = w := by
  have h : a ≤ v ∨ v < a := by omega
  rcases h with h | h
  all_goals
    go_enter Try.func39, Try.ntmps39
    go_wp2
    go_ret
    refine ⟨?_, rfl⟩
    simp [win, h]
    try omega
theorem win_nm (v : Int) : win v 0 9007199254740991 = nm v := by
  rw [win, nm, Bool.eq_iff_iff]
  simp
theorem pkNumber (v : Int) (w : World) : Calls Try.prog 68 #[.int .i64 v] w fun e w' => e = .returned (.bool (nm v)) ∧ w' = w := by
  have H := pkWithin v 0 9007199254740991
  rw [win_nm] at H
  generalize nm v = c at H ⊢
  go_enter Try.func68, Try.ntmps68
  go_wp2_with (fail)
  refine (H _).mono ?_
  rintro e w' ⟨rfl, rfl⟩
  go_wp2
  go_ret
  exact ⟨rfl, rfl⟩
theorem pkRing (q r : Int) (w : World) : Calls Try.prog 37 #[.agg #[.int .i64 q, .int .i64 r]] w fun e w' => e = .returned (.bool (isr q r)) ∧ Mod (fun _ => False) w w' := by
  have hA := ((Mod.refl (fun _ => False) w).alloc (.cells #[.int .i64 q, .int .i64 r] 23)).alloc (.cells #[.int .i64 0, .int .i64 0] 23)
  have H := CheckRing q r
  have ER := eqRing q r 0 0
  have hi : isr q r = (!(decide (q = 0) && decide (r = 0)) && (cr q r == 0)) := by
    rw [isr, Bool.eq_iff_iff]
    simp
  rw [hi]
  generalize (decide (q = 0) && decide (r = 0)) = z at ER ⊢
  generalize cr q r = c at H ⊢
  clear hi
  cases z
  · by_cases hc : c = 0
    · subst hc
      go_enter Try.func37, Try.ntmps37
      go_wp2_with (fail)
      refine (H _).mono ?_
      rintro e w1 ⟨rfl, hm1⟩
      go_wp2
      go_ret
      exact ⟨rfl, hA.trans hm1 (V := fun _ => False) (fun _ _ h => h) (fun _ _ h => h)⟩
    · have hcb : (c == 0) = false := by simp [hc]
      rw [hcb]
      go_enter Try.func37, Try.ntmps37
      go_wp2_with (fail)
      refine (H _).mono ?_
      rintro e w1 ⟨rfl, hm1⟩
      go_wp2
      go_ret
      exact ⟨rfl, hA.trans hm1 (V := fun _ => False) (fun _ _ h => h) (fun _ _ h => h)⟩
  · go_enter Try.func37, Try.ntmps37
    go_wp2
    go_ret
    exact ⟨rfl, hA⟩
end Go.Proofs.Ytlekmgjjjniomaa
