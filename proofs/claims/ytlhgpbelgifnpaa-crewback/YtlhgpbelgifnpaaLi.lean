/- Contracts of List and Of, the program's and the document's, and of the document's Check, Count, Next, Least. Conditions: lists of at most 2^47 bytes. -/
import Derived.Test.YtlhgpbelgifnpaaBa
import Derived.Test.YtlhgpbelgifnpaaCb
import Derived.Test.YtlhgpbelgifnpaaPf
namespace Go.Proofs.Ytlhgpbelgifnpaa
open Go.RowKit
theorem has_nat (c : Int) (k : Nat) : has c k = hs (lo c) k := by
  by_cases h : 1 ≤ k ∧ k ≤ 8
  · rw [has, show node k = true by simp [node]; omega, Bool.true_and, Int.toNat_natCast]
  · have : hs (lo c) k = false := by rw [Bool.eq_false_iff]; intro e; exact h (hs_pos e)
    rw [this, has, show node k = false by simp [node]; omega, Bool.false_and]
theorem lsk_len (m : Nat) : ∀ k, (lsk m k).length ≤ k
  | 0 => by simp [lsk]
  | k + 1 => by
    have := lsk_len m k
    unfold lsk
    split
    · simp; omega
    · omega
theorem Own.alloc {w : World} {v : Value} {l : List Int} (h : Own w v l) (o : Obj) : Own (w.alloc o) v l := h.mod ((Mod.refl (fun _ => False) w).alloc o) fun _ _ h => h
/-- New: in blocks that were not there. -/
def New (w : World) (v : Value) : Prop := ∀ g, v.ownBlock = some g → w.heap.size ≤ g
theorem Own.one {w wr w1 : World} {g cap : Nat} {v' : Value} {l' : List Int} {c : Int} {t : TypeId} (hm : Mod (fun _ => False) w wr) (hv : New w v')
    (hown : w1.ownsRow 0 3 1 (.slice (some ⟨g, 0, none⟩) (l'.length + 1) cap) (l'.length + 1) (U l' ++ [.int .i64 c]))
    (hgrow : (wr.alloc (.cells #[.int .i64 c] t)).grownBy w1 v'.ownBlock) (hg : v'.ownBlock = some g ∨ g = wr.heap.size + 1) :
    Own w1 (.slice (some ⟨g, 0, none⟩) (l'.length + 1) cap) (l' ++ [c]) ∧ Mod (fun _ => False) w w1 ∧ New w (Value.slice (some ⟨g, 0, none⟩) (l'.length + 1) cap) := by
  refine ⟨?_, (hm.alloc _).grown hgrow (fun k hk hlt => by have := hv k hk; omega), ?_⟩
  · unfold Own
    rw [U_app]
    simpa [U] using hown
  · intro g' hg'
    simp only [Value.ownBlock, Option.some.injEq] at hg'
    subst hg'
    rcases hg with h | h
    · exact hv _ h
    · have := hm.size
      omega
theorem List12 (c : Int) (w : World) : Calls Try.prog 12 #[.int .i64 c] w fun e w' => ∃ v, e = .returned v ∧ Own w' v (ls (lo c)) ∧ Mod (fun _ => False) w w' ∧ New w v := by
  obtain ⟨i0, hi, hz0, hz1, hz2⟩ := info_parts info3
  have H := fun k : Nat => Has c k
  simp only [has_nat c] at H
  have HS : Hid (ls (lo c) = lsk (lo c) 9) := rfl
  have H1 : Hid (lsk (lo c) 1 = []) := rfl
  generalize lo c = m at H HS H1 ⊢
  generalize ls m = L at HS ⊢
  go_enter Try.func12, Try.ntmps12
  go_wp2
  go_loopw [3, 5] (fun s i wr => ∃ k : Nat, i = .int .i64 k ∧ k ≤ 9 ∧ Hid (Own wr s (lsk m k)) ∧ Hid (Mod (fun _ => False) w wr) ∧ Hid (New w s)) (fun _ i _ => 9 - (intOf i).toNat)
  case atStart => exact ⟨0, rfl, by omega, by show Own _ _ _; exact Own.nil _, Mod.refl _ _, by intro g hg; simp [Value.ownBlock] at hg⟩
  case round =>
    obtain ⟨k, rfl, hk, hown, hmod, hnew⟩ := hrel
    clear H1
    by_cases hlt : k < 9
    · have hi9 : (k : Int) < 9 := by omega
      have hi8 : (k : Int) ≤ 8 := by omega
      have HK := H k wr
      clear H HS
      cases hh : hs m k with
      | true =>
        rw [hh] at HK
        have hl : Hid (lsk m (k + 1) = lsk m k ++ [(k : Int)]) := by rw [Hid, lsk, if_pos hh]
        have hll : Hid ((lsk m k).length ≤ 9) := by have := lsk_len m k; exact Nat.le_trans this hk
        clear hh
        generalize lsk m k = l1 at hl hown hll
        go_wp2_with (first | (go_at_call 14; refine HK.mono ?_; rintro e w' ⟨rfl, rfl⟩) | (at_builtin; refine wpList_append_lies _ rfl _ _ 25 rfl 0 3 i0 (.int .i64 0) 1 8 Try.underlying25 hi hz0 hz1 hz2 rfl (by decide) u3 l1.length (U l1) rfl (hown.out.alloc _) ⟨w'.heap.size, 0, none⟩ 1 1 [.int .i64 (k : Int)] rfl rfl (app1 _ _ _) (U_one [(k : Int)]) (by omega) (by have := hll.out; simp only [maxLen]; omega) (by have := hll.out; omega) (Nat.zero_le _) (w'.heap.size + 1) (by simp) ?_; intro g cap1 w3 hown1 hgrow hg hlt))
        have R := Own.one hmod.out hnew.out hown1 hgrow hg
        go_roundw
        case rel => exact ⟨k + 1, by go_num, by omega, by show Own _ _ _; rw [hl.out]; exact R.1, R.2.1, R.2.2⟩
        case measure => simp [intOf]; omega
      | false =>
        rw [hh] at HK
        have hl : Hid (lsk m (k + 1) = lsk m k) := by rw [Hid, lsk, hh]; rfl
        clear hh
        go_wp2_with (go_at_call 14; refine HK.mono ?_; rintro e w' ⟨rfl, rfl⟩)
        go_roundw
        case rel => exact ⟨k + 1, by go_num, by omega, by show Own _ _ _; rw [hl.out]; exact hown, hmod, hnew⟩
        case measure => simp [intOf]; omega
    · obtain rfl : k = 9 := by omega
      clear H
      go_wp2
      go_ret
      exact ⟨_, rfl, by rw [HS.out]; exact hown.out, hmod.out, hnew.out⟩
theorem RList (c : Int) (w : World) : Calls Try.prog 13 #[.int .i64 c] w fun e w' => ∃ v, e = .returned v ∧ Own w' v (ls (lo c)) ∧ Mod (fun _ => False) w w' ∧ New w v := by
  obtain ⟨i0, hi, hz0, hz1, hz2⟩ := info_parts info3
  have H := fun k : Nat => RHas c k
  simp only [has_nat c] at H
  have HS : Hid (ls (lo c) = lsk (lo c) 9) := rfl
  have H1 : Hid (lsk (lo c) 1 = []) := rfl
  generalize lo c = m at H HS H1 ⊢
  generalize ls m = L at HS ⊢
  go_enter Try.func13, Try.ntmps13
  go_wp2
  go_loopw [3, 4] (fun s i wr => ∃ k : Nat, i = .int .i64 k ∧ k ≤ 9 ∧ Hid (Own wr s (lsk m k)) ∧ Hid (Mod (fun _ => False) w wr) ∧ Hid (New w s)) (fun _ i _ => 9 - (intOf i).toNat)
  case atStart => exact ⟨1, rfl, by omega, by show Own _ _ _; rw [H1.out]; exact Own.nil _, Mod.refl _ _, by intro g hg; simp [Value.ownBlock] at hg⟩
  case round =>
    obtain ⟨k, rfl, hk, hown, hmod, hnew⟩ := hrel
    clear H1
    by_cases hlt : k < 9
    · have hi9 : (k : Int) < 9 := by omega
      have hi8 : (k : Int) ≤ 8 := by omega
      have HK := H k wr
      clear H HS
      cases hh : hs m k with
      | true =>
        rw [hh] at HK
        have hl : Hid (lsk m (k + 1) = lsk m k ++ [(k : Int)]) := by rw [Hid, lsk, if_pos hh]
        have hll : Hid ((lsk m k).length ≤ 9) := by have := lsk_len m k; exact Nat.le_trans this hk
        clear hh
        generalize lsk m k = l1 at hl hown hll
        go_wp2_with (first | (go_at_call 15; refine HK.mono ?_; rintro e w' ⟨rfl, rfl⟩) | (at_builtin; refine wpList_append_lies _ rfl _ _ 25 rfl 0 3 i0 (.int .i64 0) 1 8 Try.underlying25 hi hz0 hz1 hz2 rfl (by decide) u3 l1.length (U l1) rfl (hown.out.alloc _) ⟨w'.heap.size, 0, none⟩ 1 1 [.int .i64 (k : Int)] rfl rfl (app1 _ _ _) (U_one [(k : Int)]) (by omega) (by have := hll.out; simp only [maxLen]; omega) (by have := hll.out; omega) (Nat.zero_le _) (w'.heap.size + 1) (by simp) ?_; intro g cap1 w3 hown1 hgrow hg hlt))
        have R := Own.one hmod.out hnew.out hown1 hgrow hg
        go_roundw
        case rel => exact ⟨k + 1, by go_num, by omega, by show Own _ _ _; rw [hl.out]; exact R.1, R.2.1, R.2.2⟩
        case measure => simp [intOf]; omega
      | false =>
        rw [hh] at HK
        have hl : Hid (lsk m (k + 1) = lsk m k) := by rw [Hid, lsk, hh]; rfl
        clear hh
        go_wp2_with (go_at_call 15; refine HK.mono ?_; rintro e w' ⟨rfl, rfl⟩)
        go_roundw
        case rel => exact ⟨k + 1, by go_num, by omega, by show Own _ _ _; rw [hl.out]; exact hown, hmod, hnew⟩
        case measure => simp [intOf]; omega
    · obtain rfl : k = 9 := by omega
      clear H
      go_wp2
      go_ret
      exact ⟨_, rfl, by rw [HS.out]; exact hown.out, hmod.out, hnew.out⟩
/-- What Of answers: the number, and the error. -/
def ofx (l : List Int) : Nat := (off 0 l).getD 0
def ofe (l : List Int) : Int := if (off 0 l).isSome then 0 else 2
theorem drop_getD (l : List Int) (k : Nat) (h : k < l.length) : l.drop k = l.getD k 0 :: l.drop (k + 1) := by
  rw [List.drop_eq_getElem_cons h]
  simp [h]
theorem two_lt {x : Int} (h : node x = true) : 2 ^ x.toNat < 512 := by
  have hn : 1 ≤ x ∧ x < 9 := by simpa [node] using h
  have : 2 ^ x.toNat ≤ 2 ^ 8 := Nat.pow_le_pow_right (by omega) (by omega)
  omega
theorem two_wrap {x : Int} (h : node x = true) : wrap64 (2 ^ x.toNat) = ((2 ^ x.toNat : Nat) : Int) := by
  have hn : 1 ≤ x ∧ x < 9 := by simpa [node] using h
  obtain ⟨k, hk⟩ : ∃ k, k = x.toNat := ⟨_, rfl⟩
  rw [← hk]
  have : k = 1 ∨ k = 2 ∨ k = 3 ∨ k = 4 ∨ k = 5 ∨ k = 6 ∨ k = 7 ∨ k = 8 := by omega
  rcases this with rfl | rfl | rfl | rfl | rfl | rfl | rfl | rfl <;> decide +kernel
theorem Of_empty (a : Option Addr) (cap : Nat) (w : World) : Calls Try.prog 24 #[.slice a 0 cap] w fun e w' => e = .returned (.tuple #[.int .i64 0, .int .i64 0]) ∧ w' = w := by
  go_enter Try.func24, Try.ntmps24
  go_wp2
  go_loopw [4, 9] (fun c i wr => c = .int .i64 0 ∧ i = .int .i64 0 ∧ wr = w) (fun _ _ _ => 0)
  case atStart => exact ⟨rfl, rfl, rfl⟩
  case round =>
    obtain ⟨rfl, rfl, rfl⟩ := hrel
    go_wp2
    go_ret2
    exact ⟨rfl, rfl⟩
theorem Of_some (b o cap : Nat) (l : List Int) (w : World) (hmax : l.length ≤ 9223372036854775807)
   (hc : ∀ j, j < l.length → w.cell? ⟨b, o + j, none⟩ = some (.int .i64 (l.getD j 0))) :
    Calls Try.prog 24 #[.slice (some ⟨b, o, none⟩) l.length cap] w fun e w' => e = .returned (.tuple #[.int .i64 (ofx l), .int .i64 (ofe l)]) ∧ w' = w := by
  have HX : Hid (off 0 l = off 0 (l.drop 0)) := rfl
  obtain ⟨n, hn⟩ : ∃ n, n = l.length := ⟨_, rfl⟩
  rw [← hn] at hmax hc ⊢
  have HN : Hid (n = l.length) := hn
  clear hn
  have HR : Hid (ofx l = (off 0 l).getD 0 ∧ ofe l = if (off 0 l).isSome then 0 else 2) := ⟨rfl, rfl⟩
  generalize ofx l = rx at HR ⊢
  generalize ofe l = re at HR ⊢
  go_enter Try.func24, Try.ntmps24
  go_wp2
  go_loopw [4, 9] (fun c i wr => ∃ k a : Nat, c = .int .i64 a ∧ i = .int .i64 k ∧ k ≤ n ∧ a < 512 ∧ Hid (off 0 l = off a (l.drop k)) ∧ wr = w) (fun _ i _ => n - (intOf i).toNat)
  case atStart => exact ⟨0, 0, rfl, rfl, by omega, by omega, HX, rfl⟩
  case round =>
    obtain ⟨k, a, rfl, rfl, hk, ha, ho, rfl⟩ := hrel
    clear HX
    by_cases hlt : k < n
    · have hi : (k : Int) < (n : Int) := by omega
      have h1 := hc k hlt
      have hd : Hid (l.drop k = l.getD k 0 :: l.drop (k + 1)) := drop_getD l k (by rw [← HN.out]; exact hlt)
      generalize l.getD k 0 = x at h1 hd
      have HK := isNode x wr
      cases hh : node x with
      | true =>
        have ho2 : Hid (off 0 l = off (a ||| 2 ^ x.toNat) (l.drop (k + 1))) := by rw [Hid, ho.out, hd.out, off, if_pos hh]
        have h2 := two_lt hh
        have ho3 : a ||| 2 ^ x.toNat < 512 := Nat.or_lt_two_pow (n := 9) (by omega) h2
        have he : Hid (bits .or .i64 a (wrap64 (2 ^ x.toNat)) = ((a ||| 2 ^ x.toNat : Nat) : Int)) := by rw [Hid, two_wrap hh]; exact or_nat a _ ha h2
        have hn : 1 ≤ x ∧ x < 9 := by simpa [node] using hh
        have hx1 := hn.1
        have hx2 := hn.2
        rw [hh] at HK
        clear hc HR hd ho hh hn
        go_wp2_with (go_at_call 27; refine HK.mono ?_; rintro e w' ⟨rfl, rfl⟩)
        go_roundw
        case rel => exact ⟨k + 1, a ||| 2 ^ x.toNat, by rw [he.out], by go_num, by omega, ho3, ho2, trivial⟩
        case measure => simp [intOf]; omega
      | false =>
        have hr : Hid (rx = 0 ∧ re = 2) := by
          have h : off 0 l = none := by rw [ho.out, hd.out, off, hh]; rfl
          have := HR.out
          rw [h] at this
          exact this
        rw [hh] at HK
        clear hc HR hd ho hh
        go_wp2_with (go_at_call 27; refine HK.mono ?_; rintro e w' ⟨rfl, rfl⟩)
        go_ret2
        exact ⟨by rw [hr.out.1, hr.out.2]; rfl, rfl⟩
    · have hr : Hid (rx = a ∧ re = 0) := by
        have h : off 0 l = some a := by rw [ho.out, List.drop_of_length_le (by have := HN.out; omega), off]
        have := HR.out
        rw [h] at this
        exact this
      clear hc HR ho
      go_wp2
      go_ret2
      exact ⟨by rw [hr.out.1, hr.out.2]; rfl, rfl⟩
theorem Of24 (v : Value) (l : List Int) (w : World) (hs : Sl w v l) : Calls Try.prog 24 #[v] w fun e w' => e = .returned (.tuple #[.int .i64 (ofx l), .int .i64 (ofe l)]) ∧ w' = w := by
  obtain ⟨ao, cap, rfl, h1, h2, h3, h4⟩ := hs
  by_cases hl : l = []
  · subst hl
    exact Of_empty ao cap w
  · obtain ⟨b, off, rfl, hc⟩ := h4 hl
    exact Of_some b off cap l w (by unfold maxLen at h2; omega) hc
theorem ROf_empty (a : Option Addr) (cap : Nat) (w : World) : Calls Try.prog 25 #[.slice a 0 cap] w fun e w' => e = .returned (.tuple #[.int .i64 0, .int .i64 0]) ∧ w' = w := by
  go_enter Try.func25, Try.ntmps25
  go_wp2
  go_loopw [4, 5] (fun c i wr => c = .int .i64 0 ∧ i = .int .i64 0 ∧ wr = w) (fun _ _ _ => 0)
  case atStart => exact ⟨rfl, rfl, rfl⟩
  case round =>
    obtain ⟨rfl, rfl, rfl⟩ := hrel
    go_wp2
    go_ret2
    exact ⟨rfl, rfl⟩
theorem off_has {a : Nat} {x : Int} (ha : a < 512) (hx : node x = true) (h : hs a x.toNat = true) : a ||| 2 ^ x.toNat = a := by
  have hn : 1 ≤ x ∧ x < 9 := by simpa [node] using hx
  exact (or_has ⟨a, ha⟩ ⟨x.toNat, by omega⟩ (by show x.toNat ≠ 0; omega) h).symm
theorem off_add {a : Nat} {x : Int} (ha : a < 512) (hx : node x = true) (h : hs a x.toNat = false) : a ||| 2 ^ x.toNat = a + 2 ^ x.toNat := by
  have hn : 1 ≤ x ∧ x < 9 := by simpa [node] using hx
  exact (add_or ⟨a, ha⟩ ⟨x.toNat, by omega⟩ (by show x.toNat ≠ 0; omega) h).symm
theorem lo_nat {a : Nat} (h : a < 512) : lo (a : Int) = a := by unfold lo; omega
theorem ROf_some (b o cap : Nat) (l : List Int) (w : World) (hmax : l.length ≤ 9223372036854775807)
   (hc : ∀ j, j < l.length → w.cell? ⟨b, o + j, none⟩ = some (.int .i64 (l.getD j 0))) :
    Calls Try.prog 25 #[.slice (some ⟨b, o, none⟩) l.length cap] w fun e w' => e = .returned (.tuple #[.int .i64 (ofx l), .int .i64 (ofe l)]) ∧ w' = w := by
  have HX : Hid (off 0 l = off 0 (l.drop 0)) := rfl
  obtain ⟨n, hn⟩ : ∃ n, n = l.length := ⟨_, rfl⟩
  rw [← hn] at hmax hc ⊢
  have HN : Hid (n = l.length) := hn
  clear hn
  have HR : Hid (ofx l = (off 0 l).getD 0 ∧ ofe l = if (off 0 l).isSome then 0 else 2) := ⟨rfl, rfl⟩
  generalize ofx l = rx at HR ⊢
  generalize ofe l = re at HR ⊢
  go_enter Try.func25, Try.ntmps25
  go_wp2
  go_loopw [4, 5] (fun c i wr => ∃ k a : Nat, c = .int .i64 a ∧ i = .int .i64 k ∧ k ≤ n ∧ a < 512 ∧ Hid (off 0 l = off a (l.drop k)) ∧ wr = w) (fun _ i _ => n - (intOf i).toNat)
  case atStart => exact ⟨0, 0, rfl, rfl, by omega, by omega, HX, rfl⟩
  case round =>
    obtain ⟨k, a, rfl, rfl, hk, ha, ho, rfl⟩ := hrel
    clear HX
    by_cases hlt : k < n
    · have hi : (k : Int) < (n : Int) := by omega
      have h1 := hc k hlt
      have hd : Hid (l.drop k = l.getD k 0 :: l.drop (k + 1)) := drop_getD l k (by rw [← HN.out]; exact hlt)
      generalize l.getD k 0 = x at h1 hd
      cases hh : node x with
      | true =>
        have ho2 : Hid (off 0 l = off (a ||| 2 ^ x.toNat) (l.drop (k + 1))) := by rw [Hid, ho.out, hd.out, off, if_pos hh]
        have hn : 1 ≤ x ∧ x < 9 := by simpa [node] using hh
        have hx1 := hn.1
        have hx2 : x ≤ 8 := by omega
        have HK := RHas a x wr
        have HB := bit x.toNat wr (by omega)
        rw [Int.toNat_of_nonneg (by omega)] at HB
        have he : has a x = hs a x.toNat := by rw [has, hh, Bool.true_and, lo_nat ha]
        rw [he] at HK
        have h2 := two_lt hh
        clear hc HR hd ho hn he
        cases hv : hs a x.toNat with
        | true =>
          have e := off_has ha hh hv
          rw [e] at ho2
          rw [hv] at HK
          clear hh e hv HB
          go_wp2_with (go_at_call 15; refine HK.mono ?_; rintro e w' ⟨rfl, rfl⟩)
          go_roundw
          case rel => exact ⟨k + 1, a, rfl, by go_num, by omega, ha, ho2, trivial⟩
          case measure => simp [intOf]; omega
        | false =>
          have e := off_add ha hh hv
          rw [e] at ho2
          have ho3 : a ||| 2 ^ x.toNat < 512 := Nat.or_lt_two_pow (n := 9) (by omega) h2
          rw [e] at ho3
          rw [hv] at HK
          clear hh e hv
          generalize 2 ^ x.toNat = p at ho2 ho3 h2 HB
          go_wp2_with (first | (go_at_call 15; refine HK.mono ?_; rintro e w' ⟨rfl, rfl⟩) | (go_at_call 28; refine HB.mono ?_; rintro e w' ⟨rfl, rfl⟩))
          go_roundw
          case rel => exact ⟨k + 1, a + p, by go_num, by go_num, by omega, ho3, ho2, trivial⟩
          case measure => simp [intOf]; omega
      | false =>
        have hr : Hid (rx = 0 ∧ re = 2) := by
          have h : off 0 l = none := by rw [ho.out, hd.out, off, hh]; rfl
          have := HR.out
          rw [h] at this
          exact this
        have hx : x < 1 ∨ (1 ≤ x ∧ 8 < x) := by simp [node] at hh; omega
        clear hc HR hd ho hh
        rcases hx with hx | ⟨hx, hx2⟩
        · go_wp2
          go_ret2
          exact ⟨by rw [hr.out.1, hr.out.2]; rfl, rfl⟩
        · go_wp2
          go_ret2
          exact ⟨by rw [hr.out.1, hr.out.2]; rfl, rfl⟩
    · have hr : Hid (rx = a ∧ re = 0) := by
        have h : off 0 l = some a := by rw [ho.out, List.drop_of_length_le (by have := HN.out; omega), off]
        have := HR.out
        rw [h] at this
        exact this
      clear hc HR ho
      go_wp2
      go_ret2
      exact ⟨by rw [hr.out.1, hr.out.2]; rfl, rfl⟩
theorem ROf (v : Value) (l : List Int) (w : World) (hs : Sl w v l) : Calls Try.prog 25 #[v] w fun e w' => e = .returned (.tuple #[.int .i64 (ofx l), .int .i64 (ofe l)]) ∧ w' = w := by
  obtain ⟨ao, cap, rfl, h1, h2, h3, h4⟩ := hs
  by_cases hl : l = []
  · subst hl
    exact ROf_empty ao cap w
  · obtain ⟨b, off, rfl, hc⟩ := h4 hl
    exact ROf_some b off cap l w (by unfold maxLen at h2; omega) hc
end Go.Proofs.Ytlhgpbelgifnpaa
