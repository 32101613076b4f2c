/- Contracts of the writer's Fixed and Octets, for every number and every slice of bytes that does not lie in the writer itself. Conditions: what is written stays below 2^47 bytes. Plain mathematics: what was written in seven bits a byte, or in so many bytes, is read as it was; and what is read, written, is the bytes that were read. Conditions: as each statement says. Contracts of mark's small calls: numbers, nodes, comparisons of two numbers. No conditions. Contracts of the checks, the program's and the document's, and of the law's own key. No conditions. -/
import Derived.Test.YtajhpnfpjickbaaK03
import Derived.Deep.RegionLaw
import Derived.Deep.QuietTactic
import Derived.BigQuiet
namespace Go.Proofs.Ytajhpnfpjickbaa
open Go.RowKit
theorem enc_ne (x : Nat) : 0 < (enc x).length := encF_pos 8 x (by omega)
theorem row_shape {w : World} {v : Value} {n : Nat} {xs : List Value} (h : w.ownsRow 0 5 1 v n xs) : ∃ ao cap, v = .slice ao n cap := by
  rcases h.2 with ⟨rfl, h0⟩ | ⟨g, cap, cur, rfl, _⟩
  · exact ⟨none, 0, by rw [h0]⟩
  · exact ⟨_, cap, rfl⟩
/-- Bytes appended to what a writer has, and stored. -/
theorem Wr.more {w wr w1 : World} {p : Nat} {v v' v1 : Value} {l m : List Int} (hw : Wr wr p v' l) (hm : Mod (fun k => k = p ∨ v.ownBlock = some k) w wr) (hfr : Fr w v v')
    (hc : ∀ c ∈ m, 0 ≤ c ∧ c ≤ 255) (hown : w1.ownsRow 0 5 1 v1 (l.length + m.length) (U l ++ U m))
    (hgrow : wr.grownBy w1 v'.ownBlock) (hg : v1.ownBlock = v'.ownBlock ∨ v1.ownBlock = some wr.heap.size) :
    Wr (w1.setCell ⟨p, 1, none⟩ v1) p v1 (l ++ m) ∧ Mod (fun k => k = p ∨ v.ownBlock = some k) w (w1.setCell ⟨p, 1, none⟩ v1) ∧ Fr w v v1 := by
  have hf : Fr wr v' v1 := by
    intro g' hg'
    rcases hg with h | h
    · exact .inl (h ▸ hg')
    · right; rw [h] at hg'; simp at hg'; omega
  have hm1 : Mod (fun k => v'.ownBlock = some k) wr w1 := (Mod.refl _ wr).grown hgrow (fun k hk _ => hk)
  have ho : Own w1 v1 (l ++ m) := by
    unfold Own
    rw [U_app, List.length_append]
    exact hown
  have R := hw.stored hm1 ho hc hf
  refine ⟨R.1, hm.trans R.2 (fun _ _ h => h) ?_, hfr.trans hf hm.size⟩
  rintro i hi (h | h)
  · exact .inl h
  · rcases hfr i h with h' | h'
    · exact .inr h'
    · omega
set_option maxRecDepth 100000 in
set_option maxHeartbeats 1000000 in
theorem WOctets_some (p : Nat) (v : Value) (l m : List Int) (a : Addr) (cap : Nat) (w : World) (h : Wr w p v l) (hr : ∀ c ∈ m, 0 ≤ c ∧ c ≤ 255)
    (hs : ∀ w', Mod (fun k => k = p ∨ v.ownBlock = some k) w w' → ∀ j u, (U m)[j]? = some u → w'.cell? (a.add j) = some u) (hb : l.length + m.length + 8 ≤ 140737488355328) :
    Calls Try.prog 48 #[.pointer (some ⟨p, 0, none⟩), .slice (some a) m.length cap] w fun e w' => e = .returned (.int .i64 0) ∧ ∃ v', Wr w' p v' (l ++ enc m.length ++ m) ∧ Mod (fun k => k = p ∨ v.ownBlock = some k) w w' ∧ Fr w v v' := by
  obtain ⟨i0, hi, hz0, hz1, hz2⟩ := info_parts info5
  have h0 := h.c0
  go_enter Try.func48, Try.ntmps48
  go_wp2_with fail
  refine (isnone_w p _ h0).mono ?_
  rintro e w' ⟨rfl, rfl⟩
  go_wp2_with fail
  refine (put_any p v l m.length _ h (by omega) (by omega)).mono ?_
  rintro e w1 ⟨rfl, v1, hw1, hm1, hf1⟩
  have hcell := hs w1 hm1
  have h1 := hw1.c1
  have hfz := hw1.f1
  have hown := hw1.own
  have hlen := enc_len m.length
  have hll : (l ++ enc m.length).length ≤ l.length + 8 := by simp; omega
  have hne := hw1.ne
  have hgr : ∀ (w2 : World), w1.grownBy w2 v1.ownBlock → w2.cell? ⟨p, 1, none⟩ = some v1 ∧ w2.frozen? ⟨p, 1, none⟩ = false := fun w2 hg => by
    have hm1 : Mod (fun k => v1.ownBlock = some k) w1 w2 := (Mod.refl _ w1).grown hg (fun k hk _ => hk)
    have hb := hm1.obj hw1.blk hne
    exact ⟨by simp [World.cell?, hb], by simp [World.frozen?, hb]⟩
  clear hs
  generalize hq : l ++ enc m.length = q at hw1 hown hll
  have HQ : Hid (l ++ enc m.length = q) := hq
  clear hq hlen h
  go_wp2_with (at_builtin; refine wpList_append_own_at _ rfl _ _ 26 rfl 0 5 i0 (.int .u8 0) 1 1 Try.underlying26 hi hz0 hz1 hz2 rfl (by decide) v1 q.length (U q) rfl hown a m.length cap (U m) rfl (by simp [U]) hcell (U_one m) (by simp only [maxLen]; omega) (by omega) (Nat.zero_le _) ?_; intro v2 w2 hown2 hgrow hnil hat; obtain ⟨hk1, hk2⟩ := hgr w2 hgrow; obtain ⟨ao2, cap2, rfl⟩ := row_shape hown2)
  have R := hw1.more hm1 hf1 hr hown2 hgrow hat
  go_ret
  rw [HQ.out]
  exact ⟨rfl, _, R⟩
set_option maxRecDepth 100000 in
theorem WOctets_none (p : Nat) (v : Value) (l : List Int) (w : World) (h : Wr w p v l) (hb : l.length + 8 ≤ 140737488355328) :
    Calls Try.prog 48 #[.pointer (some ⟨p, 0, none⟩), .slice none 0 0] w fun e w' => e = .returned (.int .i64 0) ∧ ∃ v', Wr w' p v' (l ++ enc 0) ∧ Mod (fun k => k = p ∨ v.ownBlock = some k) w w' ∧ Fr w v v' := by
  obtain ⟨i0, hi, hz0, hz1, hz2⟩ := info_parts info5
  have h0 := h.c0
  go_enter Try.func48, Try.ntmps48
  go_wp2_with fail
  refine (isnone_w p _ h0).mono ?_
  rintro e w' ⟨rfl, rfl⟩
  go_wp2_with fail
  refine (put_any p v l 0 _ h (by omega) (by omega)).mono ?_
  rintro e w1 ⟨rfl, v1, hw1, hm1, hf1⟩
  have h1 := hw1.c1
  have hfz := hw1.f1
  have hown := hw1.own
  obtain ⟨g1, c1, rfl, _⟩ := hown.form (by have := enc_ne 0; simp; omega)
  clear h hown
  have R : Wr (w1.setCell ⟨p, 1, none⟩ (.slice (some ⟨g1, 0, none⟩) (l ++ enc 0).length c1)) p (.slice (some ⟨g1, 0, none⟩) (l ++ enc 0).length c1) (l ++ enc 0) := by
    have hm2 : Mod (fun k => k = p) w1 (w1.setCell ⟨p, 1, none⟩ (.slice (some ⟨g1, 0, none⟩) (l ++ enc 0).length c1)) := (Mod.refl _ w1).setCell _ _ (.inl rfl)
    exact ⟨two_setCell hw1.blk, hw1.own.mod hm2 (fun g hg e => hw1.ne (e ▸ hg)), hw1.rng⟩
  generalize hq : l ++ enc 0 = q at *
  have HQ : Hid (l ++ enc 0 = q) := hq
  clear hq
  go_wp2
  go_ret
  rw [HQ.out]
  exact ⟨rfl, _, R, hm1.setCell _ _ (.inl (.inl rfl)), hf1⟩
/-- Octets of a writer: the bytes behind how many they are. -/
theorem WOctets_any (p : Nat) (v u : Value) (l m : List Int) (w : World) (h : Wr w p v l) (hs : Sl w u m) (hd : m ≠ [] → ∀ g, u.ownBlock = some g → g ≠ p ∧ v.ownBlock ≠ some g) (hb : l.length + m.length + 8 ≤ 140737488355328) :
    Calls Try.prog 48 #[.pointer (some ⟨p, 0, none⟩), u] w fun e w' => e = .returned (.int .i64 0) ∧ ∃ v', Wr w' p v' (l ++ enc m.length ++ m) ∧ Mod (fun k => k = p ∨ v.ownBlock = some k) w w' ∧ Fr w v v' := by
  have hk : ∀ w', Mod (fun k => k = p ∨ v.ownBlock = some k) w w' → Sl w' u m := fun w' hm => hs.mod2 hm (fun hne g hg => by have := hd hne g hg; rintro (h | h); exact this.1 h; exact this.2 h)
  obtain ⟨ao, cap, rfl, _, _, hn, _⟩ := hs.form
  cases ao with
  | none =>
    obtain rfl := hn rfl
    obtain ⟨ao', cap', e, hl, _⟩ := hs.form
    have hm0 : m = [] := by
      apply List.eq_nil_of_length_eq_zero
      simp only [Value.slice.injEq] at e
      omega
    subst hm0
    have := WOctets_none p v l w h (by simp at hb; omega)
    simpa using this
  | some a =>
    refine WOctets_some p v l m a cap w h hs.rng (fun w' hm j x hx => ?_) hb
    have hs' := hk w' hm
    obtain ⟨ao', cap', e, _, _, _, h4⟩ := hs'.form
    by_cases hm0 : m = []
    · subst hm0; simp [U] at hx
    · obtain ⟨b, off, e', hc⟩ := h4 hm0
      simp only [Value.slice.injEq] at e
      obtain ⟨e1, _, _⟩ := e
      rw [e'] at e1
      cases e1
      exact cells_of hc j x hx
end Go.Proofs.Ytajhpnfpjickbaa
namespace Go.Proofs.Ytajhpnfpjickbaa

/-- What is read of bytes, written, is those bytes. -/
theorem num_back : ∀ (l : List Int) (s i : Nat), i ≤ 7 → (∀ c ∈ l, 0 ≤ c ∧ c ≤ 255) → (num s i l).2.2 = 0 →
    ∃ y, (num s i l).1 = ((s + y * 128 ^ i : Nat) : Int) ∧ encF (8 - i) y = l.take ((num s i l).2.1.toNat - i) ∧ (0 < i → 0 < y)
  | [], s, i, _, _, h => by simp [num] at h
  | c :: r, s, i, hi, hr, h => by
    have hc := hr c (by simp)
    unfold num at h ⊢
    by_cases h1 : c < 128
    · rw [if_pos h1] at h ⊢
      by_cases h2 : 0 < i ∧ c = 0
      · rw [if_pos h2] at h; simp at h
      · rw [if_neg h2] at h ⊢
        by_cases h3 : 9007199254740991 < s + (c.toNat % 128) * 128 ^ i
        · rw [if_pos h3] at h; simp at h
        · rw [if_neg h3]
          have e : c.toNat % 128 = c.toNat := by omega
          refine ⟨c.toNat, by rw [e], ?_, by omega⟩
          obtain ⟨f, hf⟩ : ∃ f, 8 - i = f + 1 := ⟨7 - i, by omega⟩
          have e2 : ((i + 1 : Nat) : Int).toNat - i = 1 := by omega
          rw [hf, encF, if_neg (by omega)]
          dsimp only
          rw [e2]
          simp [Int.toNat_of_nonneg hc.1]
    · rw [if_neg h1] at h ⊢
      by_cases h7 : i = 7
      · rw [if_pos h7] at h; simp at h
      · rw [if_neg h7] at h ⊢
        obtain ⟨y, hx, he, hy⟩ := num_back r (s + (c.toNat % 128) * 128 ^ i) (i + 1) (by omega) (fun c' hc' => hr c' (by simp [hc'])) h
        have hz := num_val r (s + (c.toNat % 128) * 128 ^ i) (i + 1)
        have hz1 : ((i + 1 : Nat) : Int) + 1 ≤ (num (s + (c.toNat % 128) * 128 ^ i) (i + 1) r).2.1 := by
          rcases hz with hz | hz
          · exact hz.2.2.2
          · rw [h] at hz; omega
        generalize num (s + (c.toNat % 128) * 128 ^ i) (i + 1) r = N at hx he hz1
        have hy0 := hy (by omega)
        refine ⟨c.toNat % 128 + 128 * y, ?_, ?_, by omega⟩
        · rw [hx]
          congr 1
          rw [Nat.pow_succ, Nat.add_mul, Nat.add_assoc]
          congr 2
          rw [Nat.mul_comm (128 ^ i) 128, Nat.mul_comm 128 y, Nat.mul_assoc]
        · have hf : 8 - i = (8 - (i + 1)) + 1 := by omega
          have hk : N.2.1.toNat - i = (N.2.1.toNat - (i + 1)) + 1 := by omega
          rw [hf, encF, if_pos (by omega), hk, List.take_succ_cons]
          have e1 : (c.toNat % 128 + 128 * y) / 128 = y := by omega
          have e2 : (((c.toNat % 128 + 128 * y) % 128 + 128 : Nat) : Int) = c := by omega
          rw [e1, e2, he]

/-- What is written is read as it was, whatever stands behind it. -/
theorem num_enc : ∀ (f i s y : Nat) (r : List Int), f + i = 8 → 0 < f → y < 128 ^ f → (0 < i → 0 < y) → s + y * 128 ^ i ≤ 9007199254740991 →
    num s i (encF f y ++ r) = (((s + y * 128 ^ i : Nat) : Int), ((i + (encF f y).length : Nat) : Int), 0)
  | 0, _, _, _, _, _, h, _, _, _ => by omega
  | f + 1, i, s, y, r, hf, _, hy, hp, hm => by
    unfold encF
    by_cases h : 128 ≤ y
    · obtain ⟨g, hg, hy', hg0⟩ := pow_step h hy
      obtain rfl : g = f := by omega
      rw [if_pos h, List.cons_append, num, if_neg (by omega), if_neg (by omega)]
      have e1 : (((y % 128 + 128 : Nat) : Int).toNat % 128) = y % 128 := by omega
      have e2 : s + y % 128 * 128 ^ i + y / 128 * 128 ^ (i + 1) = s + y * 128 ^ i := by
        rw [Nat.pow_succ, Nat.add_assoc]
        congr 1
        rw [Nat.mul_comm (128 ^ i) 128, ← Nat.mul_assoc, ← Nat.add_mul]
        congr 1
        omega
      rw [e1, num_enc g (i + 1) (s + y % 128 * 128 ^ i) (y / 128) r (by omega) hg0 hy' (fun _ => by omega) (by rw [e2]; exact hm), e2, List.length_cons]
      refine Prod.ext rfl (Prod.ext ?_ rfl)
      show ((i + 1 + (encF g (y / 128)).length : Nat) : Int) = ((i + ((encF g (y / 128)).length + 1) : Nat) : Int)
      omega
    · rw [if_neg h, List.cons_append, num, if_pos (by omega), if_neg (by omega)]
      have e1 : ((y : Int).toNat % 128) = y := by omega
      rw [e1, if_neg (by omega)]
      rfl
theorem num_enc0 (x : Nat) (r : List Int) (hx : x ≤ 9007199254740991) : num 0 0 (enc x ++ r) = ((x : Int), (((enc x).length : Nat) : Int), 0) := by
  have := num_enc 8 0 0 x r rfl (by omega) (by omega) (by omega) (by omega)
  simpa [enc] using this

end Go.Proofs.Ytajhpnfpjickbaa
namespace Go.Proofs.Ytajhpnfpjickbaa
open Go.RowKit
/-- What may stand on the wire. -/
def nm (n : Int) : Bool := decide (0 ≤ n ∧ n ≤ 9007199254740991)
def nd (n : Int) : Bool := decide (1 ≤ n ∧ n ≤ 8)
theorem isNumber (n : Int) (w : World) : Calls Try.prog 123 #[.int .i64 n] w fun e w' => e = .returned (.bool (nm n)) ∧ w' = w := by
  have h : 0 ≤ n ∨ n < 0 := by omega
  rcases h with h | h
  all_goals
    go_enter Try.func123, Try.ntmps123
    go_wp2
    go_ret
    refine ⟨?_, rfl⟩
    simp [nm]
    try omega
theorem isNode (n : Int) (w : World) : Calls Try.prog 144 #[.int .i64 n] w fun e w' => e = .returned (.bool (nd n)) ∧ w' = w := by
  have h : 1 ≤ n ∨ n < 1 := by omega
  rcases h with h | h
  all_goals
    go_enter Try.func144, Try.ntmps144
    go_wp2
    go_ret
    refine ⟨?_, rfl⟩
    simp [nd]
    try omega
theorem number (n : Int) (w : World) : Calls Try.prog 92 #[.int .i64 n] w fun e w' => e = .returned (.bool (nm n)) ∧ w' = w := by
  have h : 0 ≤ n ∨ n < 0 := by omega
  rcases h with h | h
  all_goals
    go_enter Try.func92, Try.ntmps92
    go_wp2
    go_ret
    refine ⟨?_, rfl⟩
    simp [nm]
    try omega
theorem pNumber (n : Int) (w : World) : Calls Try.prog 90 #[.int .i64 n] w fun e w' => e = .returned (.bool (nm n)) ∧ w' = w := by
  have h : 0 ≤ n ∨ n < 0 := by omega
  rcases h with h | h
  all_goals
    go_enter Try.func90, Try.ntmps90
    go_wp2
    go_ret
    refine ⟨?_, rfl⟩
    simp [nm]
    try omega
theorem pNode (n : Int) (w : World) : Calls Try.prog 89 #[.int .i64 n] w fun e w' => e = .returned (.bool (nd n)) ∧ w' = w := by
  have h : 1 ≤ n ∨ n < 1 := by omega
  rcases h with h | h
  all_goals
    go_enter Try.func89, Try.ntmps89
    go_wp2
    go_ret
    refine ⟨?_, rfl⟩
    simp [nd]
    try omega
theorem dNumber (n : Int) (w : World) : Calls Try.prog 54 #[.int .i64 n] w fun e w' => e = .returned (.bool (nm n)) ∧ w' = w := by
  have h : 0 ≤ n ∨ n < 0 := by omega
  rcases h with h | h
  all_goals
    go_enter Try.func54, Try.ntmps54
    go_wp2
    go_ret
    refine ⟨?_, rfl⟩
    simp [nm]
    try omega
theorem dNode (n : Int) (w : World) : Calls Try.prog 53 #[.int .i64 n] w fun e w' => e = .returned (.bool (nd n)) ∧ w' = w := by
  have h : 1 ≤ n ∨ n < 1 := by omega
  rcases h with h | h
  all_goals
    go_enter Try.func53, Try.ntmps53
    go_wp2
    go_ret
    refine ⟨?_, rfl⟩
    simp [nd]
    try omega
end Go.Proofs.Ytajhpnfpjickbaa
namespace Go.Proofs.Ytajhpnfpjickbaa
open Go.RowKit
/-- Which ring numbers may be. -/
def cr (q r : Int) : Int := if (q = 0 ∧ r = 0) ∨ (0 < q ∧ q ≤ 9007199254740991 ∧ 1 ≤ r ∧ r ≤ 8) then 0 else 2
/-- Which keys may be. -/
def ck (s q r n : Int) : Int := if nm s = true ∧ nm n = true then cr q r else 2
theorem cr_zero {q r : Int} (h : q = 0 ∧ r = 0) : cr q r = 0 := by rw [cr, if_pos (.inl h)]
theorem cr_node {q r : Int} (h0 : ¬ (q = 0 ∧ r = 0)) (h1 : nm q = true) (h2 : 0 < q) : cr q r = if nd r = true then 0 else 2 := by
  simp only [nm, decide_eq_true_eq] at h1
  simp only [cr, nd, decide_eq_true_eq]
  simp [h0, h2, h1.2]
theorem cr_pos {q r : Int} (h0 : ¬ (q = 0 ∧ r = 0)) (h2 : ¬ 0 < q) : cr q r = 2 := by
  rw [cr, if_neg]
  rintro (h | h)
  · exact h0 h
  · exact h2 h.1
theorem cr_num {q r : Int} (h0 : ¬ (q = 0 ∧ r = 0)) (h1 : nm q = false) : cr q r = 2 := by
  rw [cr, if_neg]
  rintro (h | h)
  · exact h0 h
  · simp [nm] at h1
    omega
theorem CheckRing (q r : Int) (w : World) : Calls Try.prog 124 #[.agg #[.int .i64 q, .int .i64 r]] w fun e w' => e = .returned (.int .i64 (cr q r)) ∧ Mod (fun _ => False) w w' := by
  have HM : Mod (fun _ => False) w ((w.alloc (Obj.cells #[Value.int IntKind.i64 q, Value.int IntKind.i64 r] 23)).alloc
      (Obj.cells #[Value.int IntKind.i64 0, Value.int IntKind.i64 0] 23)) := ((Mod.refl _ _).alloc _).alloc _
  have H := isNumber q
  have N := isNode r
  by_cases h0 : q = 0 ∧ r = 0
  · rw [cr_zero h0]
    obtain ⟨rfl, rfl⟩ := h0
    go_enter Try.func124, Try.ntmps124
    go_wp2
    go_ret
    exact ⟨rfl, HM⟩
  · cases h1 : nm q with
    | false =>
      rw [cr_num h0 h1]
      rw [h1] at H
      have hq : ¬ q = 0 := by rintro rfl; exact absurd h1 (by decide)
      clear h1 h0
      go_enter Try.func124, Try.ntmps124
      go_wp2_with (fail)
      refine (H _).mono ?_
      rintro e w' ⟨rfl, rfl⟩
      go_wp2
      go_ret
      exact ⟨rfl, HM⟩
    | true =>
      by_cases h2 : 0 < q
      · rw [cr_node h0 h1 h2]
        rw [h1] at H
        clear h1
        cases h3 : nd r with
        | false =>
          rw [h3] at N
          rw [if_neg (by decide)]
          clear h3
          go_enter Try.func124, Try.ntmps124
          go_wp2_with (fail)
          refine (H _).mono ?_
          rintro e w' ⟨rfl, rfl⟩
          go_wp2_with (fail)
          refine (N _).mono ?_
          rintro e w' ⟨rfl, rfl⟩
          go_wp2
          go_ret
          exact ⟨rfl, HM⟩
        | true =>
          rw [h3] at N
          rw [if_pos rfl]
          clear h3
          go_enter Try.func124, Try.ntmps124
          go_wp2_with (fail)
          refine (H _).mono ?_
          rintro e w' ⟨rfl, rfl⟩
          go_wp2_with (fail)
          refine (N _).mono ?_
          rintro e w' ⟨rfl, rfl⟩
          go_wp2
          go_ret
          exact ⟨rfl, HM⟩
      · rw [cr_pos h0 h2]
        rw [h1] at H
        have hq : q = 0 := by simp [nm] at h1; omega
        subst hq
        have hr : ¬ r = 0 := fun h => h0 ⟨rfl, h⟩
        clear h1 h2 h0
        go_enter Try.func124, Try.ntmps124
        go_wp2_with (fail)
        refine (H _).mono ?_
        rintro e w' ⟨rfl, rfl⟩
        go_wp2
        go_ret
        exact ⟨rfl, HM⟩
theorem RCheckRing (q r : Int) (w : World) : Calls Try.prog 70 #[.agg #[.int .i64 q, .int .i64 r]] w fun e w' => e = .returned (.int .i64 (cr q r)) ∧ Mod (fun _ => False) w w' := by
  have HM : Mod (fun _ => False) w (w.alloc (Obj.cells #[Value.int IntKind.i64 q, Value.int IntKind.i64 r] 23)) := (Mod.refl _ _).alloc _
  have H := number q
  by_cases h0 : q = 0 ∧ r = 0
  · rw [cr_zero h0]
    obtain ⟨rfl, rfl⟩ := h0
    go_enter Try.func70, Try.ntmps70
    go_wp2_with (go_at_call 92; refine (H _).mono ?_; rintro e w' ⟨rfl, rfl⟩)
    go_ret
    exact ⟨rfl, HM⟩
  · rcases (show (q = 0 ∧ ¬ r = 0) ∨ ¬ q = 0 by omega) with ⟨hq, hr⟩ | hq
    · rw [cr_pos h0 (by omega)]
      subst hq
      clear h0
      go_enter Try.func70, Try.ntmps70
      go_wp2_with (go_at_call 92; refine (H _).mono ?_; rintro e w' ⟨rfl, rfl⟩)
      go_ret
      exact ⟨rfl, HM⟩
    · by_cases h2 : 0 < q
      · cases h1 : nm q with
        | false =>
          rw [cr_num h0 h1]
          rw [h1] at H
          clear h1 h0
          go_enter Try.func70, Try.ntmps70
          go_wp2_with (go_at_call 92; refine (H _).mono ?_; rintro e w' ⟨rfl, rfl⟩)
          go_ret
          exact ⟨rfl, HM⟩
        | true =>
          rw [cr_node h0 h1 h2]
          rw [h1] at H
          clear h1 h0
          rcases (show 1 ≤ r ∨ r < 1 by omega) with h3 | h3
          · rcases (show r ≤ 8 ∨ 8 < r by omega) with h4 | h4
            · rw [if_pos (by simp [nd]; omega)]
              go_enter Try.func70, Try.ntmps70
              go_wp2_with (go_at_call 92; refine (H _).mono ?_; rintro e w' ⟨rfl, rfl⟩)
              go_ret
              exact ⟨rfl, HM⟩
            · rw [if_neg (by simp [nd]; omega)]
              go_enter Try.func70, Try.ntmps70
              go_wp2_with (go_at_call 92; refine (H _).mono ?_; rintro e w' ⟨rfl, rfl⟩)
              go_ret
              exact ⟨rfl, HM⟩
          · rw [if_neg (by simp [nd]; omega)]
            go_enter Try.func70, Try.ntmps70
            go_wp2_with (go_at_call 92; refine (H _).mono ?_; rintro e w' ⟨rfl, rfl⟩)
            go_ret
            exact ⟨rfl, HM⟩
      · rw [cr_pos h0 h2]
        have h2' : q ≤ 0 := by omega
        clear h2 h0
        go_enter Try.func70, Try.ntmps70
        go_wp2_with (go_at_call 92; refine (H _).mono ?_; rintro e w' ⟨rfl, rfl⟩)
        go_ret
        exact ⟨rfl, HM⟩
theorem Check (s q r n : Int) (w : World) : Calls Try.prog 91 #[.agg #[.int .i64 s, .int .i64 q, .int .i64 r, .int .i64 n]] w fun e w' => e = .returned (.int .i64 (ck s q r n)) ∧ Mod (fun _ => False) w w' := by
  have HS := isNumber s
  have HN := isNumber n
  have HC := CheckRing q r
  cases h1 : nm s with
  | false =>
    rw [h1] at HS
    rw [ck, if_neg (by rw [h1]; intro h; cases h.1)]
    clear h1 HC
    go_enter Try.func91, Try.ntmps91
    go_wp2_with (fail)
    refine (HS _).mono ?_
    rintro e w' ⟨rfl, rfl⟩
    go_wp2
    go_ret
    exact ⟨rfl, (Mod.refl _ _).alloc _⟩
  | true =>
    rw [h1] at HS
    cases h2 : nm n with
    | false =>
      rw [h2] at HN
      rw [ck, if_neg (by rw [h2]; intro h; cases h.2)]
      clear h1 h2 HC
      go_enter Try.func91, Try.ntmps91
      go_wp2_with (fail)
      refine (HS _).mono ?_
      rintro e w' ⟨rfl, rfl⟩
      go_wp2_with (fail)
      refine (HN _).mono ?_
      rintro e w' ⟨rfl, rfl⟩
      go_wp2
      go_ret
      exact ⟨rfl, (Mod.refl _ _).alloc _⟩
    | true =>
      rw [h2] at HN
      rw [ck, if_pos ⟨h1, h2⟩]
      clear h1 h2
      generalize cr q r = c at HC ⊢
      go_enter Try.func91, Try.ntmps91
      go_wp2_with (fail)
      refine (HS _).mono ?_
      rintro e w' ⟨rfl, rfl⟩
      go_wp2_with (fail)
      refine (HN _).mono ?_
      rintro e w' ⟨rfl, rfl⟩
      go_wp2_with (fail)
      refine (HC _).mono ?_
      rintro e w' ⟨rfl, hm⟩
      go_wp2
      go_ret
      exact ⟨rfl, ((Mod.refl _ _).alloc _).trans hm (fun _ _ h => h) (fun _ _ h => h)⟩
theorem RCheck (s q r n : Int) (w : World) : Calls Try.prog 55 #[.agg #[.int .i64 s, .int .i64 q, .int .i64 r, .int .i64 n]] w fun e w' => e = .returned (.int .i64 (ck s q r n)) ∧ Mod (fun _ => False) w w' := by
  have HS := number s
  have HN := number n
  have HC := RCheckRing q r
  cases h1 : nm s with
  | false =>
    rw [h1] at HS
    rw [ck, if_neg (by rw [h1]; intro h; cases h.1)]
    clear h1 HC
    go_enter Try.func55, Try.ntmps55
    go_wp2_with (fail)
    refine (HS _).mono ?_
    rintro e w' ⟨rfl, rfl⟩
    go_wp2
    go_ret
    exact ⟨rfl, (Mod.refl _ _).alloc _⟩
  | true =>
    rw [h1] at HS
    cases h2 : nm n with
    | false =>
      rw [h2] at HN
      rw [ck, if_neg (by rw [h2]; intro h; cases h.2)]
      clear h1 h2 HC
      go_enter Try.func55, Try.ntmps55
      go_wp2_with (fail)
      refine (HS _).mono ?_
      rintro e w' ⟨rfl, rfl⟩
      go_wp2_with (fail)
      refine (HN _).mono ?_
      rintro e w' ⟨rfl, rfl⟩
      go_wp2
      go_ret
      exact ⟨rfl, (Mod.refl _ _).alloc _⟩
    | true =>
      rw [h2] at HN
      rw [ck, if_pos ⟨h1, h2⟩]
      clear h1 h2
      generalize cr q r = c at HC ⊢
      go_enter Try.func55, Try.ntmps55
      go_wp2_with (fail)
      refine (HS _).mono ?_
      rintro e w' ⟨rfl, rfl⟩
      go_wp2_with (fail)
      refine (HN _).mono ?_
      rintro e w' ⟨rfl, rfl⟩
      go_wp2_with (fail)
      refine (HC _).mono ?_
      rintro e w' ⟨rfl, hm⟩
      go_wp2
      go_ret
      exact ⟨rfl, ((Mod.refl _ _).alloc _).trans hm (fun _ _ h => h) (fun _ _ h => h)⟩
end Go.Proofs.Ytajhpnfpjickbaa
