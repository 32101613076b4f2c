/- Slices of ints: append of one, whether two are the same, numbers brought. Conditions: sizes that a slice has. -/
import Derived.Test.YtampdkbcijdpcaaYs
import Derived.Test.YtampdkbcijdpcaaYa
import Derived.Deep.QuietTactic
import Derived.BigQuiet
namespace Go.Proofs.Ytampdkbcijdpcaa.Cr
open Go.RowKit
theorem info3 : (Try.prog.info? 3).map (fun i => (i.zero, i.size, i.bytes)) = some (some (.int .i64 0), 1, 8) := by kernel_rfl
theorem eq_take {a b : List Int} {k : Nat} (ha : k < a.length) (hb : k < b.length) (h : a.take k = b.take k) (hk : a.getD k 0 = b.getD k 0) : a.take (k + 1) = b.take (k + 1) := by
  rw [List.take_succ_eq_append_getElem ha, List.take_succ_eq_append_getElem hb, h]
  simp [ha, hb] at hk
  rw [hk]
set_option maxRecDepth 100000 in
theorem EqInts_some (b1 o1 c1 b2 o2 c2 : Nat) (a b : List Int) (w : World) (hl : a.length = b.length) (hmax : a.length ≤ 9223372036854775807)
   (hca : ∀ j, j < a.length → w.cell? ⟨b1, o1 + j, none⟩ = some (.int .i64 (a.getD j 0)))
   (hcb : ∀ j, j < b.length → w.cell? ⟨b2, o2 + j, none⟩ = some (.int .i64 (b.getD j 0))) :
    Calls Try.prog 21 #[.slice (some ⟨b1, o1, none⟩) a.length c1, .slice (some ⟨b2, o2, none⟩) b.length c2] w fun e w' => e = .returned (.bool (decide (a = b))) ∧ ∃ n, w' = w.drewN n := by
  have HL : Hid (a.length = b.length) := hl
  obtain ⟨n, hn⟩ : ∃ n, n = a.length := ⟨_, rfl⟩
  rw [← hl, ← hn] 
  rw [← hl] at hcb
  rw [← hn] at hmax hca hcb
  have HN : Hid (n = a.length) := hn
  clear hl hn
  go_enter Try.func21, Try.ntmps21
  go_wp2
  go_loopw [5] (fun i wr => ∃ k q : Nat, i = .int .i64 k ∧ k ≤ n ∧ Hid (a.take k = b.take k) ∧ wr = w.drewN q) (fun i _ => n - (intOf i).toNat)
  case atStart => exact ⟨0, 0, rfl, by omega, rfl, rfl⟩
  case round =>
    obtain ⟨k, q, rfl, hk, ht, rfl⟩ := hrel
    by_cases hlt : k < n
    · have h1 := hca k hlt
      have h2 := hcb k hlt
      have hi : (k : Int) < (n : Int) := by omega
      obtain ⟨x, hx⟩ : ∃ x, x = a.getD k 0 := ⟨_, rfl⟩
      obtain ⟨y, hy⟩ : ∃ y, y = b.getD k 0 := ⟨_, rfl⟩
      rw [← hx] at h1
      rw [← hy] at h2
      have HX : Hid (x = a.getD k 0) := hx
      have HY : Hid (y = b.getD k 0) := hy
      clear hx hy hca hcb
      go_wp2
      go_quiet (fail)
      go_wp2
      · have hne : x ≠ y := by have : (x != y) = true := by assumption
                               simpa using this
        go_ret
        refine ⟨?_, q + nq, by simp⟩
        have : ¬ a = b := by
          intro e
          apply hne
          rw [HX.out, HY.out, e]
        simp [this]
      · have heq : x = y := by have : (x != y) = false := by assumption
                               simpa using this
        have HT : Hid (a.take (k + 1) = b.take (k + 1)) := eq_take (by have := HN.out; omega) (by have := HN.out; have := HL.out; omega) ht.out (by rw [← HX.out, ← HY.out, heq])
        go_roundw
        case rel => exact ⟨k + 1, q + nq, by go_num, by omega, HT, by simp⟩
        case measure => simp [intOf]; omega
    · have e : a = b := by
        have h := ht.out
        have h1 := HN.out
        have h2 := HL.out
        rwa [List.take_of_length_le (by omega), List.take_of_length_le (by omega)] at h
      have HE : Hid (a = b) := e
      clear e hca hcb
      go_wp2
      go_ret
      exact ⟨by simp [HE.out], q, rfl⟩
theorem EqInts_zero (a1 : Option Addr) (c1 : Nat) (a2 : Option Addr) (c2 : Nat) (w : World) :
    Calls Try.prog 21 #[.slice a1 0 c1, .slice a2 0 c2] w fun e w' => e = .returned (.bool true) ∧ w' = w := by
  go_enter Try.func21, Try.ntmps21
  go_wp2
  go_loop [5] (fun i => i = .int .i64 0) (fun _ => 0)
  case atStart => rfl
  case round =>
    obtain rfl := hrel
    go_wp2
    go_ret
    exact ⟨rfl, rfl⟩
theorem EqInts_len (a1 : Option Addr) (n1 c1 : Nat) (a2 : Option Addr) (n2 c2 : Nat) (w : World) (h : n1 ≠ n2) :
    Calls Try.prog 21 #[.slice a1 n1 c1, .slice a2 n2 c2] w fun e w' => e = .returned (.bool false) ∧ w' = w := by
  have hb : ((n1 : Int) == (n2 : Int)) = false := by simp; omega
  have hn : ((n1 : Int) != (n2 : Int)) = true := by simp; omega
  go_enter Try.func21, Try.ntmps21
  go_wp2
  go_ret
  exact ⟨rfl, rfl⟩
/-- EqInts: whether two lists are the same. -/
theorem EqInts_any (u v : Value) (a b : List Int) (w : World) (hu : Sl w u a) (hv : Sl w v b) :
    Calls Try.prog 21 #[u, v] w fun e w' => e = .returned (.bool (decide (a = b))) ∧ Mod (fun _ => False) w w' := by
  obtain ⟨a1, c1, rfl, _, hm, _, h1⟩ := hu
  obtain ⟨a2, c2, rfl, _, _, _, h2⟩ := hv
  by_cases hl : a.length = b.length
  · by_cases ha : a = []
    · subst ha
      obtain rfl : b = [] := List.eq_nil_of_length_eq_zero (by simpa using hl.symm)
      refine (EqInts_zero _ _ _ _ _).mono ?_
      rintro e w' ⟨rfl, rfl⟩
      exact ⟨by simp, Mod.refl _ _⟩
    · obtain ⟨b1, o1, rfl, hc1⟩ := h1 ha
      obtain ⟨b2, o2, rfl, hc2⟩ := h2 (by rintro rfl; exact ha (List.eq_nil_of_length_eq_zero (by simpa using hl)))
      refine (EqInts_some b1 o1 c1 b2 o2 c2 a b w hl (by unfold maxLen at hm; omega) hc1 hc2).mono ?_
      rintro e w' ⟨rfl, n, rfl⟩
      exact ⟨rfl, (Mod.refl _ _).drewN n⟩
  · refine (EqInts_len _ _ _ _ _ _ _ hl).mono ?_
    rintro e w' ⟨rfl, rfl⟩
    have : ¬ a = b := by rintro rfl; exact hl rfl
    exact ⟨by simp [this], Mod.refl _ _⟩
theorem EqInts_at {u v : Value} {w : World} {a b : List Int} (r : Bool) (hu : Sl w u a) (hv : Sl w v b) (hr : decide (a = b) = r) :
    Calls Try.prog 21 #[u, v] w fun e w' => e = .returned (.bool r) ∧ Mod (fun _ => False) w w' := by
  have c := EqInts_any u v a b w hu hv
  rwa [hr] at c
end Go.Proofs.Ytampdkbcijdpcaa.Cr
namespace Go.Proofs.Ytampdkbcijdpcaa
open Go.RowKit
/-- x brought to 0 .. m - 1. -/
def br (x m : Int) : Int := if x.tmod m < 0 then x.tmod m + m else x.tmod m
theorem br_rng (x : Int) (m : Nat) (h0 : 0 < m) : 0 ≤ br x m ∧ br x m < m ∧ -(m : Int) < x.tmod m ∧ x.tmod m < m := by
  have q1 : ¬ ((m : Int) = 0) := by omega
  have hb : -(m : Int) < x.tmod (m : Int) ∧ x.tmod (m : Int) < (m : Int) := by
    rcases (show 0 ≤ x ∨ x < 0 by omega) with h | h
    · rw [Int.tmod_eq_emod_of_nonneg h]
      have a1 := Int.emod_nonneg x q1
      have a2 := Int.emod_lt_of_pos x (show (0 : Int) < m by omega)
      omega
    · have e := Int.neg_tmod (-x) (m : Int)
      rw [Int.neg_neg, Int.tmod_eq_emod_of_nonneg (by omega : 0 ≤ -x)] at e
      rw [e]
      have a1 := Int.emod_nonneg (-x) q1
      have a2 := Int.emod_lt_of_pos (-x) (show (0 : Int) < m by omega)
      omega
  unfold br
  split <;> omega
theorem bring (x : Int) (m : Nat) (w : World) (h0 : 0 < m) (hm : m ≤ 1152921504606846976) (h : -9223372036854775808 ≤ x ∧ x ≤ 9223372036854775807) :
    Calls Try.prog 16 #[.int .i64 x, .int .i64 (m : Int)] w fun e w' => e = .returned (.int .i64 (br x m)) ∧ w' = w := by
  have q0 : ¬ ((m : Int) ≤ 0) := by omega
  have q1 : ¬ ((m : Int) = 0) := by omega
  have q2 : ((m : Int) == 0) = false := by simp; omega
  obtain ⟨_, _, b1, b2⟩ := br_rng x m h0
  unfold br
  generalize hr : x.tmod (m : Int) = r at b1 b2 ⊢
  obtain ⟨h1, h2⟩ := h
  by_cases hneg : r < 0
  · rw [if_pos hneg]
    go_enter Try.func16, Try.ntmps16
    go_wp2
    go_ret
    exact ⟨rfl, rfl⟩
  · rw [if_neg hneg]
    go_enter Try.func16, Try.ntmps16
    go_wp2
    go_ret
    exact ⟨rfl, rfl⟩
theorem Cr.Own.rng {w : World} {v : Value} {l : List Int} (h : Cr.Own w v l) : ∃ ao cap, v = .slice ao l.length cap ∧ l.length ≤ cap ∧ cap ≤ maxLen := by
  rcases h.2 with ⟨rfl, h0⟩ | ⟨g, cap, cur, rfl, _, _, hn, hc, _⟩
  · exact ⟨none, 0, by rw [h0], by omega, by simp [maxLen]⟩
  · exact ⟨_, cap, rfl, hn, hc⟩
theorem cell_one (w : World) (b : Nat) (u : Value) (h : w.cell? ⟨b, 0, none⟩ = some u) : ∀ j x, [u][j]? = some x → w.cell? ((⟨b, 0, none⟩ : Addr).add j) = some x := fun j x hj => by
  cases j with
  | zero => simp at hj; subst hj; simpa [Addr.add] using h
  | succ n => simp at hj
/-- append of one int. -/
theorem wpList_app1 {ops : Array Oper} {rest : List Oper} {o : Oper} {a : Act} {w : World} {Q : Exit → Act → World → Prop} (hgd : o.guard = none) (s x : Operand) (ho : o.op = .call { callee := .builtin .append, args := #[s, x], argTypes := #[55, 55] })
    (v : Value) (l : List Int) (y : Int) (b : Nat) (hs : a.eval s = v) (hx : a.eval x = .slice (some ⟨b, 0, none⟩) 1 1) (hv : Cr.Own w v l) (hb : w.cell? ⟨b, 0, none⟩ = some (.int .i64 y)) (hl : l.length + 1 ≤ 1000000000000)
    (h : ∀ v' w', Cr.Own w' v' (l ++ [y]) → Mod (fun k => v.ownBlock = some k) w w' → Fr w v v' → wpList Try.prog ops Q rest (a.put o.dst v') w') : wpList Try.prog ops Q (o :: rest) a w := by
  obtain ⟨i0, hi, hz0, hz1, hz2⟩ := info_parts Cr.info3
  refine wpList_append_own_at _ hgd _ _ 55 ho 0 3 i0 (.int .i64 0) 1 8 Try.underlying55 hi hz0 hz1 hz2 rfl (by decide) v l.length (Cr.U l) hs hv ⟨b, 0, none⟩ 1 1 [.int .i64 y] hx rfl (cell_one w b _ hb) (Cr.U_one [y]) (by simp only [maxLen]; omega) (by omega) (Nat.zero_le _) ?_
  intro v' w' hown hgrow hnil hat
  refine h v' w' ?_ ((Mod.refl _ w).grown hgrow (fun k hk _ => hk)) (fun g hg => ?_)
  · unfold Cr.Own
    rw [Cr.U_app, List.length_append]
    exact hown
  · rcases hat with h1 | h1
    · rw [h1] at hg; exact .inl hg
    · rw [h1] at hg; simp only [Option.some.injEq] at hg; exact .inr (by omega)
end Go.Proofs.Ytampdkbcijdpcaa
