/- Contracts of CopyInts and EqInts: what each returns and which blocks it turns, for slices of ints. Conditions: slices of at most 2^47 bytes. -/
import Derived.Test.YtlhgpbelgifnpaaCa
import Derived.Deep.QuietTactic
import Derived.BigQuiet
namespace Go.Proofs.Ytlhgpbelgifnpaa
open Go.RowKit
theorem info3 : (Try.prog.info? 3).map (fun i => (i.zero, i.size, i.bytes)) = some (some (.int .i64 0), 1, 8) := by kernel_rfl

theorem add_at (b off j : Nat) : (⟨b, off, none⟩ : Addr).add j = ⟨b, off + j, none⟩ := by
  unfold Addr.add
  by_cases h : j = 0 <;> simp [h]

/-- The cells of a slice that reads as l, in the form that append asks. -/
theorem cells_of {w : World} {b off : Nat} {l : List Int} (hc : ∀ j, j < l.length → w.cell? ⟨b, off + j, none⟩ = some (.int .i64 (l.getD j 0))) : ∀ j u, (U l)[j]? = some u → w.cell? ((⟨b, off, none⟩ : Addr).add j) = some u := by
  intro j u hu
  have hj : j < l.length := by
    rcases Nat.lt_or_ge j l.length with h | h
    · exact h
    · rw [List.getElem?_eq_none (by rw [U_len]; exact h)] at hu; cases hu
  rw [U_get l j hj] at hu
  cases hu
  rw [add_at]
  exact hc j hj

/-- One int that was just laid. -/
theorem app1 (w : World) (c : Int) (t : TypeId) : ∀ j u, [Value.int .i64 c][j]? = some u → (w.alloc (.cells #[.int .i64 c] t)).cell? ((⟨w.heap.size, 0, none⟩ : Addr).add j) = some u := by
  intro j u hj
  match j, hj with
  | 0, hj => simp at hj; subst hj; simp [Addr.add]
  | j + 1, hj => simp at hj

theorem copy_any (v : Value) (l : List Int) (w : World) (hs : Sl w v l) (hb : l.length ≤ 17592186044416) :
    Calls Try.prog 23 #[v] w fun e w' => ∃ v', e = .returned v' ∧ Own w' v' l ∧ Mod (fun _ => False) w w' ∧ (∀ g, v'.ownBlock = some g → w.heap.size ≤ g) := by
  obtain ⟨i0, hi, hz0, hz1, hz2⟩ := info_parts info3
  obtain ⟨ao, cap, rfl, h1, h2, h3, h4⟩ := hs
  cases ao with
  | none =>
    obtain rfl := h3 rfl
    obtain rfl : l = [] := List.eq_nil_of_length_eq_zero (by omega)
    go_enter Try.func23, Try.ntmps23
    go_wp2
    go_ret
    exact ⟨_, rfl, Own.nil _, Mod.refl _ _, by intro g hg; simp [Value.ownBlock] at hg⟩
  | some a =>
    have hcells : ∀ j u, (U l)[j]? = some u → w.cell? (a.add j) = some u := fun j u hu => by
      by_cases hl : l = []
      · subst hl; simp [U] at hu
      · obtain ⟨b, off, e, hc⟩ := h4 hl
        cases e
        exact cells_of hc j u hu
    clear h4
    go_enter Try.func23, Try.ntmps23
    go_wp2_with (at_builtin; refine wpList_append_own_at _ rfl _ _ 25 rfl 0 3 i0 (.int .i64 0) 1 8 Try.underlying25 hi hz0 hz1 hz2 rfl (by decide) (.slice none 0 0) 0 [] rfl (World.ownsRow_nil _ _ _ _) a l.length cap (U l) rfl (by simp [U]) hcells (U_one l) (by simp only [maxLen]; omega) (by omega) (Nat.zero_le _) ?_; intro v2 w2 hown2 hgrow hnil hat; simp only [Nat.zero_add, List.nil_append] at hown2)
    go_ret
    refine ⟨v2, rfl, hown2, (Mod.refl _ w).grown hgrow (by intro k hk; simp [Value.ownBlock] at hk), ?_⟩
    intro g hg
    rcases hat with h | h
    · rw [h] at hg; simp [Value.ownBlock] at hg
    · rw [h] at hg; simp at hg; omega
theorem eq_take {a b : List Int} {k : Nat} (ha : k < a.length) (hb : k < b.length) (h : a.take k = b.take k) (hk : a.getD k 0 = b.getD k 0) : a.take (k + 1) = b.take (k + 1) := by
  rw [List.take_succ_eq_append_getElem ha, List.take_succ_eq_append_getElem hb, h]
  simp [ha, hb] at hk
  rw [hk]
set_option maxRecDepth 100000 in
theorem EqInts_some (b1 o1 c1 b2 o2 c2 : Nat) (a b : List Int) (w : World) (hl : a.length = b.length) (hmax : a.length ≤ 9223372036854775807)
   (hca : ∀ j, j < a.length → w.cell? ⟨b1, o1 + j, none⟩ = some (.int .i64 (a.getD j 0)))
   (hcb : ∀ j, j < b.length → w.cell? ⟨b2, o2 + j, none⟩ = some (.int .i64 (b.getD j 0))) :
    Calls Try.prog 11 #[.slice (some ⟨b1, o1, none⟩) a.length c1, .slice (some ⟨b2, o2, none⟩) b.length c2] w fun e w' => e = .returned (.bool (decide (a = b))) ∧ ∃ n, w' = w.drewN n := by
  have HL : Hid (a.length = b.length) := hl
  obtain ⟨n, hn⟩ : ∃ n, n = a.length := ⟨_, rfl⟩
  rw [← hl, ← hn] 
  rw [← hl] at hcb
  rw [← hn] at hmax hca hcb
  have HN : Hid (n = a.length) := hn
  clear hl hn
  go_enter Try.func11, Try.ntmps11
  go_wp2
  go_loopw [5] (fun i wr => ∃ k q : Nat, i = .int .i64 k ∧ k ≤ n ∧ Hid (a.take k = b.take k) ∧ wr = w.drewN q) (fun i _ => n - (intOf i).toNat)
  case atStart => exact ⟨0, 0, rfl, by omega, rfl, rfl⟩
  case round =>
    obtain ⟨k, q, rfl, hk, ht, rfl⟩ := hrel
    by_cases hlt : k < n
    · have h1 := hca k hlt
      have h2 := hcb k hlt
      have hi : (k : Int) < (n : Int) := by omega
      obtain ⟨x, hx⟩ : ∃ x, x = a.getD k 0 := ⟨_, rfl⟩
      obtain ⟨y, hy⟩ : ∃ y, y = b.getD k 0 := ⟨_, rfl⟩
      rw [← hx] at h1
      rw [← hy] at h2
      have HX : Hid (x = a.getD k 0) := hx
      have HY : Hid (y = b.getD k 0) := hy
      clear hx hy hca hcb
      go_wp2
      go_quiet (fail)
      go_wp2
      · have hne : x ≠ y := by have : (x != y) = true := by assumption
                               simpa using this
        go_ret
        refine ⟨?_, q + nq, by simp⟩
        have : ¬ a = b := by
          intro e
          apply hne
          rw [HX.out, HY.out, e]
        simp [this]
      · have heq : x = y := by have : (x != y) = false := by assumption
                               simpa using this
        have HT : Hid (a.take (k + 1) = b.take (k + 1)) := eq_take (by have := HN.out; omega) (by have := HN.out; have := HL.out; omega) ht.out (by rw [← HX.out, ← HY.out, heq])
        go_roundw
        case rel => exact ⟨k + 1, q + nq, by go_num, by omega, HT, by simp⟩
        case measure => simp [intOf]; omega
    · have e : a = b := by
        have h := ht.out
        have h1 := HN.out
        have h2 := HL.out
        rwa [List.take_of_length_le (by omega), List.take_of_length_le (by omega)] at h
      have HE : Hid (a = b) := e
      clear e hca hcb
      go_wp2
      go_ret
      exact ⟨by simp [HE.out], q, rfl⟩
theorem EqInts_zero (a1 : Option Addr) (c1 : Nat) (a2 : Option Addr) (c2 : Nat) (w : World) :
    Calls Try.prog 11 #[.slice a1 0 c1, .slice a2 0 c2] w fun e w' => e = .returned (.bool true) ∧ w' = w := by
  go_enter Try.func11, Try.ntmps11
  go_wp2
  go_loop [5] (fun i => i = .int .i64 0) (fun _ => 0)
  case atStart => rfl
  case round =>
    obtain rfl := hrel
    go_wp2
    go_ret
    exact ⟨rfl, rfl⟩
theorem EqInts_len (a1 : Option Addr) (n1 c1 : Nat) (a2 : Option Addr) (n2 c2 : Nat) (w : World) (h : n1 ≠ n2) :
    Calls Try.prog 11 #[.slice a1 n1 c1, .slice a2 n2 c2] w fun e w' => e = .returned (.bool false) ∧ w' = w := by
  have hb : ((n1 : Int) == (n2 : Int)) = false := by simp; omega
  have hn : ((n1 : Int) != (n2 : Int)) = true := by simp; omega
  go_enter Try.func11, Try.ntmps11
  go_wp2
  go_ret
  exact ⟨rfl, rfl⟩
/-- EqInts: whether two lists are the same. -/
theorem EqInts_any (u v : Value) (a b : List Int) (w : World) (hu : Sl w u a) (hv : Sl w v b) :
    Calls Try.prog 11 #[u, v] w fun e w' => e = .returned (.bool (decide (a = b))) ∧ Mod (fun _ => False) w w' := by
  obtain ⟨a1, c1, rfl, _, hm, _, h1⟩ := hu
  obtain ⟨a2, c2, rfl, _, _, _, h2⟩ := hv
  by_cases hl : a.length = b.length
  · by_cases ha : a = []
    · subst ha
      obtain rfl : b = [] := List.eq_nil_of_length_eq_zero (by simpa using hl.symm)
      refine (EqInts_zero _ _ _ _ _).mono ?_
      rintro e w' ⟨rfl, rfl⟩
      exact ⟨by simp, Mod.refl _ _⟩
    · obtain ⟨b1, o1, rfl, hc1⟩ := h1 ha
      obtain ⟨b2, o2, rfl, hc2⟩ := h2 (by rintro rfl; exact ha (List.eq_nil_of_length_eq_zero (by simpa using hl)))
      refine (EqInts_some b1 o1 c1 b2 o2 c2 a b w hl (by unfold maxLen at hm; omega) hc1 hc2).mono ?_
      rintro e w' ⟨rfl, n, rfl⟩
      exact ⟨rfl, (Mod.refl _ _).drewN n⟩
  · refine (EqInts_len _ _ _ _ _ _ _ hl).mono ?_
    rintro e w' ⟨rfl, rfl⟩
    have : ¬ a = b := by rintro rfl; exact hl rfl
    exact ⟨by simp [this], Mod.refl _ _⟩
theorem EqInts_at {u v : Value} {w : World} {a b : List Int} (r : Bool) (hu : Sl w u a) (hv : Sl w v b) (hr : decide (a = b) = r) :
    Calls Try.prog 11 #[u, v] w fun e w' => e = .returned (.bool r) ∧ Mod (fun _ => False) w w' := by
  have c := EqInts_any u v a b w hu hv
  rwa [hr] at c
theorem Mod.none {S : Nat → Prop} {a b : World} (h : Mod (fun _ => False) a b) : Mod S a b := h.mono fun _ _ h => h.elim
end Go.Proofs.Ytlhgpbelgifnpaa
