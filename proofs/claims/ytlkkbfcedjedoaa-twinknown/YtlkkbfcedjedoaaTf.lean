/- Contracts of a twin's look, behind, next, and what they keep. Conditions: a twin that New made; counts below 2^60. -/
import Derived.Test.YtlkkbfcedjedoaaTe
namespace Go.Proofs.Ytlkkbfcedjedoaa
open Go.RowKit
theorem gr_bound (c : Nat → Int) (m : Nat) (N : Int) (hN : 0 ≤ N) (h : ∀ k, 0 ≤ c k ∧ c k ≤ N) : ∀ k, 0 ≤ gr c m k ∧ gr c m k ≤ N
  | 0 => by simp [gr, hN]
  | k + 1 => by
    have h1 := gr_bound c m N hN h k
    have h2 := h k
    rw [gr]
    split <;> omega
def Tn.top (a : Tn) : Int := gr a.c (on a.f false a.sz) a.sz
def Tn.lkf (a : Tn) (j : Nat) : Nat → Bool := fun i => if i < j ∧ 10 < a.top - a.c i then true else a.f i
/-- A twin, looked at. -/
def Tn.look (a : Tn) : Tn := { a with f := a.lkf a.sz }
theorem lkf_zero (a : Tn) : a.lkf 0 = a.f := by funext i; simp [Tn.lkf]
theorem lkf_pos {a : Tn} {k : Nat} (h : 10 < a.top - a.c k) : a.lkf (k + 1) = fun i => if i = k then true else a.lkf k i := by
  funext i
  unfold Tn.lkf
  by_cases e : i = k
  · subst e
    simp [h]
  · by_cases h1 : i < k + 1 ∧ 10 < a.top - a.c i
    · rw [if_pos h1, if_neg e, if_pos ⟨by omega, h1.2⟩]
    · rw [if_neg h1, if_neg e, if_neg (fun h2 => h1 (by omega))]
theorem lkf_neg {a : Tn} {k : Nat} (h : ¬ 10 < a.top - a.c k) : a.lkf (k + 1) = a.lkf k := by
  funext i
  unfold Tn.lkf
  by_cases h1 : i < k + 1 ∧ 10 < a.top - a.c i
  · by_cases e : i = k
    · subst e; exact absurd h1.2 h
    · rw [if_pos h1, if_pos (by omega)]
  · rw [if_neg h1, if_neg (fun h2 => h1 (by omega))]
theorem cells_setf (a : Tn) (B k : Nat) (hk : k < 3) (x : Bool) : (a.cells B).setIfInBounds (4 + 2 * k) (.bool x) = ({ a with f := fun i => if i = k then x else a.f i } : Tn).cells B := by
  rcases (by omega : k = 0 ∨ k = 1 ∨ k = 2) with rfl | rfl | rfl <;> rfl
theorem cells_setc (a : Tn) (B k : Nat) (hk : k < 3) (x : Int) : (a.cells B).setIfInBounds (3 + 2 * k) (.int .i64 x) = ({ a with c := fun i => if i = k then x else a.c i } : Tn).cells B := by
  rcases (by omega : k = 0 ∨ k = 1 ∨ k = 2) with rfl | rfl | rfl <;> rfl
theorem cell_c (a : Tn) (B k : Nat) (hk : k < 3) : (a.cells B)[3 + 2 * k]? = some (.int .i64 (a.c k)) := by
  rcases (by omega : k = 0 ∨ k = 1 ∨ k = 2) with rfl | rfl | rfl <;> rfl
theorem cell_f (a : Tn) (B k : Nat) (hk : k < 3) : (a.cells B)[4 + 2 * k]? = some (.bool (a.f k)) := by
  rcases (by omega : k = 0 ∨ k = 1 ∨ k = 2) with rfl | rfl | rfl <;> rfl
theorem on8 (f : Nat → Bool) (b : Bool) {z : Nat} (hz : z ≤ 3) : on f b z < 8 := by
  have h1 := on_lt f b z
  have h2 : 2 ^ z ≤ 2 ^ 3 := Nat.pow_le_pow_right (by omega) hz
  omega
set_option maxRecDepth 100000 in
set_option maxHeartbeats 1000000 in
theorem tlook {p B N : Nat} {a : Tn} {w : World} (h : Bk w p 72 (a.cells B)) (hN : N ≤ 1152921504606846976) (ok : OkT N a) : Calls Try.prog 57 #[.pointer (some ⟨p, 0, none⟩)] w fun e w' => e = .returned (.tuple #[]) ∧ Bk w' p 72 (a.look.cells B) ∧ Mod (fun i => i = p) w w' := by
  have hs := ok.sz.2
  have H1 := tonly h hs false
  have H2 := tgreatest h hs (on a.f false a.sz) (on8 _ _ hs)
  have c9 : w.cell? ⟨p, 9, none⟩ = some (.int .i64 a.sz) := h.cellv (j := 9) rfl
  have hT := gr_bound a.c (on a.f false a.sz) N (by omega) ok.c a.sz
  have hC := ok.c
  have HB : Hid (Bk w p 72 (({ a with f := a.lkf 0 } : Tn).cells B)) := by show Bk _ _ _ _; rw [lkf_zero]; exact h
  have HT : Hid (gr a.c (on a.f false a.sz) a.sz = a.top) := rfl
  obtain ⟨z, hz⟩ : ∃ z, z = a.sz := ⟨_, rfl⟩
  have HL : Hid (a.look.cells B = ({ a with f := a.lkf z } : Tn).cells B) := by show _ = _; rw [hz]; rfl
  clear h ok
  generalize gr a.c (on a.f false a.sz) a.sz = T at *
  generalize on a.f false a.sz = m at *
  rw [← hz] at hs c9
  clear hz
  go_enter Try.func57, Try.ntmps57
  go_wp2_with (fail)
  refine H1.mono ?_
  rintro e w ⟨rfl, rfl⟩
  go_wp2_with (fail)
  refine H2.mono ?_
  rintro e w ⟨rfl, rfl⟩
  clear H1 H2
  go_wp2
  go_loopw [12] (fun i wr => ∃ k : Nat, i = .int .i64 (k : Int) ∧ k ≤ z ∧ Hid (Bk wr p 72 (({ a with f := a.lkf k } : Tn).cells B)) ∧ Mod (fun i => i = p) w wr) (fun i _ => z - (intOf i).toNat)
  case atStart => exact ⟨0, rfl, by omega, HB, Mod.refl _ _⟩
  case round =>
    obtain ⟨k, rfl, hk, hB, hM⟩ := hrel
    clear HB c9
    by_cases hlt : k < z
    · have hi : (k : Int) < (z : Int) := by omega
      have hcK := hC k
      have cc := hB.out.cellv (cell_c _ B k (by omega))
      have ff := hB.out.cellv (cell_f _ B k (by omega))
      have fz := hB.out.frz (4 + 2 * k)
      have hw : wrap64 (T - a.c k) = T - a.c k := by unfold wrap64; omega
      have hw' : IntKind.i64.wrap (T - a.c k) = T - a.c k := by rw [IntKind.wrap_i64]; omega
      by_cases hd : 10 < T - a.c k
      · have hN : Hid (Bk (wr.setCell ⟨p, 4 + 2 * k, none⟩ (.bool true)) p 72 (({ a with f := a.lkf (k + 1) } : Tn).cells B)) := by
          have := hB.out.set (4 + 2 * k) (.bool true)
          rw [cells_setf _ _ _ (by omega)] at this
          rw [lkf_pos (by rw [← HT.out]; exact hd)]
          exact this
        have hM2 := hM.setCell ⟨p, 4 + 2 * k, none⟩ (.bool true) (.inl rfl)
        dsimp only at cc ff
        generalize a.c k = x at *
        generalize a.lkf k k = y at *
        clear hB hC hcK hT
        rcases (by omega : k = 0 ∨ k = 1 ∨ k = 2) with rfl | rfl | rfl <;> (go_wp2; go_roundw; (case rel => exact ⟨_, by first | rfl | go_num, by omega, hN, hM2⟩); (case measure => simp [intOf]; try omega))
      · have hN : Hid (Bk wr p 72 (({ a with f := a.lkf (k + 1) } : Tn).cells B)) := by
          rw [lkf_neg (by rw [← HT.out]; exact hd)]
          exact hB
        dsimp only at cc ff
        generalize a.c k = x at *
        clear hB hC hcK hT ff fz
        rcases (by omega : k = 0 ∨ k = 1 ∨ k = 2) with rfl | rfl | rfl <;> (go_wp2; go_roundw; (case rel => exact ⟨_, by first | rfl | go_num, by omega, hN, hM⟩); (case measure => simp [intOf]; try omega))
    · have hkz : k = z := by omega
      rw [hkz] at hB
      go_wp2
      go_end0
      exact ⟨rfl, HL.out ▸ hB.out, hM⟩
theorem tbehind {p B : Nat} {a : Tn} {w : World} (h : Bk w p 72 (a.cells B)) (hs : 1 ≤ a.sz ∧ a.sz ≤ 3) (i : Nat) (hi : i < a.sz) : Calls Try.prog 82 #[.pointer (some ⟨p, 0, none⟩), .int .i64 i] w fun e w' => e = .returned (.int .i64 ((i + 1) % a.sz : Nat)) ∧ w' = w := by
  have c9 : w.cell? ⟨p, 9, none⟩ = some (.int .i64 a.sz) := h.cellv (j := 9) rfl
  clear h
  generalize a.sz = z at *
  rcases (by omega : z = 1 ∨ z = 2 ∨ z = 3) with rfl | rfl | rfl <;> rcases (by omega : i = 0 ∨ i = 1 ∨ i = 2) with rfl | rfl | rfl <;> first | omega | skip
  all_goals
    go_enter Try.func82, Try.ntmps82
    go_wp2
    go_ret
    exact ⟨rfl, rfl⟩
/-- The next lane from i on that is well. -/
def nw (f : Nat → Bool) (z i : Nat) : Nat := if f i then (if f ((i + 1) % z) then (i + 2) % z else (i + 1) % z) else i
def nms (f : Nat → Bool) (z i : Nat) : Nat := if f i then (if f ((i + 1) % z) then 2 else 1) else 0
theorem nw_step {f : Nat → Bool} {z i : Nat} (hz : 1 ≤ z ∧ z ≤ 3) (hi : i < z) (hf : f i = true) (hw : ∃ k, k < z ∧ f k = false) : nw f z ((i + 1) % z) = nw f z i ∧ nms f z ((i + 1) % z) < nms f z i := by
  obtain ⟨k, hk, hk0⟩ := hw
  unfold nw nms
  rcases (by omega : z = 1 ∨ z = 2 ∨ z = 3) with rfl | rfl | rfl <;> rcases (by omega : i = 0 ∨ i = 1 ∨ i = 2) with rfl | rfl | rfl <;> rcases (by omega : k = 0 ∨ k = 1 ∨ k = 2) with rfl | rfl | rfl <;> (first | omega | skip) <;> simp_all <;> (cases h0 : f 0 <;> cases h1 : f 1 <;> cases h2 : f 2 <;> simp_all)
theorem nw_well {f : Nat → Bool} {z i : Nat} (hz : 1 ≤ z ∧ z ≤ 3) (hi : i < z) (hw : ∃ k, k < z ∧ f k = false) : nw f z i < z ∧ f (nw f z i) = false := by
  obtain ⟨k, hk, hk0⟩ := hw
  unfold nw
  rcases (by omega : z = 1 ∨ z = 2 ∨ z = 3) with rfl | rfl | rfl <;> rcases (by omega : i = 0 ∨ i = 1 ∨ i = 2) with rfl | rfl | rfl <;> rcases (by omega : k = 0 ∨ k = 1 ∨ k = 2) with rfl | rfl | rfl <;> (first | omega | skip) <;> simp_all <;> (cases h0 : f 0 <;> cases h1 : f 1 <;> cases h2 : f 2 <;> simp_all)
/-- The lane that is sent over next. -/
def Tn.nx (a : Tn) : Nat := nw a.f a.sz ((a.la + 1) % a.sz)
theorem nx_well {N : Nat} {a : Tn} (ok : OkT N a) : a.nx < a.sz ∧ a.f a.nx = false := nw_well ok.sz (Nat.mod_lt _ ok.sz.1) ok.well
set_option maxRecDepth 100000 in
set_option maxHeartbeats 1000000 in
theorem tnext {p B N : Nat} {a : Tn} {w : World} (h : Bk w p 72 (a.cells B)) (ok : OkT N a) : Calls Try.prog 76 #[.pointer (some ⟨p, 0, none⟩)] w fun e w' => e = .returned (.int .i64 (a.nx : Nat)) ∧ w' = w := by
  have c11 : w.cell? ⟨p, 11, none⟩ = some (.int .i64 a.la) := h.cellv (j := 11) rfl
  have H := fun i hi => tbehind h ok.sz i hi
  have HF : Hid (∀ k, k < 3 → w.cell? ⟨p, 4 + 2 * k, none⟩ = some (.bool (a.f k))) := fun k hk => h.cellv (cell_f a B k hk)
  have HX : Hid (a.nx = nw a.f a.sz ((a.la + 1) % a.sz)) := rfl
  have H0 := H a.la ok.la
  have hz := ok.sz
  have hm := Nat.mod_lt (a.la + 1) ok.sz.1
  have HW : Hid (∃ k, k < a.sz ∧ a.f k = false) := ok.well
  clear h ok
  generalize a.nx = X at *
  generalize (a.la + 1) % a.sz = i0 at *
  generalize a.la = la at *
  generalize a.f = f at *
  generalize a.sz = z at *
  go_enter Try.func76, Try.ntmps76
  go_wp2_with (fail)
  refine H0.mono ?_
  rintro e w1 ⟨rfl, hw1⟩
  rw [hw1]
  clear hw1 H0 c11
  go_wp2
  go_loop [3] (fun i => ∃ k : Nat, i = .int .i64 (k : Int) ∧ k < z ∧ Hid (X = nw f z k)) (fun i => nms f z (intOf i).toNat)
  case atStart => exact ⟨i0, rfl, hm, HX⟩
  case round =>
    obtain ⟨k, rfl, hk, hX⟩ := hrel
    have ff := HF.out k (by omega)
    have Hk := H k hk
    have hk3 : (k : Int) < 3 := by omega
    cases hf : f k with
    | true =>
      rw [hf] at ff
      obtain ⟨s1, s2⟩ := nw_step hz hk hf HW.out
      have hm1 := Nat.mod_lt (k + 1) hz.1
      have HX1 : Hid (X = nw f z ((k + 1) % z)) := hX.out.trans s1.symm
      clear hX s1 hf H HF HX
      have hms : Hid (nms f z ((k + 1) % z) < nms f z k) := s2
      clear s2
      rcases (by omega : k = 0 ∨ k = 1 ∨ k = 2) with rfl | rfl | rfl
      · go_wp2_with (fail)
        refine Hk.mono ?_
        rintro e w1 ⟨rfl, hw1⟩
        rw [hw1]
        go_wp2
        go_round
        case rel => exact ⟨_, rfl, hm1, HX1⟩
        case measure => exact hms.out
      · go_wp2_with (fail)
        refine Hk.mono ?_
        rintro e w1 ⟨rfl, hw1⟩
        rw [hw1]
        go_wp2
        go_round
        case rel => exact ⟨_, rfl, hm1, HX1⟩
        case measure => exact hms.out
      · go_wp2_with (fail)
        refine Hk.mono ?_
        rintro e w1 ⟨rfl, hw1⟩
        rw [hw1]
        go_wp2
        go_round
        case rel => exact ⟨_, rfl, hm1, HX1⟩
        case measure => exact hms.out
    | false =>
      rw [hf] at ff
      have HXk : Hid (X = k) := by show _ = _; rw [hX.out]; simp [nw, hf]
      clear hX hf H HF HX Hk
      rcases (by omega : k = 0 ∨ k = 1 ∨ k = 2) with rfl | rfl | rfl <;> (go_wp2; go_ret; exact ⟨by rw [HXk.out]; rfl, rfl⟩)
end Go.Proofs.Ytlkkbfcedjedoaa
