/- Contracts of the document's own writer, Fixed. Conditions: what is written stays below 2^47 bytes. -/
import Derived.Test.YtfinaabhmdnjfaaGa
namespace Go.Proofs.Ytfinaabhmdnjfaa
open Go.RowKit
set_option maxRecDepth 100000 in
theorem gFixed_bad (p : Nat) (x size : Int) (w : World) (hx : x ≤ 9223372036854775807) (hE : fwE x size ≠ 0) :
    Calls Try.prog 15 #[.pointer (some ⟨p, 0, none⟩), .int .i64 x, .int .i64 size] w fun e w' => e = .returned (.int .i64 (fwE x size)) ∧ w' = w := by
  unfold fwE at hE ⊢
  by_cases ha : size < 1 ∨ 8 < size
  · rw [if_pos ha]
    clear hE
    rcases ha with ha | ha
    · go_enter Try.func15, Try.ntmps15
      go_wp2
      go_ret
      exact ⟨rfl, rfl⟩
    · have ha' : ¬ size < 1 := by omega
      go_enter Try.func15, Try.ntmps15
      go_wp2
      go_ret
      exact ⟨rfl, rfl⟩
  · rw [if_neg ha] at hE ⊢
    have hb : x < 0 ∨ 256 ^ size.toNat ≤ x := by
      rcases Classical.em (x < 0 ∨ 256 ^ size.toNat ≤ x) with h | h
      · exact h
      · rw [if_neg h] at hE; omega
    rw [if_pos hb]
    clear hE
    have a1 : 1 ≤ size := by omega
    have a2 : size ≤ 8 := by omega
    clear ha
    obtain ⟨n, rfl⟩ := Int.eq_ofNat_of_zero_le (a := size) (by omega)
    rcases Int.lt_or_le x 0 with hneg | hpos
    · clear hb
      go_enter Try.func15, Try.ntmps15
      go_wp2
      go_ret
      exact ⟨rfl, rfl⟩
    · rw [Int.toNat_natCast] at hb
      have hb2 : ((256 ^ n : Nat) : Int) ≤ x := by
        have h2 : ((256 ^ n : Nat) : Int) = (256 : Int) ^ n := by simp
        omega
      have hn8 : n < 8 := by
        rcases Nat.lt_or_ge n 8 with h | h
        · exact h
        · have : 256 ^ 8 ≤ 256 ^ n := Nat.pow_le_pow_right (by omega) h
          omega
      obtain ⟨P, hP⟩ : ∃ P, 256 ^ n = P := ⟨_, rfl⟩
      rw [hP] at hb2
      have HP : Hid (256 ^ n = P) := hP
      clear hb hP
      have hni : (n : Int) < 8 := by omega
      go_enter Try.func15, Try.ntmps15
      go_wp2_with (go_at_call 35; refine (power_any n P _ (by omega) HP).mono ?_; rintro e w' ⟨rfl, rfl⟩)
      go_ret
      exact ⟨rfl, rfl⟩
set_option maxRecDepth 100000 in
set_option maxHeartbeats 1000000 in
theorem gFixed_go (p : Nat) (v : Value) (l : List Int) (x n : Nat) (w : World) (h : Wg w p v l) (hx : x ≤ 9223372036854775807) (h1n : 1 ≤ n) (hn8 : n ≤ 8) (hfit : x < 256 ^ n) (hb : l.length + 8 ≤ 140737488355328) :
    Calls Try.prog 15 #[.pointer (some ⟨p, 0, none⟩), .int .i64 (x : Int), .int .i64 (n : Int)] w fun e w' => e = .returned (.int .i64 0) ∧ ∃ v', Wg w' p v' (l ++ fenc n x) ∧ Mod (fun k => k = p ∨ v.ownBlock = some k) w w' ∧ Fr w v v' := by
  obtain ⟨i0, hi, hz0, hz1, hz2⟩ := info_parts info5
  obtain ⟨P, hP⟩ : ∃ P, 256 ^ n = P := ⟨_, rfl⟩
  have hxP : (x : Int) < (P : Int) := by rw [← hP]; omega
  have HP : Hid (256 ^ n = P) := hP
  clear hfit hP
  rcases (show n < 8 ∨ 8 ≤ n from by omega) with hnb | hnb
  · have hni : (n : Int) < 8 := by omega
    have hPd : ¬ P ≤ x := by omega
    go_enter Try.func15, Try.ntmps15
    go_wp2_with (go_at_call 35; refine (power_any n P _ (by omega) HP).mono ?_; rintro e w' ⟨rfl, rfl⟩)
    go_loopw [7] (fun i wr => ∃ (m : Nat) (v' : Value) (l' : List Int), i = .int .i64 ((m : Int) - 1) ∧ m ≤ n ∧ Hid (l' ++ fenc m x = l ++ fenc n x) ∧ l'.length + m ≤ l.length + 8 ∧ Wg wr p v' l' ∧ Mod (fun k => k = p ∨ v.ownBlock = some k) w' wr ∧ Fr w' v v') (fun i _ => (intOf i + 1).toNat)
    case atStart => exact ⟨n, v, l, by go_num, by omega, rfl, by omega, h, Mod.refl _ _, Fr.refl _ _⟩
    case round =>
      obtain ⟨m, v', l', rfl, hmn, hl, hlen, hw, hm, hfr⟩ := hrel
      clear h
      have h1 := hw.c0
      have hfz := hw.f0
      have hown := hw.own
      have hne := hw.ne
      cases m with
      | zero =>
        have HL := hl.out
        simp only [fenc, List.append_nil] at HL
        subst HL
        go_wp2
        go_ret
        exact ⟨rfl, _, hw, hm, hfr⟩
      | succ m =>
        have e1 : (((m + 1 : Nat) : Int) - 1) = (m : Int) := by omega
        rw [e1]
        obtain ⟨Pm, hPm⟩ : ∃ Pm, 256 ^ m = Pm := ⟨_, rfl⟩
        have hPp : 0 < Pm := by rw [← hPm]; exact Nat.pow_pos (by omega)
        have hcdef : ((x / 256 ^ m % 256 : Nat) : Int) = (x : Int) / (Pm : Int) % 256 := by rw [← hPm]; omega
        have hl2 : l' ++ [((x / 256 ^ m % 256 : Nat) : Int)] ++ fenc m x = l ++ fenc n x := by
          rw [← hl.out, fenc]
          simp
        rw [hcdef] at hl2
        have HPm : Hid (256 ^ m = Pm) := hPm
        have hP0 : ¬ Pm = 0 := by omega
        have hdn : 0 ≤ (x : Int) / (Pm : Int) := Int.ediv_nonneg (by omega) (by omega)
        have hdl : (x : Int) / (Pm : Int) ≤ (x : Int) := Int.ediv_le_self _ (by omega)
        have ht1 : (x : Int).tdiv (Pm : Int) = (x : Int) / (Pm : Int) := Int.tdiv_eq_ediv_of_nonneg (by omega)
        generalize (x : Int) / (Pm : Int) = qv at hl2 hdn hdl ht1
        have ht2 : qv.tmod 256 = qv % 256 := Int.tmod_eq_emod_of_nonneg hdn
        have hw1 : IntKind.i64.wrap qv = qv := by rw [IntKind.wrap_i64]; omega
        have hcr : 0 ≤ qv % 256 ∧ qv % 256 ≤ 255 := by omega
        generalize qv % 256 = c at hl2 ht2 hcr
        have hw2 : IntKind.i64.wrap c = c := by rw [IntKind.wrap_i64]; omega
        have hw3 : IntKind.u8.wrap c = c := by rw [IntKind.wrap_u8]; omega
        have HL : Hid (l' ++ [c] ++ fenc m x = l ++ fenc n x) := hl2
        clear hl2 hl hcdef hPm
        have hal : ∀ o : Obj, (wr.alloc o).drew.cell? ⟨p, 0, none⟩ = some v' ∧ (wr.alloc o).drew.frozen? ⟨p, 0, none⟩ = false := fun o => by
          have hb := (((Mod.refl (fun _ => False) wr).alloc o).drew).obj hw.blk (fun h => h)
          exact ⟨cell_of_one hb, free_of_one hb⟩
        have hal1 : ∀ o : Obj, (wr.alloc o).drew.cell? ⟨p, 0, none⟩ = some v' := fun o => (hal o).1
        have hal2 : ∀ o : Obj, (wr.alloc o).drew.frozen? ⟨p, 0, none⟩ = false := fun o => (hal o).2
        have hgr : ∀ (o : Obj) (w1 : World), (wr.alloc o).drew.grownBy w1 v'.ownBlock → w1.cell? ⟨p, 0, none⟩ = some v' ∧ w1.frozen? ⟨p, 0, none⟩ = false := fun o w1 hg => by
          have hm1 : Mod (fun k => v'.ownBlock = some k) wr w1 := (((Mod.refl _ wr).alloc o).drew).grown hg (fun k hk _ => hk)
          have hb := hm1.obj hw.blk hne
          exact ⟨cell_of_one hb, free_of_one hb⟩
        clear hal
        go_wp2
        go_region_law ((first | (refine step_append_lies _ (by rfl) _ _ 29 (by rfl) 0 5 i0 (.int .u8 0) 1 1 Try.underlying29 hi hz0 hz1 hz2 rfl (by decide) v' l'.length (U l') (by rfl) (hown.alloc _) ⟨wr.heap.size, 0, none⟩ 1 1 [.int .u8 c] (by rfl) rfl (by exact app1 _ _ _) (U_one [c]) (by omega) (by simp only [maxLen]; omega) (by omega) (Nat.zero_le _) (wr.heap.size + 1) (by simp) ?_; intro g cap1 w1 hown1 hgrow hg hlt; obtain ⟨hk1, hk2⟩ := hgr _ w1 hgrow) | (refine step_power (by rfl) _ (by rfl) m Pm (by rfl) (by omega) HPm ?_)))
        all_goals
          have hgrow' : (wr.alloc (.cells #[.int .u8 c] 5)).grownBy w1 v'.ownBlock := ⟨hgrow.os, hgrow.tape, hgrow.output, hgrow.size, hgrow.block⟩
          have R := hw.byte (c := c) hm hfr hcr hown1 hgrow' hg
          clear hgrow hgrow' hown1 hk1 hk2 hal1 hal2 hgr
          go_wp2
          go_roundw
          case rel => exact ⟨m, _, l' ++ [c], by go_num, by omega, HL, by simp; omega, R.1, R.2.1, R.2.2⟩
          case measure => simp [intOf]
  · have hni : ¬ (n : Int) < 8 := by omega
    go_enter Try.func15, Try.ntmps15
    go_wp2_with fail
    go_loopw [7] (fun i wr => ∃ (m : Nat) (v' : Value) (l' : List Int), i = .int .i64 ((m : Int) - 1) ∧ m ≤ n ∧ Hid (l' ++ fenc m x = l ++ fenc n x) ∧ l'.length + m ≤ l.length + 8 ∧ Wg wr p v' l' ∧ Mod (fun k => k = p ∨ v.ownBlock = some k) w wr ∧ Fr w v v') (fun i _ => (intOf i + 1).toNat)
    case atStart => exact ⟨n, v, l, by go_num, by omega, rfl, by omega, h, Mod.refl _ _, Fr.refl _ _⟩
    case round =>
      obtain ⟨m, v', l', rfl, hmn, hl, hlen, hw, hm, hfr⟩ := hrel
      clear h
      have h1 := hw.c0
      have hfz := hw.f0
      have hown := hw.own
      have hne := hw.ne
      cases m with
      | zero =>
        have HL := hl.out
        simp only [fenc, List.append_nil] at HL
        subst HL
        go_wp2
        go_ret
        exact ⟨rfl, _, hw, hm, hfr⟩
      | succ m =>
        have e1 : (((m + 1 : Nat) : Int) - 1) = (m : Int) := by omega
        rw [e1]
        obtain ⟨Pm, hPm⟩ : ∃ Pm, 256 ^ m = Pm := ⟨_, rfl⟩
        have hPp : 0 < Pm := by rw [← hPm]; exact Nat.pow_pos (by omega)
        have hcdef : ((x / 256 ^ m % 256 : Nat) : Int) = (x : Int) / (Pm : Int) % 256 := by rw [← hPm]; omega
        have hl2 : l' ++ [((x / 256 ^ m % 256 : Nat) : Int)] ++ fenc m x = l ++ fenc n x := by
          rw [← hl.out, fenc]
          simp
        rw [hcdef] at hl2
        have HPm : Hid (256 ^ m = Pm) := hPm
        have hP0 : ¬ Pm = 0 := by omega
        have hdn : 0 ≤ (x : Int) / (Pm : Int) := Int.ediv_nonneg (by omega) (by omega)
        have hdl : (x : Int) / (Pm : Int) ≤ (x : Int) := Int.ediv_le_self _ (by omega)
        have ht1 : (x : Int).tdiv (Pm : Int) = (x : Int) / (Pm : Int) := Int.tdiv_eq_ediv_of_nonneg (by omega)
        generalize (x : Int) / (Pm : Int) = qv at hl2 hdn hdl ht1
        have ht2 : qv.tmod 256 = qv % 256 := Int.tmod_eq_emod_of_nonneg hdn
        have hw1 : IntKind.i64.wrap qv = qv := by rw [IntKind.wrap_i64]; omega
        have hcr : 0 ≤ qv % 256 ∧ qv % 256 ≤ 255 := by omega
        generalize qv % 256 = c at hl2 ht2 hcr
        have hw2 : IntKind.i64.wrap c = c := by rw [IntKind.wrap_i64]; omega
        have hw3 : IntKind.u8.wrap c = c := by rw [IntKind.wrap_u8]; omega
        have HL : Hid (l' ++ [c] ++ fenc m x = l ++ fenc n x) := hl2
        clear hl2 hl hcdef hPm
        have hal : ∀ o : Obj, (wr.alloc o).drew.cell? ⟨p, 0, none⟩ = some v' ∧ (wr.alloc o).drew.frozen? ⟨p, 0, none⟩ = false := fun o => by
          have hb := (((Mod.refl (fun _ => False) wr).alloc o).drew).obj hw.blk (fun h => h)
          exact ⟨cell_of_one hb, free_of_one hb⟩
        have hal1 : ∀ o : Obj, (wr.alloc o).drew.cell? ⟨p, 0, none⟩ = some v' := fun o => (hal o).1
        have hal2 : ∀ o : Obj, (wr.alloc o).drew.frozen? ⟨p, 0, none⟩ = false := fun o => (hal o).2
        have hgr : ∀ (o : Obj) (w1 : World), (wr.alloc o).drew.grownBy w1 v'.ownBlock → w1.cell? ⟨p, 0, none⟩ = some v' ∧ w1.frozen? ⟨p, 0, none⟩ = false := fun o w1 hg => by
          have hm1 : Mod (fun k => v'.ownBlock = some k) wr w1 := (((Mod.refl _ wr).alloc o).drew).grown hg (fun k hk _ => hk)
          have hb := hm1.obj hw.blk hne
          exact ⟨cell_of_one hb, free_of_one hb⟩
        clear hal
        go_wp2
        go_region_law ((first | (refine step_append_lies _ (by rfl) _ _ 29 (by rfl) 0 5 i0 (.int .u8 0) 1 1 Try.underlying29 hi hz0 hz1 hz2 rfl (by decide) v' l'.length (U l') (by rfl) (hown.alloc _) ⟨wr.heap.size, 0, none⟩ 1 1 [.int .u8 c] (by rfl) rfl (by exact app1 _ _ _) (U_one [c]) (by omega) (by simp only [maxLen]; omega) (by omega) (Nat.zero_le _) (wr.heap.size + 1) (by simp) ?_; intro g cap1 w1 hown1 hgrow hg hlt; obtain ⟨hk1, hk2⟩ := hgr _ w1 hgrow) | (refine step_power (by rfl) _ (by rfl) m Pm (by rfl) (by omega) HPm ?_)))
        all_goals
          have hgrow' : (wr.alloc (.cells #[.int .u8 c] 5)).grownBy w1 v'.ownBlock := ⟨hgrow.os, hgrow.tape, hgrow.output, hgrow.size, hgrow.block⟩
          have R := hw.byte (c := c) hm hfr hcr hown1 hgrow' hg
          clear hgrow hgrow' hown1 hk1 hk2 hal1 hal2 hgr
          go_wp2
          go_roundw
          case rel => exact ⟨m, _, l' ++ [c], by go_num, by omega, HL, by simp; omega, R.1, R.2.1, R.2.2⟩
          case measure => simp [intOf]
theorem gFixed_ok (p : Nat) (v : Value) (l : List Int) (x size : Int) (w : World) (h : Wg w p v l) (hx : x ≤ 9223372036854775807) (hE : fwE x size = 0) (hb : l.length + 8 ≤ 140737488355328) :
    Calls Try.prog 15 #[.pointer (some ⟨p, 0, none⟩), .int .i64 x, .int .i64 size] w fun e w' => e = .returned (.int .i64 0) ∧ ∃ v', Wg w' p v' (l ++ fenc size.toNat x.toNat) ∧ Mod (fun k => k = p ∨ v.ownBlock = some k) w w' ∧ Fr w v v' := by
  unfold fwE at hE
  have ha : ¬ (size < 1 ∨ 8 < size) := by intro ha; rw [if_pos ha] at hE; omega
  rw [if_neg ha] at hE
  have hc : ¬ (x < 0 ∨ 256 ^ size.toNat ≤ x) := by intro ha; rw [if_pos ha] at hE; omega
  obtain ⟨n, rfl⟩ := Int.eq_ofNat_of_zero_le (a := size) (by omega)
  obtain ⟨y, rfl⟩ := Int.eq_ofNat_of_zero_le (a := x) (by omega)
  rw [Int.toNat_natCast] at hc
  rw [Int.toNat_natCast, Int.toNat_natCast]
  have hfit : y < 256 ^ n := by
    have h1 : ¬ (256 : Int) ^ n ≤ (y : Int) := fun h => hc (.inr h)
    have h2 : ((256 ^ n : Nat) : Int) = (256 : Int) ^ n := by simp
    omega
  exact gFixed_go p v l y n w h (by omega) (by omega) (by omega) hfit hb
end Go.Proofs.Ytfinaabhmdnjfaa
