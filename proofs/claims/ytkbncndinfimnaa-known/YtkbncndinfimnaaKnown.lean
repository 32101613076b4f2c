/- AlarmKnown holds: the law answers true and turns nothing that was there. Conditions: none. -/
import Derived.Test.YtkbncndinfimnaaDe
import Derived.SizedLaws
namespace Go.Proofs.Ytkbncndinfimnaa
open Go.RowKit
/-- Timers that are none. -/
def NoneV (w : World) (v : Value) : Prop := v = .pointer none ∨ ∃ q, v = .pointer (some ⟨q, 0, none⟩) ∧ w.cell? ⟨q, 0, none⟩ = some (.int .i64 0)
theorem isNone_v (v : Value) (w : World) (h : NoneV w v) : Calls Try.prog 25 #[v] w fun e w' => e = .returned (.bool true) ∧ w' = w := by
  rcases h with rfl | ⟨q, rfl, c0⟩
  · exact isNone_nil w
  · go_enter Try.func25, Try.ntmps25
    go_wp2
    go_ret
    exact ⟨rfl, rfl⟩
theorem check_v (v : Value) (k : Int) (w : World) (h : NoneV w v) : Calls Try.prog 23 #[v, .int .i64 k] w fun e w' => e = .returned (.int .i64 1) ∧ w' = w := by
  have hN := isNone_v v w h
  clear h
  go_enter Try.func23, Try.ntmps23
  go_wp2_with (go_at_call 25; refine hN.mono ?_; rintro e w' ⟨rfl, rfl⟩)
  go_ret
  exact ⟨rfl, rfl⟩
theorem Set_v (v : Value) (k t : Int) (w : World) (h : NoneV w v) : Calls Try.prog 10 #[v, .int .i64 k, .int .i64 t] w fun e w' => e = .returned (.int .i64 1) ∧ w' = w := by
  have hN := check_v v k w h
  clear h
  go_enter Try.func10, Try.ntmps10
  go_wp2_with (go_at_call 23; refine hN.mono ?_; rintro e w' ⟨rfl, rfl⟩)
  go_ret
  exact ⟨rfl, rfl⟩
theorem Clear_v (v : Value) (k : Int) (w : World) (h : NoneV w v) : Calls Try.prog 13 #[v, .int .i64 k] w fun e w' => e = .returned (.int .i64 1) ∧ w' = w := by
  have hN := check_v v k w h
  clear h
  go_enter Try.func13, Try.ntmps13
  go_wp2_with (go_at_call 23; refine hN.mono ?_; rintro e w' ⟨rfl, rfl⟩)
  go_ret
  exact ⟨rfl, rfl⟩
theorem Fire_v (v : Value) (k : Int) (w : World) (h : NoneV w v) : Calls Try.prog 15 #[v, .int .i64 k] w fun e w' => e = .returned (.int .i64 1) ∧ w' = w := by
  have hN := check_v v k w h
  clear h
  go_enter Try.func15, Try.ntmps15
  go_wp2_with (go_at_call 23; refine hN.mono ?_; rintro e w' ⟨rfl, rfl⟩)
  go_ret
  exact ⟨rfl, rfl⟩
theorem Left_v (v : Value) (k : Int) (w : World) (h : NoneV w v) : Calls Try.prog 20 #[v, .int .i64 k] w fun e w' => e = .returned (.int .i64 0) ∧ w' = w := by
  have hN := isNone_v v w h
  clear h
  go_enter Try.func20, Try.ntmps20
  go_wp2_with (go_at_call 25; refine hN.mono ?_; rintro e w' ⟨rfl, rfl⟩)
  go_ret
  exact ⟨rfl, rfl⟩
theorem Tick_v (v : Value) (w : World) (h : NoneV w v) : Calls Try.prog 17 #[v] w fun e w' => e = .returned (.tuple #[.slice none 0 0, .int .i64 1]) ∧ w' = w := by
  have hN := isNone_v v w h
  clear h
  go_enter Try.func17, Try.ntmps17
  go_wp2_with (go_at_call 25; refine hN.mono ?_; rintro e w' ⟨rfl, rfl⟩)
  go_ret2
  exact ⟨rfl, rfl⟩
theorem New_okz (z : Int) (w : World) (h : 1 ≤ z) (h2 : z ≤ 16) : Calls Try.prog 7 #[.int .i64 z] w fun e w' => ∃ p, e = .returned (.tuple #[.pointer (some ⟨p, 0, none⟩), .int .i64 0]) ∧ Mod (fun _ => False) w w' := by
  obtain ⟨m, rfl⟩ : ∃ m : Nat, z = m := ⟨z.toNat, by omega⟩
  refine (New_ok m w (by omega) (by omega)).mono ?_
  rintro e w' ⟨p, B, rfl, _, hm, _⟩
  exact ⟨p, rfl, hm⟩
theorem Clear_at {p B n : Nat} {f : Int → Int} (k E : Int) (g : Int → Int) {w : World} (h : Al w p B n f) (hn : 1 ≤ n) (hi : I64 k) (hE : kE n k = E) (hg : cF n f k = g) : Calls Try.prog 13 #[.pointer (some ⟨p, 0, none⟩), .int .i64 k] w fun e w' => e = .returned (.int .i64 E) ∧ Al w' p B n g ∧ Mod (fun i => i = B) w w' := by
  have := Clear_any p B n f k w h hn hi
  rwa [hE, hg] at this
theorem Fire_at {p B n : Nat} {f : Int → Int} (k E : Int) (g : Int → Int) {w : World} (h : Al w p B n f) (hn : 1 ≤ n) (hi : I64 k) (hE : fE n f k = E) (hg : cF n f k = g) : Calls Try.prog 15 #[.pointer (some ⟨p, 0, none⟩), .int .i64 k] w fun e w' => e = .returned (.int .i64 E) ∧ Al w' p B n g ∧ Mod (fun i => i = B) w w' := by
  have := Fire_any p B n f k w h hn hi
  rwa [hE, hg] at this
/-- One timer set. -/
def vk (k t : Int) : Int → Int := upd (fun _ => 0) k t
theorem vk_zero (k : Int) : vk k 0 = fun _ => 0 := upd_self rfl
theorem vk_upd (k t s : Int) : upd (vk k t) k s = vk k s := by
  funext i
  unfold vk upd
  split <;> simp_all
theorem vk_tick (k t : Int) (h : ¬ t = 0) : tF (vk k t) = vk k (t - 1) := by
  funext i
  unfold tF vk upd
  by_cases e : i = k <;> simp [e, h]
theorem vk_ok (k t : Int) (hk : 0 ≤ k ∧ k < 4) (ht : 0 ≤ t ∧ t ≤ 10000) : Ok 4 (vk k t) := (Ok.zero (by omega) (by omega)).upd (by omega) (by omega) (by omega)
theorem tF_zero : tF (fun _ => 0) = fun _ => 0 := by
  funext i
  simp [tF]
set_option maxRecDepth 100000 in
set_option maxHeartbeats 16000000 in
theorem known_walk (w : World) : Calls Try.prog 6 #[] w fun e w' => e = .returned (.bool true) ∧ Mod (fun _ => False) w w' := by
  have F1 : Hid (sF 4 (fun _ => 0) 1 5 = (vk 1 5)) := by show sF 4 _ _ _ = _; rw [sF, if_neg (by omega)]; rfl
  have F2 : Hid (cF 4 (vk 1 5) 1 = (fun _ => 0)) := by show cF 4 _ _ = _; rw [cF, if_neg (by omega)]; rw [vk_upd, vk_zero]
  have G2 : Hid (fE 4 (vk 1 5) 1 = 0) := by unfold Hid; decide
  have F3 : Hid (cF 4 (fun _ => 0) 1 = (fun _ => 0)) := by show cF 4 _ _ = _; rw [cF, if_neg (by omega)]; exact upd_self rfl
  have G3 : Hid (fE 4 (fun _ => 0) 1 = 80) := by unfold Hid; decide
  have F4 : Hid (cF 4 (fun _ => 0) 1 = (fun _ => 0)) := by show cF 4 _ _ = _; rw [cF, if_neg (by omega)]; exact upd_self rfl
  have F5 : Hid (sF 4 (fun _ => 0) 4 1 = (fun _ => 0)) := by show sF 4 _ _ _ = _; rw [sF, if_pos (by omega)]
  have F6 : Hid (sF 4 (fun _ => 0) (-1) 1 = (fun _ => 0)) := by show sF 4 _ _ _ = _; rw [sF, if_pos (by omega)]
  have F7 : Hid (sF 4 (fun _ => 0) 1 0 = (fun _ => 0)) := by show sF 4 _ _ _ = _; rw [sF, if_pos (by omega)]
  have F8 : Hid (sF 4 (fun _ => 0) 1 10001 = (fun _ => 0)) := by show sF 4 _ _ _ = _; rw [sF, if_pos (by omega)]
  have F9 : Hid (cF 4 (fun _ => 0) 4 = (fun _ => 0)) := by show cF 4 _ _ = _; rw [cF, if_pos (by omega)]
  have F10 : Hid (cF 4 (fun _ => 0) (-1) = (fun _ => 0)) := by show cF 4 _ _ = _; rw [cF, if_pos (by omega)]
  have F11 : Hid (cF 4 (fun _ => 0) 4 = (fun _ => 0)) := by show cF 4 _ _ = _; rw [cF, if_pos (by omega)]
  have G11 : Hid (fE 4 (fun _ => 0) 4 = 2) := by unfold Hid; decide
  have F12 : Hid (cF 4 (fun _ => 0) (-1) = (fun _ => 0)) := by show cF 4 _ _ = _; rw [cF, if_pos (by omega)]
  have G12 : Hid (fE 4 (fun _ => 0) (-1) = 2) := by unfold Hid; decide
  have F15 : Hid (sF 4 (fun _ => 0) 3 10000 = (vk 3 10000)) := by show sF 4 _ _ _ = _; rw [sF, if_neg (by omega)]; rfl
  have F16 : Hid ((vk 3 10000) (3 : Int) = 10000) := by unfold Hid; decide
  have F17 : Hid (sF 4 (vk 3 10000) 3 2 = (vk 3 2)) := by show sF 4 _ _ _ = _; rw [sF, if_neg (by omega)]; exact vk_upd _ _ _
  have D18 : Hid (dl (vk 3 2) 4 = []) := by unfold Hid; decide
  have T18 : Hid (tF (vk 3 2) = (vk 3 1)) := by have := vk_tick 3 2 (by decide); rw [Hid, this]; rfl
  have K18 : Hid (Ok 4 (vk 3 2)) := vk_ok 3 2 (by omega) (by omega)
  have F19 : Hid (sF 4 (vk 3 1) 3 2 = (vk 3 2)) := by show sF 4 _ _ _ = _; rw [sF, if_neg (by omega)]; exact vk_upd _ _ _
  have D20 : Hid (dl (vk 3 2) 4 = []) := by unfold Hid; decide
  have T20 : Hid (tF (vk 3 2) = (vk 3 1)) := by have := vk_tick 3 2 (by decide); rw [Hid, this]; rfl
  have K20 : Hid (Ok 4 (vk 3 2)) := vk_ok 3 2 (by omega) (by omega)
  have D21 : Hid (dl (vk 3 1) 4 = [3]) := by unfold Hid; decide
  have T21 : Hid (tF (vk 3 1) = (fun _ => 0)) := by have := vk_tick 3 1 (by decide); rw [Hid, this]; exact vk_zero _
  have K21 : Hid (Ok 4 (vk 3 1)) := vk_ok 3 1 (by omega) (by omega)
  have F22 : Hid (cF 4 (fun _ => 0) 3 = (fun _ => 0)) := by show cF 4 _ _ = _; rw [cF, if_neg (by omega)]; exact upd_self rfl
  have G22 : Hid (fE 4 (fun _ => 0) 3 = 80) := by unfold Hid; decide
  have F23 : Hid (sF 4 (fun _ => 0) 0 1 = (vk 0 1)) := by show sF 4 _ _ _ = _; rw [sF, if_neg (by omega)]; rfl
  have F24 : Hid (cF 4 (vk 0 1) 0 = (fun _ => 0)) := by show cF 4 _ _ = _; rw [cF, if_neg (by omega)]; rw [vk_upd, vk_zero]
  have D25 : Hid (dl (fun _ => 0) 4 = []) := by unfold Hid; decide
  have T25 : Hid (tF (fun _ => 0) = (fun _ => 0)) := tF_zero
  have K25 : Hid (Ok 4 (fun _ => 0)) := Ok.zero (by omega) (by omega)
  generalize (vk 1 5) = sU at *
  generalize (vk 3 10000) = sA at *
  generalize (vk 3 2) = sX at *
  generalize (vk 3 1) = sY at *
  generalize (vk 0 1) = sD at *
  have HZ : Hid (∀ w : World, Calls Try.prog 7 #[.int .i64 4] w fun e w' => ∃ p B, e = .returned (.tuple #[.pointer (some ⟨p, 0, none⟩), .int .i64 0]) ∧ Al w' p B 4 (fun _ => 0) ∧ Mod (fun _ => False) w w' ∧ w.heap.size ≤ p ∧ w.heap.size ≤ B) := fun w => New_ok 4 w (by omega) (by omega)
  generalize hZ : (fun _ : Int => (0 : Int)) = sZ at *
  have ZZ : Hid (∀ k, sZ k = 0) := fun k => by rw [← hZ]
  clear hZ
  go_enter Try.func6, Try.ntmps6
  go_wp2
  go_loopw [1] (fun i wr => ∃ (z : Int), i = .int .i64 z ∧ -2 ≤ z ∧ z ≤ 20 ∧ Mod (fun _ => False) w wr) (fun i _ => (20 - intOf i).toNat)
  case atStart => exact ⟨-2, rfl, by omega, by omega, Mod.refl _ _⟩
  case round =>
    obtain ⟨z, rfl, z1, z2, hm⟩ := hrel
    by_cases hz : z < 20
    · have hc : (z < 1) ∨ (¬ z < 1 ∧ 16 < z) ∨ (1 ≤ z ∧ z ≤ 16) := by omega
      rcases hc with hz1 | ⟨hz1, hz3⟩ | ⟨hz1, hz3⟩
      · have HN := New_bad z wr (by omega)
        have zb : decide (z ≥ 1) = false := by simp; omega
        go_wp2_with fail
        refine HN.mono ?_
        rintro e w1 ⟨rfl, rfl⟩
        go_wp2
        go_roundw
        case rel => exact ⟨z + 1, by go_num, by omega, by omega, hm⟩
        case measure => simp [intOf]; omega
      · have HN := New_bad z wr (by omega)
        go_wp2_with fail
        refine HN.mono ?_
        rintro e w1 ⟨rfl, rfl⟩
        go_wp2
        go_roundw
        case rel => exact ⟨z + 1, by go_num, by omega, by omega, hm⟩
        case measure => simp [intOf]; omega
      · have HN := New_okz z wr hz1 hz3
        go_wp2_with fail
        refine HN.mono ?_
        rintro e w1 ⟨p, rfl, hm1⟩
        replace hm := hm.and hm1
        clear hm1
        go_wp2
        go_roundw
        case rel => exact ⟨z + 1, by go_num, by omega, by omega, hm⟩
        case measure => simp [intOf]; omega
    · obtain rfl : z = 20 := by omega
      clear hz z1 z2
      go_wp2_with fail
      refine (HZ.out _).mono ?_
      rintro e w1 ⟨p, B, rfl, h, hm1, hp, hB⟩
      have s1 := hm.size
      replace hm := hm.and hm1
      clear hm1 HZ
      go_wp2_with fail
      refine (Set_at 1 5 0 _ h (by omega) (by omega) (by decide) F1.out).mono ?_
      rintro e w2 ⟨rfl, h2, hm2⟩
      replace hm := hm.trans hm2 (V := fun _ => False) (fun _ _ h => h) (fun i hi hh => by omega)
      clear h hm2
      have h := h2
      clear h2
      go_wp2_with fail
      refine (Fire_at 1 0 _ h (by omega) (by unfold I64; omega) G2.out F2.out).mono ?_
      rintro e w2 ⟨rfl, h2, hm2⟩
      replace hm := hm.trans hm2 (V := fun _ => False) (fun _ _ h => h) (fun i hi hh => by omega)
      clear h hm2
      have h := h2
      clear h2
      go_wp2_with fail
      refine (Fire_at 1 80 _ h (by omega) (by unfold I64; omega) G3.out F3.out).mono ?_
      rintro e w2 ⟨rfl, h2, hm2⟩
      replace hm := hm.trans hm2 (V := fun _ => False) (fun _ _ h => h) (fun i hi hh => by omega)
      clear h hm2
      have h := h2
      clear h2
      go_wp2_with fail
      refine (Clear_at 1 0 _ h (by omega) (by unfold I64; omega) (by decide) F4.out).mono ?_
      rintro e w2 ⟨rfl, h2, hm2⟩
      replace hm := hm.trans hm2 (V := fun _ => False) (fun _ _ h => h) (fun i hi hh => by omega)
      clear h hm2
      have h := h2
      clear h2
      go_wp2_with fail
      refine (Set_at 4 1 2 _ h (by omega) (by omega) (by decide) F5.out).mono ?_
      rintro e w2 ⟨rfl, h2, hm2⟩
      replace hm := hm.trans hm2 (V := fun _ => False) (fun _ _ h => h) (fun i hi hh => by omega)
      clear h hm2
      have h := h2
      clear h2
      go_wp2_with fail
      refine (Set_at (-1) 1 2 _ h (by omega) (by omega) (by decide) F6.out).mono ?_
      rintro e w2 ⟨rfl, h2, hm2⟩
      replace hm := hm.trans hm2 (V := fun _ => False) (fun _ _ h => h) (fun i hi hh => by omega)
      clear h hm2
      have h := h2
      clear h2
      go_wp2_with fail
      refine (Set_at 1 0 2 _ h (by omega) (by omega) (by decide) F7.out).mono ?_
      rintro e w2 ⟨rfl, h2, hm2⟩
      replace hm := hm.trans hm2 (V := fun _ => False) (fun _ _ h => h) (fun i hi hh => by omega)
      clear h hm2
      have h := h2
      clear h2
      go_wp2_with fail
      refine (Set_at 1 10001 2 _ h (by omega) (by omega) (by decide) F8.out).mono ?_
      rintro e w2 ⟨rfl, h2, hm2⟩
      replace hm := hm.trans hm2 (V := fun _ => False) (fun _ _ h => h) (fun i hi hh => by omega)
      clear h hm2
      have h := h2
      clear h2
      go_wp2_with fail
      refine (Clear_at 4 2 _ h (by omega) (by unfold I64; omega) (by decide) F9.out).mono ?_
      rintro e w2 ⟨rfl, h2, hm2⟩
      replace hm := hm.trans hm2 (V := fun _ => False) (fun _ _ h => h) (fun i hi hh => by omega)
      clear h hm2
      have h := h2
      clear h2
      go_wp2_with fail
      refine (Clear_at (-1) 2 _ h (by omega) (by unfold I64; omega) (by decide) F10.out).mono ?_
      rintro e w2 ⟨rfl, h2, hm2⟩
      replace hm := hm.trans hm2 (V := fun _ => False) (fun _ _ h => h) (fun i hi hh => by omega)
      clear h hm2
      have h := h2
      clear h2
      go_wp2_with fail
      refine (Fire_at 4 2 _ h (by omega) (by unfold I64; omega) G11.out F11.out).mono ?_
      rintro e w2 ⟨rfl, h2, hm2⟩
      replace hm := hm.trans hm2 (V := fun _ => False) (fun _ _ h => h) (fun i hi hh => by omega)
      clear h hm2
      have h := h2
      clear h2
      go_wp2_with fail
      refine (Fire_at (-1) 2 _ h (by omega) (by unfold I64; omega) G12.out F12.out).mono ?_
      rintro e w2 ⟨rfl, h2, hm2⟩
      replace hm := hm.trans hm2 (V := fun _ => False) (fun _ _ h => h) (fun i hi hh => by omega)
      clear h hm2
      have h := h2
      clear h2
      go_wp2_with fail
      refine (Left_at 4 0 h (by omega) (by unfold I64; omega) (ZZ.out 4)).mono ?_
      rintro e w2 ⟨rfl, rfl⟩
      go_wp2_with fail
      refine (Left_at (-1) 0 h (by omega) (by unfold I64; omega) (ZZ.out (-1))).mono ?_
      rintro e w2 ⟨rfl, rfl⟩
      go_wp2_with fail
      refine (Set_at 3 10000 0 _ h (by omega) (by omega) (by decide) F15.out).mono ?_
      rintro e w2 ⟨rfl, h2, hm2⟩
      replace hm := hm.trans hm2 (V := fun _ => False) (fun _ _ h => h) (fun i hi hh => by omega)
      clear h hm2
      have h := h2
      clear h2
      go_wp2_with fail
      refine (Left_at 3 10000 h (by omega) (by unfold I64; omega) F16.out).mono ?_
      rintro e w2 ⟨rfl, rfl⟩
      go_wp2_with fail
      refine (Set_at 3 2 0 _ h (by omega) (by omega) (by decide) F17.out).mono ?_
      rintro e w2 ⟨rfl, h2, hm2⟩
      replace hm := hm.trans hm2 (V := fun _ => False) (fun _ _ h => h) (fun i hi hh => by omega)
      clear h hm2
      have h := h2
      clear h2
      go_wp2_with fail
      refine (due_at _ _ h K18.out D18.out T18.out).mono ?_
      rintro e w2 ⟨v, rfl, ho, h2, hm2, hnew⟩
      replace hm := hm.trans hm2 (V := fun _ => False) (fun _ _ h => h) (fun i hi hh => by omega)
      clear h hm2 hnew
      have h := h2
      clear h2
      obtain ⟨ao, cap, rfl⟩ := ho.shape
      clear ho
      go_wp2_with fail
      refine (Set_at 3 2 0 _ h (by omega) (by omega) (by decide) F19.out).mono ?_
      rintro e w2 ⟨rfl, h2, hm2⟩
      replace hm := hm.trans hm2 (V := fun _ => False) (fun _ _ h => h) (fun i hi hh => by omega)
      clear h hm2
      have h := h2
      clear h2
      go_wp2_with fail
      refine (due_at _ _ h K20.out D20.out T20.out).mono ?_
      rintro e w2 ⟨v, rfl, ho, h2, hm2, hnew⟩
      replace hm := hm.trans hm2 (V := fun _ => False) (fun _ _ h => h) (fun i hi hh => by omega)
      clear h hm2 hnew
      have h := h2
      clear h2
      obtain ⟨ao, cap, rfl⟩ := ho.shape
      clear ho
      go_wp2_with fail
      refine (due_at _ _ h K21.out D21.out T21.out).mono ?_
      rintro e w2 ⟨v, rfl, ho, h2, hm2, hnew⟩
      replace hm := hm.trans hm2 (V := fun _ => False) (fun _ _ h => h) (fun i hi hh => by omega)
      clear h hm2 hnew
      have h := h2
      clear h2
      go_wp2_with fail
      refine (EqInts_at true (ho.alloc _).sl (Own.lit1 w2 3).sl (by decide)).mono ?_
      rintro e w3 ⟨rfl, hm3⟩
      replace h := (h.mod ((Mod.refl (fun _ => False) w2).alloc _) (fun h => h) (fun h => h)).mod hm3 (fun h => h) (fun h => h)
      replace hm := (hm.alloc _).and hm3
      clear ho hm3
      go_wp2_with fail
      refine (Fire_at 3 80 _ h (by omega) (by unfold I64; omega) G22.out F22.out).mono ?_
      rintro e w2 ⟨rfl, h2, hm2⟩
      replace hm := hm.trans hm2 (V := fun _ => False) (fun _ _ h => h) (fun i hi hh => by omega)
      clear h hm2
      have h := h2
      clear h2
      go_wp2_with fail
      refine (Set_at 0 1 0 _ h (by omega) (by omega) (by decide) F23.out).mono ?_
      rintro e w2 ⟨rfl, h2, hm2⟩
      replace hm := hm.trans hm2 (V := fun _ => False) (fun _ _ h => h) (fun i hi hh => by omega)
      clear h hm2
      have h := h2
      clear h2
      go_wp2_with fail
      refine (Clear_at 0 0 _ h (by omega) (by unfold I64; omega) (by decide) F24.out).mono ?_
      rintro e w2 ⟨rfl, h2, hm2⟩
      replace hm := hm.trans hm2 (V := fun _ => False) (fun _ _ h => h) (fun i hi hh => by omega)
      clear h hm2
      have h := h2
      clear h2
      go_wp2_with fail
      refine (due_at _ _ h K25.out D25.out T25.out).mono ?_
      rintro e w2 ⟨v, rfl, ho, h2, hm2, hnew⟩
      replace hm := hm.trans hm2 (V := fun _ => False) (fun _ _ h => h) (fun i hi hh => by omega)
      clear h hm2 hnew
      have h := h2
      clear h2
      obtain ⟨ao, cap, rfl⟩ := ho.shape
      clear ho
      go_wp2_with fail
      go_loopw [9, 10] (fun v i wr => ∃ (c : Nat), i = .int .i64 c ∧ c ≤ 2 ∧ NoneV wr v ∧ Mod (fun _ => False) w wr) (fun _ i _ => 2 - (intOf i).toNat)
      case atStart => exact ⟨0, rfl, by omega, .inl rfl, hm⟩
      case round =>
        clear hm h
        obtain ⟨c, rfl, hc, hv, hm⟩ := hrel
        by_cases hc2 : c < 2
        · have hci : (c : Int) < 2 := by omega
          have H1 := Tick_v u9 wr hv
          have H2 := Set_v u9 9 0 wr hv
          have H3 := Clear_v u9 (-1) wr hv
          have H4 := Fire_v u9 0 wr hv
          have H5 := Left_v u9 0 wr hv
          clear hv
          go_wp2_with fail
          refine H1.mono ?_
          rintro e w1 ⟨rfl, rfl⟩
          go_wp2_with fail
          refine H2.mono ?_
          rintro e w1 ⟨rfl, rfl⟩
          go_wp2_with fail
          refine H3.mono ?_
          rintro e w1 ⟨rfl, rfl⟩
          go_wp2_with fail
          refine H4.mono ?_
          rintro e w1 ⟨rfl, rfl⟩
          go_wp2_with fail
          refine H5.mono ?_
          rintro e w1 ⟨rfl, rfl⟩
          clear H1 H2 H3 H4 H5
          go_wp2
          go_roundw
          case rel => exact ⟨c + 1, by go_num, by omega, .inr ⟨_, rfl, by simp [go_sem]⟩, hm.alloc _⟩
          case measure => simp [intOf]; omega
        · obtain rfl : c = 2 := by omega
          have HW := works_any wr
          go_wp2_with fail
          refine HW.mono ?_
          rintro e w1 ⟨rfl, hm1⟩
          replace hm := hm.and hm1
          clear hm1 HW
          go_wp2
          go_ret
          exact ⟨rfl, hm⟩
namespace alarmKnown
open Go.ChangeShapes Go.WideShapes Go.ChangeAt Go.RowKit
set_option maxRecDepth 100000 in
theorem lifted (os : Os) (started : os.Started) (H : Type) (enc : TypeId × Value → H) :
    ReturnsInHanded {} Try.checked os 6 .any (Rows.alarmKnownSpec.pre6 enc Try.prog Try.f6 Rows.alarmKnownRow.domain false) (Rows.alarmKnownSpec.post enc Try.prog Try.f6 false true false false) := by
  refine returnsInHanded_of_change_sized (C := Try.checked) own started (by kernel_rfl) Try.func6
    (ChangeSpec.witness6 (enc := enc) (C := Try.checked) false ⟨#[], #[], []⟩ 8 (by kernel_rfl) (by kernel_rfl) (by kernel_rfl) (by kernel_rfl)) ?_
  intro W base args ds gs before hval0 hW hcnd hsz0 _
  have hval : ∀ (j : Nat) t v, Try.f6.params[j]? = some t → args[j]? = some v → Value.okWide Try.prog W .any base t v := hval0
  have hW' := hW
  obtain ⟨p, q, hA0, hV, rfl, hfz, hnd⟩ := hW
  have hA : DataW.TrodAll enc Try.prog W 0 (fun _ => true) true Try.f6.params.toList args.toList ds p := hA0
  rw [Try.params6] at hA hval
  obtain ⟨hargs, rfl, rfl⟩ := trodAll_nil hA
  obtain rfl : args = #[] := by cases args; simp_all
  obtain ⟨rfl, rfl⟩ := trodVars_none hV
  clear hA0 hval0
  refine (known_walk W).mono fun e W' ⟨he, hm⟩ => ?_
  subst he
  have bel : Below W.heap.size W W' := hm.below _ (Nat.le_refl _) (fun _ h => h.elim)
  exact ⟨_, rfl, _, _, _, [], _, [], hW', trodAll_mk1 (shut_bool Try.underlying4 _), trodAll_mk0, rfl, bel.frame _, fun h => by cases h⟩

theorem over : Rows.alarmKnownRow.holds Try.pinned (OpenSpec.ofChange Rows.alarmKnownSpec) :=
  OpenClaim.holds_of_wide 6 Try.f6 rfl rfl rfl rfl rfl rfl rfl ⟨rfl, rfl, rfl, rfl, rfl⟩ rfl rfl rfl rfl rfl (by kernel_rfl) Try.func6 (by kernel_rfl)
    (of_decide_eq_true (by kernel_rfl)) (by unfold Func.isWrapper; first | (rw [if_pos (by decide +kernel)]; kernel_rfl) | (rw [if_neg (by decide +kernel)]; exact ⟨rfl, rfl⟩))
    (fun os started H enc _ => lifted os started H enc)
end alarmKnown
theorem alarmKnown_holds : Rows.AlarmKnownSaid := alarmKnown.over
end Go.Proofs.Ytkbncndinfimnaa
