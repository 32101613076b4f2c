/- AlarmApart holds: for any deeds and any number the law answers true and turns nothing that was there. Conditions: none. -/
import Derived.Test.YtkbncndinfimnaaDu
namespace Go.Proofs.Ytkbncndinfimnaa
open Go.RowKit
/-- The same but at one. -/
def Agree (one : Int) (f g : Int → Int) : Prop := ∀ k, ¬ k = one → f k = g k
theorem Agree.both {one : Int} {f g : Int → Int} (h : Agree one f g) (k t : Int) : Agree one (upd f k t) (upd g k t) := fun i hi => by
  unfold upd
  split
  · rfl
  · exact h i hi
theorem Agree.left {one : Int} {f g : Int → Int} (h : Agree one f g) (t : Int) : Agree one (upd f one t) g := fun i hi => by
  unfold upd
  rw [if_neg hi]
  exact h i hi
theorem Agree.set {one : Int} {f g : Int → Int} (h : Agree one f g) (n : Nat) (k t : Int) : Agree one (sF n f k t) (sF n g k t) := by
  unfold sF
  split
  · exact h
  · exact h.both k t
theorem Agree.set1 {one : Int} {f g : Int → Int} (h : Agree one f g) (n : Nat) (k t : Int) (e : k = one) : Agree one (sF n f k t) g := by
  unfold sF
  split
  · exact h
  · rw [e]; exact h.left t
theorem Agree.clear {one : Int} {f g : Int → Int} (h : Agree one f g) (n : Nat) (k : Int) : Agree one (cF n f k) (cF n g k) := by
  unfold cF
  split
  · exact h
  · exact h.both k 0
theorem Agree.clear1 {one : Int} {f g : Int → Int} (h : Agree one f g) (n : Nat) (k : Int) (e : k = one) : Agree one (cF n f k) g := by
  unfold cF
  split
  · exact h
  · rw [e]; exact h.left 0
theorem Agree.fire {one : Int} {f g : Int → Int} (h : Agree one f g) (n : Nat) (k : Int) (e : ¬ k = one) : fE n g k = fE n f k := by
  unfold fE
  rw [h k e]
theorem Agree.tick {one : Int} {f g : Int → Int} (h : Agree one f g) : Agree one (tF f) (tF g) := fun i hi => by
  unfold tF
  rw [h i hi]
/-- All but one. -/
def fl (one : Int) (l : List Int) : List Int := l.filter (fun x => !(x == one))
theorem fl_app (one : Int) (l m : List Int) : fl one (l ++ m) = fl one l ++ fl one m := by simp [fl]
theorem fl_yes {one x : Int} (h : ¬ x = one) : fl one [x] = [x] := by simp [fl, h]
theorem fl_no (one : Int) : fl one [one] = [] := by simp [fl]
theorem Agree.due {one : Int} {f g : Int → Int} (h : Agree one f g) : ∀ n, fl one (dl f n) = fl one (dl g n)
  | 0 => rfl
  | n + 1 => by
    have ih := h.due n
    by_cases e : (n : Int) = one
    · have r : ∀ f : Int → Int, fl one (dl f (n + 1)) = fl one (dl f n) := fun f => by
        by_cases hf : f n = 1
        · rw [dl_due hf, fl_app, e, fl_no, List.append_nil]
        · rw [dl_not hf]
      rw [r, r, ih]
    · have hn := h n e
      by_cases hf : f n = 1
      · rw [dl_due hf, dl_due (hn ▸ hf), fl_app, fl_app, ih]
      · rw [dl_not hf, dl_not (hn ▸ hf), ih]
theorem fl_take_yes {one : Int} {l : List Int} {c : Nat} (hc : c < l.length) (h : ¬ l.getD c 0 = one) : fl one (l.take (c + 1)) = fl one (l.take c) ++ [l.getD c 0] := by
  rw [List.take_succ_eq_append_getElem hc, fl_app]
  have e : l[c] = l.getD c 0 := by simp [hc]
  rw [e, fl_yes h]
theorem fl_take_no {one : Int} {l : List Int} {c : Nat} (hc : c < l.length) (h : l.getD c 0 = one) : fl one (l.take (c + 1)) = fl one (l.take c) := by
  rw [List.take_succ_eq_append_getElem hc, fl_app]
  have e : l[c] = l.getD c 0 := by simp [hc]
  rw [e, h, fl_no, List.append_nil]
theorem fl_len (one : Int) (l : List Int) (c : Nat) : (fl one (l.take c)).length ≤ l.length := by
  have h1 := List.length_filter_le (fun x => !(x == one)) (l.take c)
  rw [List.length_take] at h1
  unfold fl
  omega
theorem Own.at {w : World} {ao : Option Addr} {cap : Nat} {l : List Int} (h : Own w (.slice ao l.length cap) l) {c : Nat} (hc : c < l.length) : ∃ b, ao = some ⟨b, 0, none⟩ ∧ w.cell? ⟨b, c, none⟩ = some (.int .i64 (l.getD c 0)) := by
  rcases h.2 with ⟨e, h0⟩ | ⟨g, cap', cur, e, hb, hg, r⟩
  · omega
  · simp only [Value.slice.injEq, true_and] at e
    obtain ⟨rfl, rfl⟩ := e
    refine ⟨g, rfl, ?_⟩
    have := World.ownsRow.cellAt h c (by omega)
    rw [this]
    exact U_get l c hc
theorem Al.fr {w w' : World} {p b n : Nat} {f : Int → Int} (h : Al w p b n f) (hm : Mod (fun _ => False) w w') : Al w' p b n f := h.mod hm (fun h => h) (fun h => h)
set_option maxRecDepth 100000 in
set_option maxHeartbeats 16000000 in
theorem apart_walk (lv : Value) (ds : List Dd) (on : Int) (w : World) (hd : Deeds w lv ds) (hon : I64 on) :
    Calls Try.prog 5 #[lv, .int .i64 on] w fun e w' => e = .returned (.bool true) ∧ Mod (fun _ => False) w w' := by
  obtain ⟨i0, hi, hz0, hz1, hz2⟩ := info_parts info3
  obtain ⟨al, cl, rfl, hlm, _⟩ := hd.form
  unfold maxLen at hlm
  have HDD : Hid (Deeds w (.slice al ds.length cl) ds) := hd
  clear hd
  have HB := fun w => Bring_any on 8 w hon (by omega) (by omega)
  obtain ⟨one, hone⟩ : ∃ one, one = on % 8 := ⟨_, rfl⟩
  have ho1 : 0 ≤ one ∧ one < 8 := by omega
  rw [← hone] at HB
  clear hon hone
  have HW := works_any
  have HNew := New_ok 8
  go_enter Try.func5, Try.ntmps5
  go_wp2_with fail
  refine (HW _).mono ?_
  rintro e w0 ⟨rfl, hm0⟩
  go_wp2_with fail
  refine (HB _).mono ?_
  rintro e w0' ⟨rfl, rfl⟩
  go_wp2_with fail
  refine (HNew _ (by omega) (by omega)).mono ?_
  rintro e w1 ⟨p, B, rfl, h1, hm1, hp, hB⟩
  go_wp2_with fail
  refine (HNew _ (by omega) (by omega)).mono ?_
  rintro e w2 ⟨q, C, rfl, h2, hm2, hq, hC⟩
  clear HW HNew HB
  have x1 := h1.lt
  have x2 := h1.map.lt
  have s0 := hm0.size
  have s1 := hm1.size
  have hm := (hm0.and hm1).and hm2
  replace h1 := h1.fr hm2
  have hpq : w.heap.size ≤ p ∧ w.heap.size ≤ B ∧ p < q ∧ p < C ∧ B < q ∧ B < C := by omega
  clear hm0 hm1 hm2 x1 x2 s0 s1 hp hB hq hC
  obtain ⟨hp, hB, hpq, hpC, hBq, hBC⟩ := hpq
  have k1 : Ok 8 (fun _ => 0) := Ok.zero (by omega) (by omega)
  have ka : Agree one (fun _ => 0) (fun _ => 0) := fun _ _ => rfl
  go_wp2_with fail
  go_loopw [9] (fun i wr => ∃ (j : Nat) (f g : Int → Int), i = .int .i64 j ∧ j ≤ ds.length ∧ Al wr p B 8 f ∧ Ok 8 f ∧ Al wr q C 8 g ∧ Ok 8 g ∧ Agree one f g ∧ Mod (fun _ => False) w wr) (fun i _ => ds.length - (intOf i).toNat)
  case atStart => exact ⟨0, _, _, rfl, by omega, h1, k1, h2, k1, ka, hm⟩
  case round =>
    clear hm h1 h2 k1 ka
    obtain ⟨j, f, g, rfl, hj, h1, k1, h2, k2, ka, hm⟩ := hrel
    by_cases hlt : j < ds.length
    · have hji : (j : Int) < (ds.length : Int) := by omega
      obtain ⟨d, hdk⟩ : ∃ d, ds[j]? = some d := ⟨_, List.getElem?_eq_getElem hlt⟩
      obtain ⟨lb, lo, rfl, hcells⟩ := HDD.out.at hdk
      obtain ⟨ik, iv, it⟩ := HDD.out.each d (List.mem_of_getElem? hdk)
      obtain ⟨c0, c1, c2⟩ := hcells wr hm
      obtain ⟨x, y, z⟩ := d
      simp only at c0 c1 c2 ik iv it
      have IX : Hid (I64 x) := ik
      have IY : Hid (I64 y) := iv
      have IZ : Hid (I64 z) := it
      obtain ⟨k, hk⟩ : ∃ k, k = y % 8 := ⟨_, rfl⟩
      obtain ⟨t, ht⟩ : ∃ t, t = 1 + z % 20 := ⟨_, rfl⟩
      have hk8 : 0 ≤ k ∧ k < 8 := by omega
      have ht8 : 1 ≤ t ∧ t ≤ 20 := by omega
      have hz8 : 0 ≤ z % 20 ∧ z % 20 < 20 := by omega
      have HK : Hid (y % 8 = k) := hk.symm
      have HT : Hid (1 + z % 20 = t) := ht.symm
      have IK : Hid (I64 k) := by unfold Hid I64; omega
      have hsz := hm.size
      clear hdk hcells ik iv it hk ht
      go_wp2_with fail
      replace hm := hm.drew
      replace h1 := h1.drew
      replace h2 := h2.drew
      go_region_held3 (fun y' => y'.cell? ⟨lb, lo + j * 3, none⟩ = some (.int .i64 x) ∧ y'.cell? ⟨lb, lo + j * 3 + 1, none⟩ = some (.int .i64 y) ∧ y'.cell? ⟨lb, lo + j * 3 + 2, none⟩ = some (.int .i64 z)) (first | exact ⟨c0, c1, c2⟩ | go_keep)
        (first | (go_at_call 11; refine (Bring_any _ _ _ (by first | exact IY.out | exact IZ.out) (by omega) (by omega)).mono ?_; rintro e w7 ⟨rfl, rfl⟩))
      have BR := Bring_any x 4
      rw [HK.out]
      rw [HT.out, show IntKind.i64.wrap t = t by rw [IntKind.wrap_i64]; omega]
      clear hz8 HK
      go_wp2_with fail
      refine (BR _ IX.out (by omega) (by omega)).mono ?_
      rintro e w5 ⟨rfl, rfl⟩
      have hx4 : x % 4 = 0 ∨ x % 4 = 1 ∨ x % 4 = 2 ∨ x % 4 = 3 := by omega
      clear BR c0 c1 c2 IX IY IZ
      generalize x % 4 = y4 at hx4
      rcases hx4 with rfl | rfl | rfl | rfl
      · -- Set
        have HS := Set_any p B 8 f k t
        have HS2 := Set_any q C 8 g k t
        go_wp2_with fail
        refine (HS _ h1 (by omega) (by omega)).mono ?_
        rintro e w6 ⟨rfl, h1', hm5⟩
        replace h2 := h2.mod hm5 (by show ¬ q = B; omega) (by show ¬ C = B; omega)
        replace hm := hm.trans hm5 (V := fun _ => False) (fun _ _ h => h) (fun i hi hh => by omega)
        clear hm5 h1 HS
        by_cases hk1 : k = one
        · have zz : (k != one) = false := by simp [hk1]
          generalize sE 8 k t = E
          obtain ⟨F, G, g1, g2, g3, g4, g5⟩ : ∃ F G, Al w6 p B 8 F ∧ Ok 8 F ∧ Al w6 q C 8 G ∧ Ok 8 G ∧ Agree one F G := ⟨_, _, h1', k1.set k t, h2, k2, ka.set1 8 k t hk1⟩
          clear h1' k1 h2 k2 ka
          have h1 := g1
          have k1 := g2
          have h2 := g3
          have k2 := g4
          have ka := g5
          clear g1 g2 g3 g4 g5
          clear hk1 HS2
          go_wp2
          go_loopw [19] (fun i wr => ∃ (c : Nat), i = .int .i64 c ∧ c ≤ 8 ∧ Hid (Al wr p B 8 F) ∧ Hid (Al wr q C 8 G) ∧ Hid (Mod (fun _ => False) w wr)) (fun i _ => 8 - (intOf i).toNat)
          case atStart => exact ⟨0, rfl, by omega, h1, h2, hm⟩
          case round =>
            clear h1 h2 hm
            obtain ⟨c, rfl, hc, h1, h2, hm⟩ := hrel
            by_cases hc8 : c < 8
            · have hci : (c : Int) < 8 := by omega
              by_cases he : (c : Int) = one
              · have zc : ((c : Int) != one) = false := by simp [he]
                clear he
                go_wp2
                go_roundw
                case rel => exact ⟨c + 1, by go_num, by omega, h1, h2, hm⟩
                case measure => simp [intOf]; omega
              · have zc : ((c : Int) != one) = true := by simp [he]
                have IC : Hid (I64 (c : Int)) := by unfold Hid I64; omega
                have HR2 := Left_any p B 8 F c _ h1.out (by omega) IC.out
                have HN2 := Left_any q C 8 G c _ h2.out (by omega) IC.out
                rw [← ka c he] at HN2
                generalize F c = fc at HR2 HN2
                clear he
                go_wp2_with fail
                refine HR2.mono ?_
                rintro e w7 ⟨rfl, rfl⟩
                go_wp2_with fail
                refine HN2.mono ?_
                rintro e w7 ⟨rfl, rfl⟩
                clear HR2 HN2
                go_wp2
                go_roundw
                case rel => exact ⟨c + 1, by go_num, by omega, h1, h2, hm⟩
                case measure => simp [intOf]; omega
            · obtain rfl : c = 8 := by omega
              go_wp2
              go_roundw
              case rel => exact ⟨j + 1, F, G, by go_num, by omega, h1.out, k1, h2.out, k2, ka, hm.out⟩
              case measure => simp [intOf]; omega
        · have zz : (k != one) = true := by simp [hk1]
          go_wp2_with fail
          refine (HS2 _ h2 (by omega) (by omega)).mono ?_
          rintro e w7 ⟨rfl, h2', hm5⟩
          replace h1' := h1'.mod hm5 (by show ¬ p = C; omega) (by show ¬ B = C; omega)
          replace hm := hm.trans hm5 (V := fun _ => False) (fun _ _ h => h) (fun i hi hh => by omega)
          clear hm5 HS2
          generalize sE 8 k t = E
          obtain ⟨F, G, g1, g2, g3, g4, g5⟩ : ∃ F G, Al w7 p B 8 F ∧ Ok 8 F ∧ Al w7 q C 8 G ∧ Ok 8 G ∧ Agree one F G := ⟨_, _, h1', k1.set k t, h2', k2.set k t, ka.set 8 k t⟩
          clear h1' k1 h2 h2' k2 ka
          have h1 := g1
          have k1 := g2
          have h2 := g3
          have k2 := g4
          have ka := g5
          clear g1 g2 g3 g4 g5
          clear hk1
          go_wp2
          go_loopw [19] (fun i wr => ∃ (c : Nat), i = .int .i64 c ∧ c ≤ 8 ∧ Hid (Al wr p B 8 F) ∧ Hid (Al wr q C 8 G) ∧ Hid (Mod (fun _ => False) w wr)) (fun i _ => 8 - (intOf i).toNat)
          case atStart => exact ⟨0, rfl, by omega, h1, h2, hm⟩
          case round =>
            clear h1 h2 hm
            obtain ⟨c, rfl, hc, h1, h2, hm⟩ := hrel
            by_cases hc8 : c < 8
            · have hci : (c : Int) < 8 := by omega
              by_cases he : (c : Int) = one
              · have zc : ((c : Int) != one) = false := by simp [he]
                clear he
                go_wp2
                go_roundw
                case rel => exact ⟨c + 1, by go_num, by omega, h1, h2, hm⟩
                case measure => simp [intOf]; omega
              · have zc : ((c : Int) != one) = true := by simp [he]
                have IC : Hid (I64 (c : Int)) := by unfold Hid I64; omega
                have HR2 := Left_any p B 8 F c _ h1.out (by omega) IC.out
                have HN2 := Left_any q C 8 G c _ h2.out (by omega) IC.out
                rw [← ka c he] at HN2
                generalize F c = fc at HR2 HN2
                clear he
                go_wp2_with fail
                refine HR2.mono ?_
                rintro e w7 ⟨rfl, rfl⟩
                go_wp2_with fail
                refine HN2.mono ?_
                rintro e w7 ⟨rfl, rfl⟩
                clear HR2 HN2
                go_wp2
                go_roundw
                case rel => exact ⟨c + 1, by go_num, by omega, h1, h2, hm⟩
                case measure => simp [intOf]; omega
            · obtain rfl : c = 8 := by omega
              go_wp2
              go_roundw
              case rel => exact ⟨j + 1, F, G, by go_num, by omega, h1.out, k1, h2.out, k2, ka, hm.out⟩
              case measure => simp [intOf]; omega
      · -- Clear
        have HS := Clear_any p B 8 f k
        have HS2 := Clear_any q C 8 g k
        go_wp2_with fail
        refine (HS _ h1 (by omega) IK.out).mono ?_
        rintro e w6 ⟨rfl, h1', hm5⟩
        replace h2 := h2.mod hm5 (by show ¬ q = B; omega) (by show ¬ C = B; omega)
        replace hm := hm.trans hm5 (V := fun _ => False) (fun _ _ h => h) (fun i hi hh => by omega)
        clear hm5 h1 HS
        by_cases hk1 : k = one
        · have zz : (k != one) = false := by simp [hk1]
          generalize kE 8 k = E
          obtain ⟨F, G, g1, g2, g3, g4, g5⟩ : ∃ F G, Al w6 p B 8 F ∧ Ok 8 F ∧ Al w6 q C 8 G ∧ Ok 8 G ∧ Agree one F G := ⟨_, _, h1', k1.clear k, h2, k2, ka.clear1 8 k hk1⟩
          clear h1' k1 h2 k2 ka
          have h1 := g1
          have k1 := g2
          have h2 := g3
          have k2 := g4
          have ka := g5
          clear g1 g2 g3 g4 g5
          clear hk1 HS2
          go_wp2
          go_loopw [19] (fun i wr => ∃ (c : Nat), i = .int .i64 c ∧ c ≤ 8 ∧ Hid (Al wr p B 8 F) ∧ Hid (Al wr q C 8 G) ∧ Hid (Mod (fun _ => False) w wr)) (fun i _ => 8 - (intOf i).toNat)
          case atStart => exact ⟨0, rfl, by omega, h1, h2, hm⟩
          case round =>
            clear h1 h2 hm
            obtain ⟨c, rfl, hc, h1, h2, hm⟩ := hrel
            by_cases hc8 : c < 8
            · have hci : (c : Int) < 8 := by omega
              by_cases he : (c : Int) = one
              · have zc : ((c : Int) != one) = false := by simp [he]
                clear he
                go_wp2
                go_roundw
                case rel => exact ⟨c + 1, by go_num, by omega, h1, h2, hm⟩
                case measure => simp [intOf]; omega
              · have zc : ((c : Int) != one) = true := by simp [he]
                have IC : Hid (I64 (c : Int)) := by unfold Hid I64; omega
                have HR2 := Left_any p B 8 F c _ h1.out (by omega) IC.out
                have HN2 := Left_any q C 8 G c _ h2.out (by omega) IC.out
                rw [← ka c he] at HN2
                generalize F c = fc at HR2 HN2
                clear he
                go_wp2_with fail
                refine HR2.mono ?_
                rintro e w7 ⟨rfl, rfl⟩
                go_wp2_with fail
                refine HN2.mono ?_
                rintro e w7 ⟨rfl, rfl⟩
                clear HR2 HN2
                go_wp2
                go_roundw
                case rel => exact ⟨c + 1, by go_num, by omega, h1, h2, hm⟩
                case measure => simp [intOf]; omega
            · obtain rfl : c = 8 := by omega
              go_wp2
              go_roundw
              case rel => exact ⟨j + 1, F, G, by go_num, by omega, h1.out, k1, h2.out, k2, ka, hm.out⟩
              case measure => simp [intOf]; omega
        · have zz : (k != one) = true := by simp [hk1]
          go_wp2_with fail
          refine (HS2 _ h2 (by omega) IK.out).mono ?_
          rintro e w7 ⟨rfl, h2', hm5⟩
          replace h1' := h1'.mod hm5 (by show ¬ p = C; omega) (by show ¬ B = C; omega)
          replace hm := hm.trans hm5 (V := fun _ => False) (fun _ _ h => h) (fun i hi hh => by omega)
          clear hm5 HS2
          generalize kE 8 k = E
          obtain ⟨F, G, g1, g2, g3, g4, g5⟩ : ∃ F G, Al w7 p B 8 F ∧ Ok 8 F ∧ Al w7 q C 8 G ∧ Ok 8 G ∧ Agree one F G := ⟨_, _, h1', k1.clear k, h2', k2.clear k, ka.clear 8 k⟩
          clear h1' k1 h2 h2' k2 ka
          have h1 := g1
          have k1 := g2
          have h2 := g3
          have k2 := g4
          have ka := g5
          clear g1 g2 g3 g4 g5
          clear hk1
          go_wp2
          go_loopw [19] (fun i wr => ∃ (c : Nat), i = .int .i64 c ∧ c ≤ 8 ∧ Hid (Al wr p B 8 F) ∧ Hid (Al wr q C 8 G) ∧ Hid (Mod (fun _ => False) w wr)) (fun i _ => 8 - (intOf i).toNat)
          case atStart => exact ⟨0, rfl, by omega, h1, h2, hm⟩
          case round =>
            clear h1 h2 hm
            obtain ⟨c, rfl, hc, h1, h2, hm⟩ := hrel
            by_cases hc8 : c < 8
            · have hci : (c : Int) < 8 := by omega
              by_cases he : (c : Int) = one
              · have zc : ((c : Int) != one) = false := by simp [he]
                clear he
                go_wp2
                go_roundw
                case rel => exact ⟨c + 1, by go_num, by omega, h1, h2, hm⟩
                case measure => simp [intOf]; omega
              · have zc : ((c : Int) != one) = true := by simp [he]
                have IC : Hid (I64 (c : Int)) := by unfold Hid I64; omega
                have HR2 := Left_any p B 8 F c _ h1.out (by omega) IC.out
                have HN2 := Left_any q C 8 G c _ h2.out (by omega) IC.out
                rw [← ka c he] at HN2
                generalize F c = fc at HR2 HN2
                clear he
                go_wp2_with fail
                refine HR2.mono ?_
                rintro e w7 ⟨rfl, rfl⟩
                go_wp2_with fail
                refine HN2.mono ?_
                rintro e w7 ⟨rfl, rfl⟩
                clear HR2 HN2
                go_wp2
                go_roundw
                case rel => exact ⟨c + 1, by go_num, by omega, h1, h2, hm⟩
                case measure => simp [intOf]; omega
            · obtain rfl : c = 8 := by omega
              go_wp2
              go_roundw
              case rel => exact ⟨j + 1, F, G, by go_num, by omega, h1.out, k1, h2.out, k2, ka, hm.out⟩
              case measure => simp [intOf]; omega
      · -- Fire
        have HS := Fire_any p B 8 f k
        have HS2 := Fire_any q C 8 g k
        go_wp2_with fail
        refine (HS _ h1 (by omega) IK.out).mono ?_
        rintro e w6 ⟨rfl, h1', hm5⟩
        replace h2 := h2.mod hm5 (by show ¬ q = B; omega) (by show ¬ C = B; omega)
        replace hm := hm.trans hm5 (V := fun _ => False) (fun _ _ h => h) (fun i hi hh => by omega)
        clear hm5 h1 HS
        by_cases hk1 : k = one
        · have zz : (k != one) = false := by simp [hk1]
          generalize fE 8 f k = E
          obtain ⟨F, G, g1, g2, g3, g4, g5⟩ : ∃ F G, Al w6 p B 8 F ∧ Ok 8 F ∧ Al w6 q C 8 G ∧ Ok 8 G ∧ Agree one F G := ⟨_, _, h1', k1.clear k, h2, k2, ka.clear1 8 k hk1⟩
          clear h1' k1 h2 k2 ka
          have h1 := g1
          have k1 := g2
          have h2 := g3
          have k2 := g4
          have ka := g5
          clear g1 g2 g3 g4 g5
          clear hk1 HS2
          go_wp2
          go_loopw [19] (fun i wr => ∃ (c : Nat), i = .int .i64 c ∧ c ≤ 8 ∧ Hid (Al wr p B 8 F) ∧ Hid (Al wr q C 8 G) ∧ Hid (Mod (fun _ => False) w wr)) (fun i _ => 8 - (intOf i).toNat)
          case atStart => exact ⟨0, rfl, by omega, h1, h2, hm⟩
          case round =>
            clear h1 h2 hm
            obtain ⟨c, rfl, hc, h1, h2, hm⟩ := hrel
            by_cases hc8 : c < 8
            · have hci : (c : Int) < 8 := by omega
              by_cases he : (c : Int) = one
              · have zc : ((c : Int) != one) = false := by simp [he]
                clear he
                go_wp2
                go_roundw
                case rel => exact ⟨c + 1, by go_num, by omega, h1, h2, hm⟩
                case measure => simp [intOf]; omega
              · have zc : ((c : Int) != one) = true := by simp [he]
                have IC : Hid (I64 (c : Int)) := by unfold Hid I64; omega
                have HR2 := Left_any p B 8 F c _ h1.out (by omega) IC.out
                have HN2 := Left_any q C 8 G c _ h2.out (by omega) IC.out
                rw [← ka c he] at HN2
                generalize F c = fc at HR2 HN2
                clear he
                go_wp2_with fail
                refine HR2.mono ?_
                rintro e w7 ⟨rfl, rfl⟩
                go_wp2_with fail
                refine HN2.mono ?_
                rintro e w7 ⟨rfl, rfl⟩
                clear HR2 HN2
                go_wp2
                go_roundw
                case rel => exact ⟨c + 1, by go_num, by omega, h1, h2, hm⟩
                case measure => simp [intOf]; omega
            · obtain rfl : c = 8 := by omega
              go_wp2
              go_roundw
              case rel => exact ⟨j + 1, F, G, by go_num, by omega, h1.out, k1, h2.out, k2, ka, hm.out⟩
              case measure => simp [intOf]; omega
        · have zz : (k != one) = true := by simp [hk1]
          rw [ka.fire 8 k hk1] at HS2
          generalize fE 8 f k = E at HS2 ⊢
          go_wp2_with fail
          refine (HS2 _ h2 (by omega) IK.out).mono ?_
          rintro e w7 ⟨rfl, h2', hm5⟩
          replace h1' := h1'.mod hm5 (by show ¬ p = C; omega) (by show ¬ B = C; omega)
          replace hm := hm.trans hm5 (V := fun _ => False) (fun _ _ h => h) (fun i hi hh => by omega)
          clear hm5 HS2
          obtain ⟨F, G, g1, g2, g3, g4, g5⟩ : ∃ F G, Al w7 p B 8 F ∧ Ok 8 F ∧ Al w7 q C 8 G ∧ Ok 8 G ∧ Agree one F G := ⟨_, _, h1', k1.clear k, h2', k2.clear k, ka.clear 8 k⟩
          clear h1' k1 h2 h2' k2 ka
          have h1 := g1
          have k1 := g2
          have h2 := g3
          have k2 := g4
          have ka := g5
          clear g1 g2 g3 g4 g5
          clear hk1
          go_wp2
          go_loopw [19] (fun i wr => ∃ (c : Nat), i = .int .i64 c ∧ c ≤ 8 ∧ Hid (Al wr p B 8 F) ∧ Hid (Al wr q C 8 G) ∧ Hid (Mod (fun _ => False) w wr)) (fun i _ => 8 - (intOf i).toNat)
          case atStart => exact ⟨0, rfl, by omega, h1, h2, hm⟩
          case round =>
            clear h1 h2 hm
            obtain ⟨c, rfl, hc, h1, h2, hm⟩ := hrel
            by_cases hc8 : c < 8
            · have hci : (c : Int) < 8 := by omega
              by_cases he : (c : Int) = one
              · have zc : ((c : Int) != one) = false := by simp [he]
                clear he
                go_wp2
                go_roundw
                case rel => exact ⟨c + 1, by go_num, by omega, h1, h2, hm⟩
                case measure => simp [intOf]; omega
              · have zc : ((c : Int) != one) = true := by simp [he]
                have IC : Hid (I64 (c : Int)) := by unfold Hid I64; omega
                have HR2 := Left_any p B 8 F c _ h1.out (by omega) IC.out
                have HN2 := Left_any q C 8 G c _ h2.out (by omega) IC.out
                rw [← ka c he] at HN2
                generalize F c = fc at HR2 HN2
                clear he
                go_wp2_with fail
                refine HR2.mono ?_
                rintro e w7 ⟨rfl, rfl⟩
                go_wp2_with fail
                refine HN2.mono ?_
                rintro e w7 ⟨rfl, rfl⟩
                clear HR2 HN2
                go_wp2
                go_roundw
                case rel => exact ⟨c + 1, by go_num, by omega, h1, h2, hm⟩
                case measure => simp [intOf]; omega
            · obtain rfl : c = 8 := by omega
              go_wp2
              go_roundw
              case rel => exact ⟨j + 1, F, G, by go_num, by omega, h1.out, k1, h2.out, k2, ka, hm.out⟩
              case measure => simp [intOf]; omega
      · -- a tick
        have HT1 := due_any p B 8 f
        have HT2 := due_any q C 8 g
        have hll1 := dl_len f 8
        have hll2 := dl_len g 8
        have hfl := ka.due 8
        have k1' := k1.tick
        have k2' := k2.tick
        have ka' := ka.tick
        generalize tF f = F at *
        generalize tF g = G at *
        generalize dl f 8 = L1 at *
        generalize dl g 8 = L2 at *
        have HFL : Hid (fl one L1 = fl one L2) := hfl
        clear hfl ka
        have ka := ka'
        clear ka'
        go_wp2_with fail
        refine (HT1 _ h1 k1).mono ?_
        rintro e w6 ⟨v1, rfl, ho1', h1', hm5, hn1⟩
        have hCl := h2.map.lt
        have hql := h2.lt
        replace h2 := h2.mod hm5 (by show ¬ q = B; omega) (by show ¬ C = B; omega)
        replace hm := hm.trans hm5 (V := fun _ => False) (fun _ _ h => h) (fun i hi hh => by omega)
        clear hm5 h1 HT1 k1
        go_wp2_with fail
        refine (HT2 _ h2 k2).mono ?_
        rintro e w7 ⟨v2, rfl, ho2', h2', hm5, hn2⟩
        replace h1' := h1'.mod hm5 (by show ¬ p = C; omega) (by show ¬ B = C; omega)
        replace ho1' := ho1'.mod hm5 (fun q hq e => by have := hn1 q hq; omega)
        replace hm := hm.trans hm5 (V := fun _ => False) (fun _ _ h => h) (fun i hi hh => by omega)
        clear hm5 h2 HT2 k2 hn1 hn2 hCl hql
        have k1 := k1'
        have k2 := k2'
        clear k1' k2'
        obtain ⟨St, hSt⟩ : ∃ St : World → Prop, St = fun w' => Own w' v1 L1 ∧ Own w' v2 L2 ∧ Al w' p B 8 F ∧ Al w' q C 8 G := ⟨_, rfl⟩
        obtain ⟨sz, hsz'⟩ : ∃ sz, sz = w7.heap.size := ⟨_, rfl⟩
        have hst : St w7 := by rw [hSt]; exact ⟨ho1', ho2', h1', h2'⟩
        have HSt : Hid (∀ a b, Mod (fun i => sz ≤ i) a b → St a → St b) := by
          have l1 := ho1'.lt
          have l2 := ho2'.lt
          have l3 := h1'.lt
          have l4 := h1'.map.lt
          have l5 := h2'.lt
          have l6 := h2'.map.lt
          rw [hSt]
          rintro a b hmab ⟨r1, r2, r3, r4⟩
          exact ⟨r1.mod hmab (fun g hg h => by have := l1 g hg; omega), r2.mod hmab (fun g hg h => by have := l2 g hg; omega), r3.mod hmab (by omega) (by omega), r4.mod hmab (by omega) (by omega)⟩
        obtain ⟨ao1, cap1, e1⟩ := ho1'.shape
        obtain ⟨ao2, cap2, e2⟩ := ho2'.shape
        subst e1 e2
        have HV1 : Hid (∀ w', St w' → Own w' (.slice ao1 L1.length cap1) L1) := by rw [hSt]; exact fun w' h => h.1
        have HV2 : Hid (∀ w', St w' → Own w' (.slice ao2 L2.length cap2) L2) := by rw [hSt]; exact fun w' h => h.2.1
        have HA1 : Hid (∀ w', St w' → Al w' p B 8 F) := by rw [hSt]; exact fun w' h => h.2.2.1
        have HA2 : Hid (∀ w', St w' → Al w' q C 8 G) := by rw [hSt]; exact fun w' h => h.2.2.2
        have hs1 : sz ≤ w7.heap.size := by omega
        have hwz : w.heap.size ≤ sz := by have := hm.size; omega
        clear hSt hsz' ho1' ho2' h1' h2'
        go_wp2_with fail
        go_loopw [13, 17] (fun s i wr => ∃ (c : Nat), i = .int .i64 c ∧ c ≤ L1.length ∧ Hid (Own wr s (fl one (L1.take c))) ∧ Hid (∀ g, s.ownBlock = some g → sz ≤ g) ∧ Hid (sz ≤ wr.heap.size) ∧ Hid (St wr) ∧ Hid (Mod (fun _ => False) w wr)) (fun _ i _ => L1.length - (intOf i).toNat)
        case atStart => exact ⟨0, rfl, by omega, by show Own _ _ _; exact Own.nil _, by intro g hg; simp [Value.ownBlock] at hg, hs1, hst, hm⟩
        case round =>
          clear hst hm hs1 
          obtain ⟨c, rfl, hc, hown, hnew, hsw, hst, hm⟩ := hrel
          by_cases hcl : c < L1.length
          · have hci : (c : Int) < (L1.length : Int) := by omega
            obtain ⟨gb, rfl, cc⟩ := (HV1.out wr hst.out).at hcl
            have hll := fl_len one L1 c
            have hyes : Hid (¬ L1.getD c 0 = one → fl one (L1.take (c + 1)) = fl one (L1.take c) ++ [L1.getD c 0]) := fl_take_yes hcl
            have hno : Hid (L1.getD c 0 = one → fl one (L1.take (c + 1)) = fl one (L1.take c)) := fl_take_no hcl
            generalize L1.getD c 0 = ev at cc hyes hno
            generalize fl one (L1.take c) = l0 at *
            obtain ⟨l1, hl1⟩ : ∃ l1, l1 = fl one (L1.take (c + 1)) := ⟨_, rfl⟩
            rw [← hl1] at hyes hno
            have HL1 : Hid (l1 = fl one (L1.take (c + 1))) := hl1
            clear hl1
            by_cases he : ev = one
            · have zc : (ev != one) = false := by simp [he]
              have e1 : Hid (l1 = l0) := hno.out he
              clear hyes hno he hll
              go_wp2
              go_roundw
              case rel => exact ⟨c + 1, by go_num, by omega, by show Own _ _ _; rw [← HL1.out, e1.out]; exact hown, hnew, hsw, hst, hm⟩
              case measure => simp [intOf]; omega
            · have zc : (ev != one) = true := by simp [he]
              have e1 : Hid (l1 = l0 ++ [ev]) := hyes.out he
              clear hyes hno he
              have hll2 : Hid (l0.length ≤ 8) := by show _ ≤ _; omega
              clear hll
              go_wp2_with (at_builtin; refine wpList_append_lies _ rfl _ _ 36 rfl 0 3 i0 (.int .i64 0) 1 8 Try.underlying36 hi hz0 hz1 hz2 rfl (by decide) u13 l0.length (U l0) rfl (hown.out.alloc _) ⟨wr.heap.size, 0, none⟩ 1 1 [.int .i64 ev] rfl rfl (app1 _ _ _) (U_one [ev]) (by omega) (by have := hll2.out; simp only [maxLen]; omega) (by have := hll2.out; omega) (Nat.zero_le _) (wr.heap.size + 1) (by simp) ?_; intro ga capn w3 hown1 hgrow hga hlt3)
              have R := Own.two hm.out (by omega) hsw.out hnew.out hown1 hgrow hga
              have hm3 : Mod (fun i => sz ≤ i) wr w3 := ((Mod.refl _ _).alloc _).grown hgrow (fun q hq hlt => hnew.out q hq)
              have hst3 : Hid (St w3) := HSt.out _ _ (hm3.mono (fun i _ h => by omega)) hst.out
              have hsw3 : Hid (sz ≤ w3.heap.size) := by have := hm3.size; have := hsw.out; show _ ≤ _; omega
              go_roundw
              case rel => exact ⟨c + 1, by go_num, by omega, by show Own _ _ _; rw [← HL1.out, e1.out]; exact R.1, R.2.2, hsw3, hst3, R.2.1⟩
              case measure => simp [intOf]; omega
          · obtain rfl : c = L1.length := by omega
            have hown2 : Own wr u13 (fl one L1) := by have := hown.out; rwa [List.take_length] at this
            clear hown hcl
            obtain ⟨vx, hvx'⟩ : ∃ vx, vx = u13 := ⟨_, rfl⟩
            rw [← hvx'] at hown2 hnew ⊢
            have hvx : Own wr vx (fl one L1) := hown2
            obtain ⟨sz2, hsz2⟩ : ∃ sz2, sz2 = wr.heap.size := ⟨_, rfl⟩
            have hvl : Hid (∀ g, vx.ownBlock = some g → g < sz2) := by rw [hsz2]; exact hvx.lt
            have hs2 : sz2 ≤ wr.heap.size := by omega
            have hz12 : sz ≤ sz2 := by have := hsw.out; omega
            replace hm := hm.out
            replace hst := hst.out
            clear hvx' hsz2 hown2 hnew hsw
            go_wp2_with fail
            go_loopw [14, 18] (fun s i wr => ∃ (c : Nat), i = .int .i64 c ∧ c ≤ L2.length ∧ Hid (Own wr s (fl one (L2.take c))) ∧ Hid (∀ g, s.ownBlock = some g → sz2 ≤ g) ∧ Hid (sz2 ≤ wr.heap.size) ∧ Hid (St wr) ∧ Hid (Mod (fun _ => False) w wr) ∧ Hid (Own wr vx (fl one L1))) (fun _ i _ => L2.length - (intOf i).toNat)
            case atStart => exact ⟨0, rfl, by omega, by show Own _ _ _; exact Own.nil _, by intro g hg; simp [Value.ownBlock] at hg, hs2, hst, hm, hvx⟩
            case round =>
              clear hst hm hs2 hvx
              obtain ⟨c, rfl, hc, hown, hnew, hsw, hst, hm, hvx⟩ := hrel
              by_cases hcl : c < L2.length
              · have hci : (c : Int) < (L2.length : Int) := by omega
                obtain ⟨gb, rfl, cc⟩ := (HV2.out wr hst.out).at hcl
                have hll := fl_len one L2 c
                have hyes : Hid (¬ L2.getD c 0 = one → fl one (L2.take (c + 1)) = fl one (L2.take c) ++ [L2.getD c 0]) := fl_take_yes hcl
                have hno : Hid (L2.getD c 0 = one → fl one (L2.take (c + 1)) = fl one (L2.take c)) := fl_take_no hcl
                generalize L2.getD c 0 = ev at cc hyes hno
                generalize fl one (L2.take c) = l0 at *
                obtain ⟨l1, hl1⟩ : ∃ l1, l1 = fl one (L2.take (c + 1)) := ⟨_, rfl⟩
                rw [← hl1] at hyes hno
                have HL1 : Hid (l1 = fl one (L2.take (c + 1))) := hl1
                clear hl1
                by_cases he : ev = one
                · have zc : (ev != one) = false := by simp [he]
                  have e1 : Hid (l1 = l0) := hno.out he
                  clear hyes hno he hll
                  go_wp2
                  go_roundw
                  case rel => exact ⟨c + 1, by go_num, by omega, by show Own _ _ _; rw [← HL1.out, e1.out]; exact hown, hnew, hsw, hst, hm, hvx⟩
                  case measure => simp [intOf]; omega
                · have zc : (ev != one) = true := by simp [he]
                  have e1 : Hid (l1 = l0 ++ [ev]) := hyes.out he
                  clear hyes hno he
                  have hll2 : Hid (l0.length ≤ 8) := by show _ ≤ _; omega
                  clear hll
                  go_wp2_with (at_builtin; refine wpList_append_lies _ rfl _ _ 36 rfl 0 3 i0 (.int .i64 0) 1 8 Try.underlying36 hi hz0 hz1 hz2 rfl (by decide) u14 l0.length (U l0) rfl (hown.out.alloc _) ⟨wr.heap.size, 0, none⟩ 1 1 [.int .i64 ev] rfl rfl (app1 _ _ _) (U_one [ev]) (by omega) (by have := hll2.out; simp only [maxLen]; omega) (by have := hll2.out; omega) (Nat.zero_le _) (wr.heap.size + 1) (by simp) ?_; intro ga capn w3 hown1 hgrow hga hlt3)
                  have R := Own.two hm.out (by omega) hsw.out hnew.out hown1 hgrow hga
                  have hm3 : Mod (fun i => sz2 ≤ i) wr w3 := ((Mod.refl _ _).alloc _).grown hgrow (fun q hq hlt => hnew.out q hq)
                  have hst3 : Hid (St w3) := HSt.out _ _ (hm3.mono (fun i _ h => by omega)) hst.out
                  have hsw3 : Hid (sz2 ≤ w3.heap.size) := by have := hm3.size; have := hsw.out; show _ ≤ _; omega
                  have hvx3 : Hid (Own w3 vx (fl one L1)) := hvx.out.mod hm3 (fun g hg h => by have := hvl.out g hg; omega)
                  go_roundw
                  case rel => exact ⟨c + 1, by go_num, by omega, by show Own _ _ _; rw [← HL1.out, e1.out]; exact R.1, R.2.2, hsw3, hst3, R.2.1, hvx3⟩
                  case measure => simp [intOf]; omega
              · obtain rfl : c = L2.length := by omega
                have hown2 : Own wr u14 (fl one L2) := by have := hown.out; rwa [List.take_length] at this
                clear hown hcl
                have HQ := EqInts_at true hvx.out.sl hown2.sl (by rw [HFL.out]; simp)
                replace hm := hm.out
                replace hst := hst.out
                go_wp2_with fail
                refine HQ.mono ?_
                rintro e w9 ⟨rfl, hm5⟩
                have h1 := (HA1.out _ hst).fr hm5
                have h2 := (HA2.out _ hst).fr hm5
                replace hm := hm.and hm5
                clear HQ hm5 hst hvx hown2 HA1 HA2 HV1 HV2 HSt
                go_wp2
                go_loopw [19] (fun i wr => ∃ (c : Nat), i = .int .i64 c ∧ c ≤ 8 ∧ Hid (Al wr p B 8 F) ∧ Hid (Al wr q C 8 G) ∧ Hid (Mod (fun _ => False) w wr)) (fun i _ => 8 - (intOf i).toNat)
                case atStart => exact ⟨0, rfl, by omega, h1, h2, hm⟩
                case round =>
                  clear h1 h2 hm
                  obtain ⟨c, rfl, hc, h1, h2, hm⟩ := hrel
                  by_cases hc8 : c < 8
                  · have hci : (c : Int) < 8 := by omega
                    by_cases he : (c : Int) = one
                    · have zc : ((c : Int) != one) = false := by simp [he]
                      clear he
                      go_wp2
                      go_roundw
                      case rel => exact ⟨c + 1, by go_num, by omega, h1, h2, hm⟩
                      case measure => simp [intOf]; omega
                    · have zc : ((c : Int) != one) = true := by simp [he]
                      have IC : Hid (I64 (c : Int)) := by unfold Hid I64; omega
                      have HR2 := Left_any p B 8 F c _ h1.out (by omega) IC.out
                      have HN2 := Left_any q C 8 G c _ h2.out (by omega) IC.out
                      rw [← ka c he] at HN2
                      generalize F c = fc at HR2 HN2
                      clear he
                      go_wp2_with fail
                      refine HR2.mono ?_
                      rintro e w7 ⟨rfl, rfl⟩
                      go_wp2_with fail
                      refine HN2.mono ?_
                      rintro e w7 ⟨rfl, rfl⟩
                      clear HR2 HN2
                      go_wp2
                      go_roundw
                      case rel => exact ⟨c + 1, by go_num, by omega, h1, h2, hm⟩
                      case measure => simp [intOf]; omega
                  · obtain rfl : c = 8 := by omega
                    go_wp2
                    go_roundw
                    case rel => exact ⟨j + 1, F, G, by go_num, by omega, h1.out, k1, h2.out, k2, ka, hm.out⟩
                    case measure => simp [intOf]; omega
    · go_wp2
      go_ret
      exact ⟨rfl, hm⟩
namespace alarmApart
open Go.ChangeShapes Go.WideShapes Go.ChangeAt Go.RowKit
set_option maxRecDepth 100000 in
theorem lifted (os : Os) (started : os.Started) (H : Type) (enc : TypeId × Value → H) :
    ReturnsInHanded {} Try.checked os 5 .any (Rows.alarmApartSpec.pre6 enc Try.prog Try.f5 Rows.alarmApartRow.domain false) (Rows.alarmApartSpec.post enc Try.prog Try.f5 false true false false) := by
  refine returnsInHanded_of_change_sized (C := Try.checked) own started (by kernel_rfl) Try.func5
    (ChangeSpec.witness6 (enc := enc) (C := Try.checked) false ⟨#[], #[.slice none 0 0, .int .i64 0], []⟩ 8 (by kernel_rfl) (by kernel_rfl) (by kernel_rfl) (by kernel_rfl)) ?_
  intro W base args ds gs before hval0 hW hcnd hsz0 _
  have hval : ∀ (j : Nat) t v, Try.f5.params[j]? = some t → args[j]? = some v → Value.okWide Try.prog W .any base t v := hval0
  have hW' := hW
  obtain ⟨p, q, hA0, hV, rfl, hfz, hnd⟩ := hW
  have hA : DataW.TrodAll enc Try.prog W 0 (fun _ => true) true Try.f5.params.toList args.toList ds p := hA0
  rw [Try.params5] at hA hval
  obtain ⟨v0, vs0, d0, ds0, p0, q0, hargs, rfl, rfl, h0, r0⟩ := trodAll_cons hA
  obtain ⟨v1, vs1, d1, ds1, p1, q1, rfl, rfl, rfl, h1, r1⟩ := trodAll_cons r0
  obtain ⟨rfl, rfl, rfl⟩ := trodAll_nil r1
  obtain rfl : args = #[v0, v1] := by cases args; simp_all
  obtain ⟨rfl, rfl⟩ := trodVars_none hV
  have k0 := h0
  have lt0 : ∀ x ∈ p0, x.block < W.heap.size := by obtain ⟨m, hm⟩ := k0; exact DataW.trod_lt m _ _ _ hm
  obtain ⟨dl0, hd0⟩ := open_deeds h0 (okWide_slice Try.underlying22 (hval 0 22 v0 rfl rfl))
  obtain ⟨a1, rfl, rfl, rfl, w1⟩ := open_int Try.underlying3 (hval 1 3 v1 rfl rfl) h1
  clear hA0 hval0
  refine (apart_walk v0 dl0 a1 W hd0 (i64_of_wf w1)).mono fun e W' ⟨he, hm⟩ => ?_
  subst he
  have bel : Below W.heap.size W W' := hm.below _ (Nat.le_refl _) (fun _ h => h.elim)
  exact ⟨_, rfl, _, _, _, [], _, [], hW', trodAll_mk1 (shut_bool Try.underlying4 _), (trodAll_cons_mk (Below.trod laidOut (by kernel_rfl) (of_decide_eq_true (by kernel_rfl)) k0 bel lt0) (trodAll_cons_mk (shut_int Try.underlying3 w1) trodAll_mk0)), rfl, bel.frame _, fun h => by cases h⟩

theorem over : Rows.alarmApartRow.holds Try.pinned (OpenSpec.ofChange Rows.alarmApartSpec) :=
  OpenClaim.holds_of_wide 5 Try.f5 rfl rfl rfl rfl rfl rfl rfl ⟨rfl, rfl, rfl, rfl, rfl⟩ rfl rfl rfl rfl rfl (by kernel_rfl) Try.func5 (by kernel_rfl)
    (of_decide_eq_true (by kernel_rfl)) (by unfold Func.isWrapper; first | (rw [if_pos (by decide +kernel)]; kernel_rfl) | (rw [if_neg (by decide +kernel)]; exact ⟨rfl, rfl⟩))
    (fun os started H enc _ => lifted os started H enc)
end alarmApart
theorem alarmApart_holds : Rows.AlarmApartSaid := alarmApart.over
end Go.Proofs.Ytkbncndinfimnaa
