/- AlarmDeeds holds: for any number and any deeds the law answers true and turns nothing that was there. Conditions: none. -/
import Derived.Test.YtkbncndinfimnaaDe
import Derived.SizedLaws
import Derived.Deep.RegionHeld3
namespace Go.Proofs.Ytkbncndinfimnaa
open Go.RowKit
set_option maxRecDepth 100000 in
set_option maxHeartbeats 4000000 in
theorem deeds_bad (n : Int) (lv : Value) (w : World) (hn : n < 1 ∨ 16 < n) :
    Calls Try.prog 3 #[.int .i64 n, lv] w fun e w' => e = .returned (.bool true) ∧ Mod (fun _ => False) w w' := by
  have H1 := New_bad n
  have H2 := dNew_bad n
  have HN : Hid (n < 1 ∨ 16 < n) := hn
  have H3 := New_ok 3
  have HW := works_any
  clear hn
  go_enter Try.func3, Try.ntmps3
  go_wp2_with fail
  refine (H1 _ HN.out).mono ?_
  rintro e w1 ⟨rfl, rfl⟩
  go_wp2_with fail
  refine (H2 _ HN.out).mono ?_
  rintro e w1 ⟨rfl, rfl⟩
  go_wp2_with fail
  refine (H3 _ (by omega) (by omega)).mono ?_
  rintro e w1 ⟨p, B, rfl, h, hm, hp, hB⟩
  go_wp2_with fail
  refine (HW _).mono ?_
  rintro e w2 ⟨rfl, hm2⟩
  go_wp2
  go_ret
  exact ⟨rfl, hm.and hm2⟩
/-- What is written into while it is gone through: cells of a block of its own, above m. -/
def Wr (w : World) (ao : Option Addr) (len m : Nat) : Prop := 0 < len → ∃ gx cur, ao = some ⟨gx, 0, none⟩ ∧ w.heap[gx]? = some (.cells cur 3 (0, 0)) ∧ len ≤ cur.size ∧ m ≤ gx
theorem Own.wr {w w0 : World} {v : Value} {l : List Int} (h : Own w v l) (hn : New w0 v) : ∃ ao cap, v = .slice ao l.length cap ∧ Wr w ao l.length w0.heap.size := by
  rcases h.2 with ⟨rfl, h0⟩ | ⟨g, cap, cur, rfl, hb, hg, hc, hcm, hcs, ht⟩
  · exact ⟨none, 0, by rw [h0], fun h => by omega⟩
  · exact ⟨_, cap, rfl, fun _ => ⟨g, cur, rfl, hg, by omega, hn g rfl⟩⟩
theorem cell_at {w : World} {gx : Nat} {cur : Array Value} (h : w.heap[gx]? = some (.cells cur 3 (0, 0))) {c : Nat} (hc : c < cur.size) : w.cell? ⟨gx, c, none⟩ = some cur[c] := by simp [World.cell?, h, hc]
theorem fz_at {w : World} {gx : Nat} {cur : Array Value} (h : w.heap[gx]? = some (.cells cur 3 (0, 0))) (c : Nat) : w.frozen? ⟨gx, c, none⟩ = false := by simp [World.frozen?, h]
theorem Wr.put {w : World} {gx : Nat} {cur : Array Value} {len m c : Nat} {v : Value} (h : w.heap[gx]? = some (.cells cur 3 (0, 0))) (hc : len ≤ cur.size) (hm : m ≤ gx) : Wr (w.setCell ⟨gx, c, none⟩ v) (some ⟨gx, 0, none⟩) len m :=
  fun _ => ⟨gx, cur.setIfInBounds c v, rfl, by simp [World.setCell, Array.getElem?_modify, h], by simpa using hc, hm⟩
theorem Dl.free {w w' : World} {p b n : Nat} {f : Int → Int} (h : Dl w p b n f) (hm : Mod (fun _ => False) w w') : Dl w' p b n f := h.mod hm (fun h => h) (fun h => h)
theorem Al.fr {w w' : World} {p b n : Nat} {f : Int → Int} (h : Al w p b n f) (hm : Mod (fun _ => False) w w') : Al w' p b n f := h.mod hm (fun h => h) (fun h => h)
set_option maxRecDepth 100000 in
set_option maxHeartbeats 16000000 in
theorem deeds_ok (n : Nat) (lv : Value) (ds : List Dd) (w : World) (hd : Deeds w lv ds) (n1 : 1 ≤ n) (n2 : n ≤ 16) :
    Calls Try.prog 3 #[.int .i64 n, lv] w fun e w' => e = .returned (.bool true) ∧ Mod (fun _ => False) w w' := by
  obtain ⟨al, cl, rfl, hlm, _⟩ := hd.form
  unfold maxLen at hlm
  have H1 := New_ok n
  have H2 := dNew_ok n
  have H3 := New_ok 3
  have HW := works_any
  go_enter Try.func3, Try.ntmps3
  go_wp2_with fail
  refine (H1 _ (by omega) (by omega)).mono ?_
  rintro e w1 ⟨p, B, rfl, h1, hm1, hp, hB⟩
  go_wp2_with fail
  refine (H2 _ (by omega) (by omega)).mono ?_
  rintro e w2 ⟨q, b, rfl, h2, hm2, hq, hb⟩
  go_wp2_with fail
  refine (H3 _ (by omega) (by omega)).mono ?_
  rintro e w3 ⟨r, C, rfl, h3, hm3, hr, hC⟩
  clear H1 H2 H3
  have x1 := h1.lt
  have x2 := h1.map.lt
  have x3 := h2.lt
  have x4 := h2.ltb
  have s0 := hm1.size
  have s1 := hm2.size
  replace h1 := (h1.fr hm2).fr hm3
  replace h2 := h2.free hm3
  have hm := (hm1.and hm2).and hm3
  generalize w1.heap.size = m1 at *
  generalize w2.heap.size = m2 at *
  clear hm1 hm2 hm3
  have k1 : Ok n (fun _ => 0) := Ok.zero n1 n2
  have k3 : Ok 3 (fun _ => 0) := Ok.zero (by omega) (by omega)
  go_wp2_with fail
  go_loopw [11] (fun i wr => ∃ (j : Nat) (f g : Int → Int), i = .int .i64 j ∧ j ≤ ds.length ∧ Al wr p B n f ∧ Ok n f ∧ Dl wr q b n f ∧ Al wr r C 3 g ∧ Ok 3 g ∧ Mod (fun _ => False) w wr) (fun i _ => ds.length - (intOf i).toNat)
  case atStart => exact ⟨0, _, _, rfl, by omega, h1, k1, h2, h3, k3, hm⟩
  case round =>
    clear hm h1 h2 h3 k1 k3
    obtain ⟨j, f, fo, rfl, hj, h1, k1, h2, h3, k3, hm⟩ := hrel
    by_cases hlt : j < ds.length
    · clear HW
      obtain ⟨d, hdk⟩ : ∃ d, ds[j]? = some d := ⟨_, List.getElem?_eq_getElem hlt⟩
      obtain ⟨lb, lo, rfl, hcells⟩ := hd.at hdk
      obtain ⟨ik, iv, it⟩ := hd.each d (List.mem_of_getElem? hdk)
      obtain ⟨c0, c1, c2⟩ := hcells wr hm
      obtain ⟨x, k, t⟩ := d
      simp only at c0 c1 c2 ik iv it
      have IK : Hid (I64 x) := ik
      have IV : Hid (I64 k) := iv
      clear hdk hd hcells ik iv it
      have hsz := hm.size
      have y1 := h1.lt
      have y2 := h1.map.lt
      have y3 := h2.lt
      have y4 := h2.ltb
      have y5 := h3.lt
      have y6 := h3.map.lt
      have HO := Set_any r C 3 fo
      have BR := Bring_any x 4
      go_wp2_with fail
      refine (HO _ _ _ (h3.fr ((Mod.refl _ _).alloc _)) (by omega) (by omega)).mono ?_
      rintro e w4 ⟨rfl, h3', hm4⟩
      obtain ⟨g, hg⟩ : ∃ g, g = wr.heap.size := ⟨_, rfl⟩
      have hma : Mod (fun _ => False) wr (wr.alloc (.cells #[.int .i64 x, .int .i64 k, .int .i64 t] 32)) := (Mod.refl _ _).alloc _
      have b0 : (wr.alloc (.cells #[.int .i64 x, .int .i64 k, .int .i64 t] 32)).cell? ⟨g, 0, none⟩ = some (.int .i64 x) := by rw [hg]; simp [go_sem]
      have b1 : (wr.alloc (.cells #[.int .i64 x, .int .i64 k, .int .i64 t] 32)).cell? ⟨g, 1, none⟩ = some (.int .i64 k) := by rw [hg]; simp [go_sem]
      have b2 : (wr.alloc (.cells #[.int .i64 x, .int .i64 k, .int .i64 t] 32)).cell? ⟨g, 2, none⟩ = some (.int .i64 t) := by rw [hg]; simp [go_sem]
      replace b0 := hm4.cell b0 (by show ¬ g = C; omega)
      replace b1 := hm4.cell b1 (by show ¬ g = C; omega)
      replace b2 := hm4.cell b2 (by show ¬ g = C; omega)
      replace h1 := (h1.fr hma).mod hm4 (by show ¬ p = C; omega) (by show ¬ B = C; omega)
      replace h2 := (h2.free hma).mod hm4 (by show ¬ q = C; omega) (by show ¬ b = C; omega)
      replace hm := (hm.and hma).trans hm4 (V := fun _ => False) (fun _ _ h => h) (fun i hi hh => by omega)
      obtain ⟨go, h3, k3'⟩ : ∃ go, Al w4 r C 3 go ∧ Ok 3 go := ⟨_, h3', k3.set _ _⟩
      rw [← hg] at y1 y2 y3 y4 y5 y6 ⊢
      clear hma hm4 h3' HO c0 c1 c2 k3 hsz hg
      have k3 := k3'
      clear k3'
      generalize sE 3 _ _ = eo
      go_wp2_with fail
      refine (BR _ IK.out (by omega) (by omega)).mono ?_
      rintro e w5 ⟨rfl, rfl⟩
      clear BR b0
      have hx4 : x % 4 = 0 ∨ x % 4 = 1 ∨ x % 4 = 2 ∨ x % 4 = 3 := by omega
      generalize x % 4 = y at hx4
      rcases hx4 with rfl | rfl | rfl | rfl
      · obtain ⟨E, hE⟩ : ∃ E, sE n k t = E := ⟨_, rfl⟩
        obtain ⟨F, hF⟩ : ∃ F, sF n f k t = F := ⟨_, rfl⟩
        have k1' : Ok n F := hF ▸ k1.set k t
        have HA := Set_any p B n f k t
        have HD := dSet q b n f k t
        rw [hE, hF] at HA HD
        clear hE hF
        go_wp2_with fail
        replace hm := hm.drew
        replace h1 := h1.drew
        replace h2 := h2.drew
        replace h3 := h3.drew
        go_region_held3 (fun y => y.cell? ⟨g, 1, none⟩ = some (.int .i64 k) ∧ y.cell? ⟨g, 2, none⟩ = some (.int .i64 t)) (first | exact ⟨b1, b2⟩ | go_keep)
          (first | (go_at_call 10; refine (HA _ h1 n1 n2).mono ?_; rintro e w6 ⟨rfl, h1', hm5⟩; replace b1 := hm5.cell b1 (by show ¬ g = B; omega); replace b2 := hm5.cell b2 (by show ¬ g = B; omega); replace h2 := h2.mod hm5 (by show ¬ q = B; omega) (by show ¬ b = B; omega); replace h3 := h3.mod hm5 (by show ¬ r = B; omega) (by show ¬ C = B; omega); replace hm := hm.trans hm5 (V := fun _ => False) (fun _ _ h => h) (fun i hi hh => by omega); clear hm5) |
            (go_at_call 12; refine (HD _ h2).mono ?_; rintro e w6 ⟨rfl, h2', hm5⟩; replace b1 := hm5.cell b1 (by show ¬ g = b; omega); replace b2 := hm5.cell b2 (by show ¬ g = b; omega); replace h1' := h1'.mod hm5 (by show ¬ p = b; omega) (by show ¬ B = b; omega); replace h3 := h3.mod hm5 (by show ¬ r = b; omega) (by show ¬ C = b; omega); replace hm := hm.trans hm5 (V := fun _ => False) (fun _ _ h => h) (fun i hi hh => by omega); clear hm5))
        clear h1 h2 k1 b2 HA HD
        have h1 := h1'
        have h2 := h2'
        have k1 := k1'
        clear h1' h2' k1'
        have HR := Left_any p B n F
        have HN := dLeft q b n F
        have HFK : I64 (F k) := k1.i64 k
        go_wp2_with fail
        replace hm := hm.drew
        replace h1 := h1.drew
        replace h2 := h2.drew
        replace h3 := h3.drew
        have HR1 := fun w' h => HR k w' h n1 IV.out
        have HN1 := fun w' h => HN k w' h k1
        generalize F k = fk at HR1 HN1 HFK
        clear HFK
        go_region_held3 (fun y => y.cell? ⟨g, 1, none⟩ = some (.int .i64 k)) (first | exact b1 | go_keep)
          (first | (go_at_call 20; refine (HR1 _ h1).mono ?_; rintro e w7 ⟨rfl, rfl⟩) | (go_at_call 21; refine (HN1 _ h2).mono ?_; rintro e w8 ⟨rfl, rfl⟩))
        clear HR1 HN1
        go_wp2
        go_loopw [18] (fun i wr => ∃ (z : Int), i = .int .i64 z ∧ -1 ≤ z ∧ z ≤ 17 ∧ Hid (Al wr p B n F) ∧ Hid (Dl wr q b n F) ∧ Hid (Al wr r C 3 go) ∧ Hid (Mod (fun _ => False) w wr)) (fun i _ => (17 - intOf i).toNat)
        case atStart => exact ⟨-1, rfl, by omega, by omega, h1, h2, h3, hm⟩
        case round =>
          clear h1 h2 h3 hm b1
          obtain ⟨z, rfl, z1, z2, h1, h2, h3, hm⟩ := hrel
          by_cases hz : z ≤ 16
          · have IZ : Hid (I64 z) := by unfold Hid I64; omega
            have HR2 := HR z _ h1.out n1 IZ.out
            have HN2 := HN z _ h2.out k1
            generalize F z = fz at HR2 HN2
            clear HR HN
            go_wp2_with (first | (go_at_call 20; refine HR2.mono ?_; rintro e w7 ⟨rfl, rfl⟩) | (go_at_call 21; refine HN2.mono ?_; rintro e w8 ⟨rfl, rfl⟩))
            go_roundw
            case rel => exact ⟨z + 1, by go_num, by omega, by omega, h1, h2, h3, hm⟩
            case measure => simp [intOf]; omega
          · obtain rfl : z = 17 := by omega
            clear HR HN
            go_wp2
            go_roundw
            case rel => exact ⟨j + 1, F, go, by go_num, by omega, h1.out, k1, h2.out, h3.out, k3, hm.out⟩
            case measure => simp [intOf]; omega
      · obtain ⟨E, hE⟩ : ∃ E, kE n k = E := ⟨_, rfl⟩
        obtain ⟨F, hF⟩ : ∃ F, cF n f k = F := ⟨_, rfl⟩
        have k1' : Ok n F := hF ▸ k1.clear k
        have HA := Clear_any p B n f k
        have HD := dClear q b n f k
        rw [hE, hF] at HA HD
        clear hE hF
        go_wp2_with fail
        replace hm := hm.drew
        replace h1 := h1.drew
        replace h2 := h2.drew
        replace h3 := h3.drew
        go_region_held3 (fun y => y.cell? ⟨g, 1, none⟩ = some (.int .i64 k)) (first | exact b1 | go_keep)
          (first | (go_at_call 13; refine (HA _ h1 n1 IV.out).mono ?_; rintro e w6 ⟨rfl, h1', hm5⟩; replace b1 := hm5.cell b1 (by show ¬ g = B; omega); replace h2 := h2.mod hm5 (by show ¬ q = B; omega) (by show ¬ b = B; omega); replace h3 := h3.mod hm5 (by show ¬ r = B; omega) (by show ¬ C = B; omega); replace hm := hm.trans hm5 (V := fun _ => False) (fun _ _ h => h) (fun i hi hh => by omega); clear hm5) |
            (go_at_call 14; refine (HD _ h2).mono ?_; rintro e w6 ⟨rfl, h2', hm5⟩; replace b1 := hm5.cell b1 (by show ¬ g = b; omega); replace h1' := h1'.mod hm5 (by show ¬ p = b; omega) (by show ¬ B = b; omega); replace h3 := h3.mod hm5 (by show ¬ r = b; omega) (by show ¬ C = b; omega); replace hm := hm.trans hm5 (V := fun _ => False) (fun _ _ h => h) (fun i hi hh => by omega); clear hm5))
        clear h1 h2 k1 b2 HA HD
        have h1 := h1'
        have h2 := h2'
        have k1 := k1'
        clear h1' h2' k1'
        have HR := Left_any p B n F
        have HN := dLeft q b n F
        have HFK : I64 (F k) := k1.i64 k
        go_wp2_with fail
        replace hm := hm.drew
        replace h1 := h1.drew
        replace h2 := h2.drew
        replace h3 := h3.drew
        have HR1 := fun w' h => HR k w' h n1 IV.out
        have HN1 := fun w' h => HN k w' h k1
        generalize F k = fk at HR1 HN1 HFK
        clear HFK
        go_region_held3 (fun y => y.cell? ⟨g, 1, none⟩ = some (.int .i64 k)) (first | exact b1 | go_keep)
          (first | (go_at_call 20; refine (HR1 _ h1).mono ?_; rintro e w7 ⟨rfl, rfl⟩) | (go_at_call 21; refine (HN1 _ h2).mono ?_; rintro e w8 ⟨rfl, rfl⟩))
        clear HR1 HN1
        go_wp2
        go_loopw [18] (fun i wr => ∃ (z : Int), i = .int .i64 z ∧ -1 ≤ z ∧ z ≤ 17 ∧ Hid (Al wr p B n F) ∧ Hid (Dl wr q b n F) ∧ Hid (Al wr r C 3 go) ∧ Hid (Mod (fun _ => False) w wr)) (fun i _ => (17 - intOf i).toNat)
        case atStart => exact ⟨-1, rfl, by omega, by omega, h1, h2, h3, hm⟩
        case round =>
          clear h1 h2 h3 hm b1
          obtain ⟨z, rfl, z1, z2, h1, h2, h3, hm⟩ := hrel
          by_cases hz : z ≤ 16
          · have IZ : Hid (I64 z) := by unfold Hid I64; omega
            have HR2 := HR z _ h1.out n1 IZ.out
            have HN2 := HN z _ h2.out k1
            generalize F z = fz at HR2 HN2
            clear HR HN
            go_wp2_with (first | (go_at_call 20; refine HR2.mono ?_; rintro e w7 ⟨rfl, rfl⟩) | (go_at_call 21; refine HN2.mono ?_; rintro e w8 ⟨rfl, rfl⟩))
            go_roundw
            case rel => exact ⟨z + 1, by go_num, by omega, by omega, h1, h2, h3, hm⟩
            case measure => simp [intOf]; omega
          · obtain rfl : z = 17 := by omega
            clear HR HN
            go_wp2
            go_roundw
            case rel => exact ⟨j + 1, F, go, by go_num, by omega, h1.out, k1, h2.out, h3.out, k3, hm.out⟩
            case measure => simp [intOf]; omega
      · obtain ⟨E, hE⟩ : ∃ E, fE n f k = E := ⟨_, rfl⟩
        obtain ⟨F, hF⟩ : ∃ F, cF n f k = F := ⟨_, rfl⟩
        have k1' : Ok n F := hF ▸ k1.clear k
        have HA := Fire_any p B n f k
        have HD := dFire q b n f k
        rw [hE, hF] at HA HD
        clear hE hF
        go_wp2_with fail
        replace hm := hm.drew
        replace h1 := h1.drew
        replace h2 := h2.drew
        replace h3 := h3.drew
        go_region_held3 (fun y => y.cell? ⟨g, 1, none⟩ = some (.int .i64 k)) (first | exact b1 | go_keep)
          (first | (go_at_call 15; refine (HA _ h1 n1 IV.out).mono ?_; rintro e w6 ⟨rfl, h1', hm5⟩; replace b1 := hm5.cell b1 (by show ¬ g = B; omega); replace h2 := h2.mod hm5 (by show ¬ q = B; omega) (by show ¬ b = B; omega); replace h3 := h3.mod hm5 (by show ¬ r = B; omega) (by show ¬ C = B; omega); replace hm := hm.trans hm5 (V := fun _ => False) (fun _ _ h => h) (fun i hi hh => by omega); clear hm5) |
            (go_at_call 16; refine (HD _ h2).mono ?_; rintro e w6 ⟨rfl, h2', hm5⟩; replace b1 := hm5.cell b1 (by show ¬ g = b; omega); replace h1' := h1'.mod hm5 (by show ¬ p = b; omega) (by show ¬ B = b; omega); replace h3 := h3.mod hm5 (by show ¬ r = b; omega) (by show ¬ C = b; omega); replace hm := hm.trans hm5 (V := fun _ => False) (fun _ _ h => h) (fun i hi hh => by omega); clear hm5))
        clear h1 h2 k1 b2 HA HD
        have h1 := h1'
        have h2 := h2'
        have k1 := k1'
        clear h1' h2' k1'
        have HR := Left_any p B n F
        have HN := dLeft q b n F
        have HFK : I64 (F k) := k1.i64 k
        go_wp2_with fail
        replace hm := hm.drew
        replace h1 := h1.drew
        replace h2 := h2.drew
        replace h3 := h3.drew
        have HR1 := fun w' h => HR k w' h n1 IV.out
        have HN1 := fun w' h => HN k w' h k1
        generalize F k = fk at HR1 HN1 HFK
        clear HFK
        go_region_held3 (fun y => y.cell? ⟨g, 1, none⟩ = some (.int .i64 k)) (first | exact b1 | go_keep)
          (first | (go_at_call 20; refine (HR1 _ h1).mono ?_; rintro e w7 ⟨rfl, rfl⟩) | (go_at_call 21; refine (HN1 _ h2).mono ?_; rintro e w8 ⟨rfl, rfl⟩))
        clear HR1 HN1
        go_wp2
        go_loopw [18] (fun i wr => ∃ (z : Int), i = .int .i64 z ∧ -1 ≤ z ∧ z ≤ 17 ∧ Hid (Al wr p B n F) ∧ Hid (Dl wr q b n F) ∧ Hid (Al wr r C 3 go) ∧ Hid (Mod (fun _ => False) w wr)) (fun i _ => (17 - intOf i).toNat)
        case atStart => exact ⟨-1, rfl, by omega, by omega, h1, h2, h3, hm⟩
        case round =>
          clear h1 h2 h3 hm b1
          obtain ⟨z, rfl, z1, z2, h1, h2, h3, hm⟩ := hrel
          by_cases hz : z ≤ 16
          · have IZ : Hid (I64 z) := by unfold Hid I64; omega
            have HR2 := HR z _ h1.out n1 IZ.out
            have HN2 := HN z _ h2.out k1
            generalize F z = fz at HR2 HN2
            clear HR HN
            go_wp2_with (first | (go_at_call 20; refine HR2.mono ?_; rintro e w7 ⟨rfl, rfl⟩) | (go_at_call 21; refine HN2.mono ?_; rintro e w8 ⟨rfl, rfl⟩))
            go_roundw
            case rel => exact ⟨z + 1, by go_num, by omega, by omega, h1, h2, h3, hm⟩
            case measure => simp [intOf]; omega
          · obtain rfl : z = 17 := by omega
            clear HR HN
            go_wp2
            go_roundw
            case rel => exact ⟨j + 1, F, go, by go_num, by omega, h1.out, k1, h2.out, h3.out, k3, hm.out⟩
            case measure => simp [intOf]; omega
      · have HT := Tick_any p B n f
        have HD := dTick q b n f
        have HO := Tick_any r C 3 go
        have hgs : g < w5.heap.size := World.block_lt_of_cell? _ _ b1
        have k1' := k1.tick
        have k3' := k3.tick
        have hll := dl_len f n
        generalize tF f = F at *
        generalize tF go = GO at *
        generalize hD : dl f n = dd at *
        clear hD b2
        go_wp2_with fail
        refine (HT _ h1 k1).mono ?_
        rintro e w6 ⟨v, rfl, ho, h1', hm5, hnew⟩
        replace b1 := hm5.cell b1 (by show ¬ g = B; omega)
        replace h2 := h2.mod hm5 (by show ¬ q = B; omega) (by show ¬ b = B; omega)
        replace h3 := h3.mod hm5 (by show ¬ r = B; omega) (by show ¬ C = B; omega)
        replace hm := hm.trans hm5 (V := fun _ => False) (fun _ _ h => h) (fun i hi hh => by omega)
        clear hm5 h1 HT
        go_wp2_with fail
        refine (HD _ h2 k1).mono ?_
        rintro e w7 ⟨v2, rfl, ho2, h2', hm5, hnew2⟩
        replace b1 := hm5.cell b1 (by show ¬ g = b; omega)
        replace h1' := h1'.mod hm5 (by show ¬ p = b; omega) (by show ¬ B = b; omega)
        replace h3 := h3.mod hm5 (by show ¬ r = b; omega) (by show ¬ C = b; omega)
        replace ho := ho.mod hm5 (fun q hq e => by have := hnew q hq; omega)
        replace hm := hm.trans hm5 (V := fun _ => False) (fun _ _ h => h) (fun i hi hh => by omega)
        clear hm5 h2 k1 HD hnew2
        have HQ := EqInts_at true ho.sl ho2.sl (by simp)
        go_wp2_with fail
        refine HQ.mono ?_
        rintro e w8 ⟨rfl, hm5⟩
        replace b1 := hm5.cell b1 (fun h => h)
        have h1 := h1'.fr hm5
        have h2 := h2'.free hm5
        replace h3 := h3.fr hm5
        replace ho := ho.mod hm5 (fun _ _ h => h)
        replace hm := hm.and hm5
        have k1 := k1'
        clear hm5 HQ ho2 h1' h2' k1'
        obtain ⟨ao, cap, rfl, hW⟩ := ho.wr hnew
        have hl16 : (dd.length : Int) ≤ 16 := by omega
        clear ho hnew hll
        generalize dd.length = len at *
        go_wp2_with fail
        go_loopw [17] (fun i wr => ∃ (c : Nat), i = .int .i64 c ∧ c ≤ len ∧ Hid (Wr wr ao len w5.heap.size) ∧ Hid (Al wr p B n F) ∧ Hid (Dl wr q b n F) ∧ Hid (Al wr r C 3 go) ∧ Hid (Mod (fun _ => False) w wr) ∧ Hid (wr.cell? ⟨g, 1, none⟩ = some (.int .i64 k))) (fun i _ => len - (intOf i).toNat)
        case atStart => exact ⟨0, rfl, by omega, hW, h1, h2, h3, hm, b1⟩
        case round =>
          clear h1 h2 h3 hm b1 hW
          obtain ⟨c, rfl, hc, hW, h1, h2, h3, hm, b1⟩ := hrel
          by_cases hcl : c < len
          · obtain ⟨gx, cur, rfl, hgx, hcs, hge⟩ := hW.out (by omega)
            have hci : (c : Int) < (len : Int) := by omega
            obtain ⟨cy, cc⟩ : ∃ cy, wr.cell? ⟨gx, c, none⟩ = some cy := ⟨_, cell_at hgx (show c < cur.size by omega)⟩
            have fz := fz_at hgx c
            have M := (Mod.refl (fun i => i = gx) wr).setCell ⟨gx, c, none⟩ (.int .i64 99) (.inl rfl)
            have hW' : Hid (Wr (wr.setCell ⟨gx, c, none⟩ (.int .i64 99)) (some ⟨gx, 0, none⟩) len w5.heap.size) := Wr.put hgx hcs hge
            clear hgx hcs hW
            go_wp2
            go_roundw
            case rel => exact ⟨c + 1, by go_num, by omega, hW', h1.out.mod M (by show ¬ p = gx; omega) (by show ¬ B = gx; omega), h2.out.mod M (by show ¬ q = gx; omega) (by show ¬ b = gx; omega), h3.out.mod M (by show ¬ r = gx; omega) (by show ¬ C = gx; omega), hm.out.trans M (V := fun _ => False) (fun _ _ h => h) (fun i hi hh => by omega), M.cell b1.out (by show ¬ g = gx; omega)⟩
            case measure => simp [intOf]; omega
          · obtain rfl : c = len := by omega
            replace h1 := h1.out
            replace h2 := h2.out
            replace h3 := h3.out
            replace hm := hm.out
            replace b1 := b1.out
            go_wp2_with fail
            refine (HO _ h3 k3).mono ?_
            rintro e w9 ⟨v3, rfl, ho3, h3', hm5, hnew3⟩
            replace b1 := hm5.cell b1 (by show ¬ g = C; omega)
            replace h1 := h1.mod hm5 (by show ¬ p = C; omega) (by show ¬ B = C; omega)
            replace h2 := h2.mod hm5 (by show ¬ q = C; omega) (by show ¬ b = C; omega)
            replace hm := hm.trans hm5 (V := fun _ => False) (fun _ _ h => h) (fun i hi hh => by omega)
            clear hm5 h3 k3 HO ho3 hnew3 hW
            have h3 := h3'
            have k3 := k3'
            clear h3' k3'
            have HR := Left_any p B n F
            have HN := dLeft q b n F
            have HFK : I64 (F k) := k1.i64 k
            go_wp2_with fail
            replace hm := hm.drew
            replace h1 := h1.drew
            replace h2 := h2.drew
            replace h3 := h3.drew
            have HR1 := fun w' h => HR k w' h n1 IV.out
            have HN1 := fun w' h => HN k w' h k1
            generalize F k = fk at HR1 HN1 HFK
            clear HFK
            go_region_held3 (fun y => y.cell? ⟨g, 1, none⟩ = some (.int .i64 k)) (first | exact b1 | go_keep)
              (first | (go_at_call 20; refine (HR1 _ h1).mono ?_; rintro e w7 ⟨rfl, rfl⟩) | (go_at_call 21; refine (HN1 _ h2).mono ?_; rintro e w8 ⟨rfl, rfl⟩))
            clear HR1 HN1
            go_wp2
            go_loopw [18] (fun i wr => ∃ (z : Int), i = .int .i64 z ∧ -1 ≤ z ∧ z ≤ 17 ∧ Hid (Al wr p B n F) ∧ Hid (Dl wr q b n F) ∧ Hid (Al wr r C 3 GO) ∧ Hid (Mod (fun _ => False) w wr)) (fun i _ => (17 - intOf i).toNat)
            case atStart => exact ⟨-1, rfl, by omega, by omega, h1, h2, h3, hm⟩
            case round =>
              clear h1 h2 h3 hm b1
              obtain ⟨z, rfl, z1, z2, h1, h2, h3, hm⟩ := hrel
              by_cases hz : z ≤ 16
              · have IZ : Hid (I64 z) := by unfold Hid I64; omega
                have HR2 := HR z _ h1.out n1 IZ.out
                have HN2 := HN z _ h2.out k1
                generalize F z = fz at HR2 HN2
                clear HR HN
                go_wp2_with (first | (go_at_call 20; refine HR2.mono ?_; rintro e w7 ⟨rfl, rfl⟩) | (go_at_call 21; refine HN2.mono ?_; rintro e w8 ⟨rfl, rfl⟩))
                go_roundw
                case rel => exact ⟨z + 1, by go_num, by omega, by omega, h1, h2, h3, hm⟩
                case measure => simp [intOf]; omega
              · obtain rfl : z = 17 := by omega
                clear HR HN
                go_wp2
                go_roundw
                case rel => exact ⟨j + 1, F, GO, by go_num, by omega, h1.out, k1, h2.out, h3.out, k3, hm.out⟩
                case measure => simp [intOf]; omega
    · go_wp2_with fail
      refine (HW _).mono ?_
      rintro e w4 ⟨rfl, hm4⟩
      go_wp2
      go_ret
      exact ⟨rfl, hm.and hm4⟩
theorem deeds_walk (n : Int) (lv : Value) (ds : List Dd) (w : World) (hd : Deeds w lv ds) :
    Calls Try.prog 3 #[.int .i64 n, lv] w fun e w' => e = .returned (.bool true) ∧ Mod (fun _ => False) w w' := by
  rcases Classical.em (n < 1 ∨ 16 < n) with h | h
  · exact deeds_bad n lv w h
  · obtain ⟨k, rfl⟩ : ∃ k : Nat, n = k := ⟨n.toNat, by omega⟩
    exact deeds_ok k lv ds w hd (by omega) (by omega)
namespace alarmDeeds
open Go.ChangeShapes Go.WideShapes Go.ChangeAt Go.RowKit
set_option maxRecDepth 100000 in
theorem lifted (os : Os) (started : os.Started) (H : Type) (enc : TypeId × Value → H) :
    ReturnsInHanded {} Try.checked os 3 .any (Rows.alarmDeedsSpec.pre6 enc Try.prog Try.f3 Rows.alarmDeedsRow.domain false) (Rows.alarmDeedsSpec.post enc Try.prog Try.f3 false true false false) := by
  refine returnsInHanded_of_change_sized (C := Try.checked) own started (by kernel_rfl) Try.func3
    (ChangeSpec.witness6 (enc := enc) (C := Try.checked) false ⟨#[], #[.int .i64 0, .slice none 0 0], []⟩ 8 (by kernel_rfl) (by kernel_rfl) (by kernel_rfl) (by kernel_rfl)) ?_
  intro W base args ds gs before hval0 hW hcnd hsz0 _
  have hval : ∀ (j : Nat) t v, Try.f3.params[j]? = some t → args[j]? = some v → Value.okWide Try.prog W .any base t v := hval0
  have hW' := hW
  obtain ⟨p, q, hA0, hV, rfl, hfz, hnd⟩ := hW
  have hA : DataW.TrodAll enc Try.prog W 0 (fun _ => true) true Try.f3.params.toList args.toList ds p := hA0
  rw [Try.params3] at hA hval
  obtain ⟨v0, vs0, d0, ds0, p0, q0, hargs, rfl, rfl, h0, r0⟩ := trodAll_cons hA
  obtain ⟨v1, vs1, d1, ds1, p1, q1, rfl, rfl, rfl, h1, r1⟩ := trodAll_cons r0
  obtain ⟨rfl, rfl, rfl⟩ := trodAll_nil r1
  obtain rfl : args = #[v0, v1] := by cases args; simp_all
  obtain ⟨rfl, rfl⟩ := trodVars_none hV
  obtain ⟨a0, rfl, rfl, rfl, w0⟩ := open_int Try.underlying3 (hval 0 3 v0 rfl rfl) h0
  have k1 := h1
  have lt1 : ∀ x ∈ p1, x.block < W.heap.size := by obtain ⟨m, hm⟩ := k1; exact DataW.trod_lt m _ _ _ hm
  obtain ⟨dl1, hd1⟩ := open_deeds h1 (okWide_slice Try.underlying22 (hval 1 22 v1 rfl rfl))
  clear hA0 hval0
  refine (deeds_walk a0 v1 dl1 W hd1).mono fun e W' ⟨he, hm⟩ => ?_
  subst he
  have bel : Below W.heap.size W W' := hm.below _ (Nat.le_refl _) (fun _ h => h.elim)
  exact ⟨_, rfl, _, _, _, [], _, [], hW', trodAll_mk1 (shut_bool Try.underlying4 _), (trodAll_cons_mk (shut_int Try.underlying3 w0) (trodAll_cons_mk (Below.trod laidOut (by kernel_rfl) (of_decide_eq_true (by kernel_rfl)) k1 bel lt1) trodAll_mk0)), rfl, bel.frame _, fun h => by cases h⟩

theorem over : Rows.alarmDeedsRow.holds Try.pinned (OpenSpec.ofChange Rows.alarmDeedsSpec) :=
  OpenClaim.holds_of_wide 3 Try.f3 rfl rfl rfl rfl rfl rfl rfl ⟨rfl, rfl, rfl, rfl, rfl⟩ rfl rfl rfl rfl rfl (by kernel_rfl) Try.func3 (by kernel_rfl)
    (of_decide_eq_true (by kernel_rfl)) (by unfold Func.isWrapper; first | (rw [if_pos (by decide +kernel)]; kernel_rfl) | (rw [if_neg (by decide +kernel)]; exact ⟨rfl, rfl⟩))
    (fun os started H enc _ => lifted os started H enc)
end alarmDeeds
theorem alarmDeeds_holds : Rows.AlarmDeedsSaid := alarmDeeds.over
end Go.Proofs.Ytkbncndinfimnaa
