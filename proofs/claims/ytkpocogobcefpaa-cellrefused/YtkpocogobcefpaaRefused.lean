/- CellRefused holds: for any deeds the law answers true and turns nothing that was there. Conditions: none. -/
import Derived.Test.YtkpocogobcefpaaDe
import Derived.SizedLaws
import Derived.Deep.RegionHeld3
namespace Go.Proofs.Ytkpocogobcefpaa
open Go.RowKit
set_option maxRecDepth 100000 in
set_option maxHeartbeats 4000000 in
theorem refused_walk (lv : Value) (ds : List Dd) (w : World) (hd : Deeds w lv ds) :
    Calls Try.prog 5 #[lv] w fun e w' => e = .returned (.bool true) ∧ Mod (fun _ => False) w w' := by
  obtain ⟨al, cl, rfl, hlm, _⟩ := hd.form
  unfold maxLen at hlm
  go_enter Try.func5, Try.ntmps5
  go_wp2_with fail
  refine (works_any _).mono ?_
  rintro e w0 ⟨rfl, hm0⟩
  go_wp2_with fail
  refine (New_any _).mono ?_
  rintro e w1 ⟨p, rfl, h1, hm1, hp⟩
  go_wp2_with fail
  refine (New_any _).mono ?_
  rintro e w2 ⟨q, rfl, h2, hm2, hq⟩
  have hpl := h1.lt
  have s0 := hm0.size
  have s1 := hm1.size
  replace h1 := h1.mod hm2 (fun h => h)
  have hm := (hm0.and hm1).and hm2
  have hp' : w.heap.size ≤ p ∧ p < q := by omega
  clear hm1 hm2 hm0 hpl s1 s0 hp hq
  obtain ⟨hp, hpq⟩ := hp'
  go_wp2_with fail
  go_loopw [5] (fun i wr => ∃ (j : Nat) (k s : Int), i = .int .i64 j ∧ j ≤ ds.length ∧ Cl wr p k s ∧ In s ∧ Cl wr q k s ∧ Mod (fun _ => False) w wr) (fun i _ => ds.length - (intOf i).toNat)
  case atStart => exact ⟨0, 0, 1, rfl, by omega, h1, In1, h2, hm⟩
  case round =>
    clear hm h1 h2
    obtain ⟨j, k, s, rfl, hj, h1, hs, h2, hm⟩ := hrel
    by_cases hlt : j < ds.length
    · obtain ⟨d, hdk⟩ : ∃ d, ds[j]? = some d := ⟨_, List.getElem?_eq_getElem hlt⟩
      obtain ⟨lb, lo, rfl, hcells⟩ := hd.at hdk
      obtain ⟨ik, iv⟩ := hd.each d (List.mem_of_getElem? hdk)
      obtain ⟨c0, c1, c2⟩ := hcells wr hm
      obtain ⟨x, n, bh⟩ := d
      simp only at c0 c1 c2 ik iv
      clear hdk hd hcells
      have hsz := hm.size
      have hql := h2.lt
      have BR := Bring4 x
      have hqn : ¬ q = wr.heap.size := by omega
      have hpn : ¬ p = wr.heap.size := by omega
      go_wp2_with fail
      refine (BR _ ik).mono ?_
      rintro e w4 ⟨rfl, hw4⟩
      obtain ⟨g, hg⟩ : ∃ g, g = wr.heap.size := ⟨_, rfl⟩
      have hm4 : Mod (fun _ => False) wr w4 := by rw [hw4]; exact (Mod.refl _ _).alloc _
      have b0 : w4.cell? ⟨g, 0, none⟩ = some (.int .i64 x) := by rw [hw4, hg]; simp [go_sem]
      have b1 : w4.cell? ⟨g, 1, none⟩ = some (.int .i64 n) := by rw [hw4, hg]; simp [go_sem]
      have b2 : w4.cell? ⟨g, 2, none⟩ = some (.bool bh) := by rw [hw4, hg]; simp [go_sem]
      replace h1 := h1.mod hm4 (fun h => h)
      replace h2 := h2.mod hm4 (fun h => h)
      replace hm := hm.and hm4
      rw [← hg] at hqn hpn ⊢
      clear hw4 hm4 hg c0 c1 c2 BR hsz hql
      have hx4 : x % 4 = 0 ∨ x % 4 = 1 ∨ x % 4 = 2 ∨ x % 4 = 3 := by omega
      generalize x % 4 = y at hx4
      rcases hx4 with rfl | rfl | rfl | rfl
      · have HW := Write_any p k s n
        have HV := Write_any q k s n
        have hc := wE_cases (k := k) (n := n) hs
        have hZi : In (wS k s n) := wS_in hs
        generalize wE k s n = E at HW HV hc
        generalize wK k s n = K at HW HV hc
        generalize wS k s n = Z at HW HV hc hZi
        have hc2 : (E = 80 ∧ K = k ∧ Z = s) ∨ (E = 9 ∧ K = k ∧ Z = s) ∨ E = 0 ∨ E = 270 := by omega
        clear hc
        rcases hc2 with ⟨rfl, rfl, rfl⟩ | ⟨rfl, rfl, rfl⟩ | rfl | rfl
        · go_wp2_with fail
          refine (HW _ h1 hs).mono ?_
          rintro e w5 ⟨rfl, h1', hm5⟩
          replace b1 := hm5.cell b1 (fun h => hpn h.symm)
          replace b2 := hm5.cell b2 (fun h => hpn h.symm)
          replace h2 := h2.mod hm5 (by show ¬ q = p; omega)
          replace hm := hm.trans hm5 (V := fun _ => False) (fun _ _ h => h) (fun i hi hh => by omega)
          clear hm5 h1
          have h2' := h2
          clear h2 HV
          have HR := Read_any p K Z
          have HN := Down_any p K Z
          have HR2 := Read_any q K Z
          have HN2 := Down_any q K Z
          generalize (Z == 4) = z at HN HN2
          go_wp2_with fail
          refine (HR _ h1' hZi).mono ?_
          rintro e w7 ⟨rfl, rfl⟩
          go_wp2_with fail
          refine (HR2 _ h2' hZi).mono ?_
          rintro e w7 ⟨rfl, rfl⟩
          go_wp2_with fail
          refine (HN _ h1' hZi).mono ?_
          rintro e w7 ⟨rfl, rfl⟩
          go_wp2_with fail
          refine (HN2 _ h2' hZi).mono ?_
          rintro e w7 ⟨rfl, rfl⟩
          go_wp2
          go_roundw
          case rel => exact ⟨j + 1, K, Z, by go_num, by omega, h1', hZi, h2', hm⟩
          case measure => simp [intOf]; omega
        · go_wp2_with fail
          refine (HW _ h1 hs).mono ?_
          rintro e w5 ⟨rfl, h1', hm5⟩
          replace b1 := hm5.cell b1 (fun h => hpn h.symm)
          replace b2 := hm5.cell b2 (fun h => hpn h.symm)
          replace h2 := h2.mod hm5 (by show ¬ q = p; omega)
          replace hm := hm.trans hm5 (V := fun _ => False) (fun _ _ h => h) (fun i hi hh => by omega)
          clear hm5 h1
          have h2' := h2
          clear h2 HV
          have HR := Read_any p K Z
          have HN := Down_any p K Z
          have HR2 := Read_any q K Z
          have HN2 := Down_any q K Z
          generalize (Z == 4) = z at HN HN2
          go_wp2_with fail
          refine (HR _ h1' hZi).mono ?_
          rintro e w7 ⟨rfl, rfl⟩
          go_wp2_with fail
          refine (HR2 _ h2' hZi).mono ?_
          rintro e w7 ⟨rfl, rfl⟩
          go_wp2_with fail
          refine (HN _ h1' hZi).mono ?_
          rintro e w7 ⟨rfl, rfl⟩
          go_wp2_with fail
          refine (HN2 _ h2' hZi).mono ?_
          rintro e w7 ⟨rfl, rfl⟩
          go_wp2
          go_roundw
          case rel => exact ⟨j + 1, K, Z, by go_num, by omega, h1', hZi, h2', hm⟩
          case measure => simp [intOf]; omega
        · go_wp2_with fail
          refine (HW _ h1 hs).mono ?_
          rintro e w5 ⟨rfl, h1', hm5⟩
          replace b1 := hm5.cell b1 (fun h => hpn h.symm)
          replace b2 := hm5.cell b2 (fun h => hpn h.symm)
          replace h2 := h2.mod hm5 (by show ¬ q = p; omega)
          replace hm := hm.trans hm5 (V := fun _ => False) (fun _ _ h => h) (fun i hi hh => by omega)
          clear hm5 h1
          go_wp2_with fail
          refine (HV _ h2 hs).mono ?_
          rintro e w6 ⟨rfl, h2', hm5⟩
          replace h1' := h1'.mod hm5 (by show ¬ p = q; omega)
          replace hm := hm.trans hm5 (V := fun _ => False) (fun _ _ h => h) (fun i hi hh => by omega)
          clear hm5 h2
          have HR := Read_any p K Z
          have HN := Down_any p K Z
          have HR2 := Read_any q K Z
          have HN2 := Down_any q K Z
          generalize (Z == 4) = z at HN HN2
          go_wp2_with fail
          refine (HR _ h1' hZi).mono ?_
          rintro e w7 ⟨rfl, rfl⟩
          go_wp2_with fail
          refine (HR2 _ h2' hZi).mono ?_
          rintro e w7 ⟨rfl, rfl⟩
          go_wp2_with fail
          refine (HN _ h1' hZi).mono ?_
          rintro e w7 ⟨rfl, rfl⟩
          go_wp2_with fail
          refine (HN2 _ h2' hZi).mono ?_
          rintro e w7 ⟨rfl, rfl⟩
          go_wp2
          go_roundw
          case rel => exact ⟨j + 1, K, Z, by go_num, by omega, h1', hZi, h2', hm⟩
          case measure => simp [intOf]; omega
        · go_wp2_with fail
          refine (HW _ h1 hs).mono ?_
          rintro e w5 ⟨rfl, h1', hm5⟩
          replace b1 := hm5.cell b1 (fun h => hpn h.symm)
          replace b2 := hm5.cell b2 (fun h => hpn h.symm)
          replace h2 := h2.mod hm5 (by show ¬ q = p; omega)
          replace hm := hm.trans hm5 (V := fun _ => False) (fun _ _ h => h) (fun i hi hh => by omega)
          clear hm5 h1
          go_wp2_with fail
          refine (HV _ h2 hs).mono ?_
          rintro e w6 ⟨rfl, h2', hm5⟩
          replace h1' := h1'.mod hm5 (by show ¬ p = q; omega)
          replace hm := hm.trans hm5 (V := fun _ => False) (fun _ _ h => h) (fun i hi hh => by omega)
          clear hm5 h2
          have HR := Read_any p K Z
          have HN := Down_any p K Z
          have HR2 := Read_any q K Z
          have HN2 := Down_any q K Z
          generalize (Z == 4) = z at HN HN2
          go_wp2_with fail
          refine (HR _ h1' hZi).mono ?_
          rintro e w7 ⟨rfl, rfl⟩
          go_wp2_with fail
          refine (HR2 _ h2' hZi).mono ?_
          rintro e w7 ⟨rfl, rfl⟩
          go_wp2_with fail
          refine (HN _ h1' hZi).mono ?_
          rintro e w7 ⟨rfl, rfl⟩
          go_wp2_with fail
          refine (HN2 _ h2' hZi).mono ?_
          rintro e w7 ⟨rfl, rfl⟩
          go_wp2
          go_roundw
          case rel => exact ⟨j + 1, K, Z, by go_num, by omega, h1', hZi, h2', hm⟩
          case measure => simp [intOf]; omega
      · have HW := Write_any p k s n
        have HV := Write_any q k s n
        have hc := wE_cases (k := k) (n := n) hs
        have hZi : In (wS k s n) := wS_in hs
        generalize wE k s n = E at HW HV hc
        generalize wK k s n = K at HW HV hc
        generalize wS k s n = Z at HW HV hc hZi
        have hc2 : (E = 80 ∧ K = k ∧ Z = s) ∨ (E = 9 ∧ K = k ∧ Z = s) ∨ E = 0 ∨ E = 270 := by omega
        clear hc
        rcases hc2 with ⟨rfl, rfl, rfl⟩ | ⟨rfl, rfl, rfl⟩ | rfl | rfl
        · go_wp2_with fail
          refine (HW _ h1 hs).mono ?_
          rintro e w5 ⟨rfl, h1', hm5⟩
          replace b1 := hm5.cell b1 (fun h => hpn h.symm)
          replace b2 := hm5.cell b2 (fun h => hpn h.symm)
          replace h2 := h2.mod hm5 (by show ¬ q = p; omega)
          replace hm := hm.trans hm5 (V := fun _ => False) (fun _ _ h => h) (fun i hi hh => by omega)
          clear hm5 h1
          have h2' := h2
          clear h2 HV
          have HR := Read_any p K Z
          have HN := Down_any p K Z
          have HR2 := Read_any q K Z
          have HN2 := Down_any q K Z
          generalize (Z == 4) = z at HN HN2
          go_wp2_with fail
          refine (HR _ h1' hZi).mono ?_
          rintro e w7 ⟨rfl, rfl⟩
          go_wp2_with fail
          refine (HR2 _ h2' hZi).mono ?_
          rintro e w7 ⟨rfl, rfl⟩
          go_wp2_with fail
          refine (HN _ h1' hZi).mono ?_
          rintro e w7 ⟨rfl, rfl⟩
          go_wp2_with fail
          refine (HN2 _ h2' hZi).mono ?_
          rintro e w7 ⟨rfl, rfl⟩
          go_wp2
          go_roundw
          case rel => exact ⟨j + 1, K, Z, by go_num, by omega, h1', hZi, h2', hm⟩
          case measure => simp [intOf]; omega
        · go_wp2_with fail
          refine (HW _ h1 hs).mono ?_
          rintro e w5 ⟨rfl, h1', hm5⟩
          replace b1 := hm5.cell b1 (fun h => hpn h.symm)
          replace b2 := hm5.cell b2 (fun h => hpn h.symm)
          replace h2 := h2.mod hm5 (by show ¬ q = p; omega)
          replace hm := hm.trans hm5 (V := fun _ => False) (fun _ _ h => h) (fun i hi hh => by omega)
          clear hm5 h1
          have h2' := h2
          clear h2 HV
          have HR := Read_any p K Z
          have HN := Down_any p K Z
          have HR2 := Read_any q K Z
          have HN2 := Down_any q K Z
          generalize (Z == 4) = z at HN HN2
          go_wp2_with fail
          refine (HR _ h1' hZi).mono ?_
          rintro e w7 ⟨rfl, rfl⟩
          go_wp2_with fail
          refine (HR2 _ h2' hZi).mono ?_
          rintro e w7 ⟨rfl, rfl⟩
          go_wp2_with fail
          refine (HN _ h1' hZi).mono ?_
          rintro e w7 ⟨rfl, rfl⟩
          go_wp2_with fail
          refine (HN2 _ h2' hZi).mono ?_
          rintro e w7 ⟨rfl, rfl⟩
          go_wp2
          go_roundw
          case rel => exact ⟨j + 1, K, Z, by go_num, by omega, h1', hZi, h2', hm⟩
          case measure => simp [intOf]; omega
        · go_wp2_with fail
          refine (HW _ h1 hs).mono ?_
          rintro e w5 ⟨rfl, h1', hm5⟩
          replace b1 := hm5.cell b1 (fun h => hpn h.symm)
          replace b2 := hm5.cell b2 (fun h => hpn h.symm)
          replace h2 := h2.mod hm5 (by show ¬ q = p; omega)
          replace hm := hm.trans hm5 (V := fun _ => False) (fun _ _ h => h) (fun i hi hh => by omega)
          clear hm5 h1
          go_wp2_with fail
          refine (HV _ h2 hs).mono ?_
          rintro e w6 ⟨rfl, h2', hm5⟩
          replace h1' := h1'.mod hm5 (by show ¬ p = q; omega)
          replace hm := hm.trans hm5 (V := fun _ => False) (fun _ _ h => h) (fun i hi hh => by omega)
          clear hm5 h2
          have HR := Read_any p K Z
          have HN := Down_any p K Z
          have HR2 := Read_any q K Z
          have HN2 := Down_any q K Z
          generalize (Z == 4) = z at HN HN2
          go_wp2_with fail
          refine (HR _ h1' hZi).mono ?_
          rintro e w7 ⟨rfl, rfl⟩
          go_wp2_with fail
          refine (HR2 _ h2' hZi).mono ?_
          rintro e w7 ⟨rfl, rfl⟩
          go_wp2_with fail
          refine (HN _ h1' hZi).mono ?_
          rintro e w7 ⟨rfl, rfl⟩
          go_wp2_with fail
          refine (HN2 _ h2' hZi).mono ?_
          rintro e w7 ⟨rfl, rfl⟩
          go_wp2
          go_roundw
          case rel => exact ⟨j + 1, K, Z, by go_num, by omega, h1', hZi, h2', hm⟩
          case measure => simp [intOf]; omega
        · go_wp2_with fail
          refine (HW _ h1 hs).mono ?_
          rintro e w5 ⟨rfl, h1', hm5⟩
          replace b1 := hm5.cell b1 (fun h => hpn h.symm)
          replace b2 := hm5.cell b2 (fun h => hpn h.symm)
          replace h2 := h2.mod hm5 (by show ¬ q = p; omega)
          replace hm := hm.trans hm5 (V := fun _ => False) (fun _ _ h => h) (fun i hi hh => by omega)
          clear hm5 h1
          go_wp2_with fail
          refine (HV _ h2 hs).mono ?_
          rintro e w6 ⟨rfl, h2', hm5⟩
          replace h1' := h1'.mod hm5 (by show ¬ p = q; omega)
          replace hm := hm.trans hm5 (V := fun _ => False) (fun _ _ h => h) (fun i hi hh => by omega)
          clear hm5 h2
          have HR := Read_any p K Z
          have HN := Down_any p K Z
          have HR2 := Read_any q K Z
          have HN2 := Down_any q K Z
          generalize (Z == 4) = z at HN HN2
          go_wp2_with fail
          refine (HR _ h1' hZi).mono ?_
          rintro e w7 ⟨rfl, rfl⟩
          go_wp2_with fail
          refine (HR2 _ h2' hZi).mono ?_
          rintro e w7 ⟨rfl, rfl⟩
          go_wp2_with fail
          refine (HN _ h1' hZi).mono ?_
          rintro e w7 ⟨rfl, rfl⟩
          go_wp2_with fail
          refine (HN2 _ h2' hZi).mono ?_
          rintro e w7 ⟨rfl, rfl⟩
          go_wp2
          go_roundw
          case rel => exact ⟨j + 1, K, Z, by go_num, by omega, h1', hZi, h2', hm⟩
          case measure => simp [intOf]; omega
      · have HW := Crash_any p k s bh
        have HV := Crash_any q k s bh
        have hZi : In (cS s bh) := cS_in bh
        have hc : (cE s = 80 ∧ cS s bh = s) ∨ cE s = 0 := by unfold cE cS; split <;> simp_all
        generalize cE s = E at HW HV hc
        generalize cS s bh = Z at HW HV hc hZi
        rcases hc with ⟨rfl, rfl⟩ | rfl
        · go_wp2_with fail
          refine (HW _ h1 hs).mono ?_
          rintro e w5 ⟨rfl, h1', hm5⟩
          replace b1 := hm5.cell b1 (fun h => hpn h.symm)
          replace b2 := hm5.cell b2 (fun h => hpn h.symm)
          replace h2 := h2.mod hm5 (by show ¬ q = p; omega)
          replace hm := hm.trans hm5 (V := fun _ => False) (fun _ _ h => h) (fun i hi hh => by omega)
          clear hm5 h1
          have h2' := h2
          clear h2 HV
          have HR := Read_any p k Z
          have HN := Down_any p k Z
          have HR2 := Read_any q k Z
          have HN2 := Down_any q k Z
          generalize (Z == 4) = z at HN HN2
          go_wp2_with fail
          refine (HR _ h1' hZi).mono ?_
          rintro e w7 ⟨rfl, rfl⟩
          go_wp2_with fail
          refine (HR2 _ h2' hZi).mono ?_
          rintro e w7 ⟨rfl, rfl⟩
          go_wp2_with fail
          refine (HN _ h1' hZi).mono ?_
          rintro e w7 ⟨rfl, rfl⟩
          go_wp2_with fail
          refine (HN2 _ h2' hZi).mono ?_
          rintro e w7 ⟨rfl, rfl⟩
          go_wp2
          go_roundw
          case rel => exact ⟨j + 1, k, Z, by go_num, by omega, h1', hZi, h2', hm⟩
          case measure => simp [intOf]; omega
        · go_wp2_with fail
          refine (HW _ h1 hs).mono ?_
          rintro e w5 ⟨rfl, h1', hm5⟩
          replace b1 := hm5.cell b1 (fun h => hpn h.symm)
          replace b2 := hm5.cell b2 (fun h => hpn h.symm)
          replace h2 := h2.mod hm5 (by show ¬ q = p; omega)
          replace hm := hm.trans hm5 (V := fun _ => False) (fun _ _ h => h) (fun i hi hh => by omega)
          clear hm5 h1
          go_wp2_with fail
          refine (HV _ h2 hs).mono ?_
          rintro e w6 ⟨rfl, h2', hm5⟩
          replace h1' := h1'.mod hm5 (by show ¬ p = q; omega)
          replace hm := hm.trans hm5 (V := fun _ => False) (fun _ _ h => h) (fun i hi hh => by omega)
          clear hm5 h2
          have HR := Read_any p k Z
          have HN := Down_any p k Z
          have HR2 := Read_any q k Z
          have HN2 := Down_any q k Z
          generalize (Z == 4) = z at HN HN2
          go_wp2_with fail
          refine (HR _ h1' hZi).mono ?_
          rintro e w7 ⟨rfl, rfl⟩
          go_wp2_with fail
          refine (HR2 _ h2' hZi).mono ?_
          rintro e w7 ⟨rfl, rfl⟩
          go_wp2_with fail
          refine (HN _ h1' hZi).mono ?_
          rintro e w7 ⟨rfl, rfl⟩
          go_wp2_with fail
          refine (HN2 _ h2' hZi).mono ?_
          rintro e w7 ⟨rfl, rfl⟩
          go_wp2
          go_roundw
          case rel => exact ⟨j + 1, k, Z, by go_num, by omega, h1', hZi, h2', hm⟩
          case measure => simp [intOf]; omega
      · have HW := Start_any p k s
        have HV := Start_any q k s
        have hZi : In (sS s) := sS_in hs
        have hc : (sE s = 80 ∧ sS s = s) ∨ sE s = 0 := by unfold sE sS; split <;> simp_all
        generalize sE s = E at HW HV hc
        generalize sS s = Z at HW HV hc hZi
        rcases hc with ⟨rfl, rfl⟩ | rfl
        · go_wp2_with fail
          refine (HW _ h1 hs).mono ?_
          rintro e w5 ⟨rfl, h1', hm5⟩
          replace b1 := hm5.cell b1 (fun h => hpn h.symm)
          replace b2 := hm5.cell b2 (fun h => hpn h.symm)
          replace h2 := h2.mod hm5 (by show ¬ q = p; omega)
          replace hm := hm.trans hm5 (V := fun _ => False) (fun _ _ h => h) (fun i hi hh => by omega)
          clear hm5 h1
          have h2' := h2
          clear h2 HV
          have HR := Read_any p k Z
          have HN := Down_any p k Z
          have HR2 := Read_any q k Z
          have HN2 := Down_any q k Z
          generalize (Z == 4) = z at HN HN2
          go_wp2_with fail
          refine (HR _ h1' hZi).mono ?_
          rintro e w7 ⟨rfl, rfl⟩
          go_wp2_with fail
          refine (HR2 _ h2' hZi).mono ?_
          rintro e w7 ⟨rfl, rfl⟩
          go_wp2_with fail
          refine (HN _ h1' hZi).mono ?_
          rintro e w7 ⟨rfl, rfl⟩
          go_wp2_with fail
          refine (HN2 _ h2' hZi).mono ?_
          rintro e w7 ⟨rfl, rfl⟩
          go_wp2
          go_roundw
          case rel => exact ⟨j + 1, k, Z, by go_num, by omega, h1', hZi, h2', hm⟩
          case measure => simp [intOf]; omega
        · go_wp2_with fail
          refine (HW _ h1 hs).mono ?_
          rintro e w5 ⟨rfl, h1', hm5⟩
          replace b1 := hm5.cell b1 (fun h => hpn h.symm)
          replace b2 := hm5.cell b2 (fun h => hpn h.symm)
          replace h2 := h2.mod hm5 (by show ¬ q = p; omega)
          replace hm := hm.trans hm5 (V := fun _ => False) (fun _ _ h => h) (fun i hi hh => by omega)
          clear hm5 h1
          go_wp2_with fail
          refine (HV _ h2 hs).mono ?_
          rintro e w6 ⟨rfl, h2', hm5⟩
          replace h1' := h1'.mod hm5 (by show ¬ p = q; omega)
          replace hm := hm.trans hm5 (V := fun _ => False) (fun _ _ h => h) (fun i hi hh => by omega)
          clear hm5 h2
          have HR := Read_any p k Z
          have HN := Down_any p k Z
          have HR2 := Read_any q k Z
          have HN2 := Down_any q k Z
          generalize (Z == 4) = z at HN HN2
          go_wp2_with fail
          refine (HR _ h1' hZi).mono ?_
          rintro e w7 ⟨rfl, rfl⟩
          go_wp2_with fail
          refine (HR2 _ h2' hZi).mono ?_
          rintro e w7 ⟨rfl, rfl⟩
          go_wp2_with fail
          refine (HN _ h1' hZi).mono ?_
          rintro e w7 ⟨rfl, rfl⟩
          go_wp2_with fail
          refine (HN2 _ h2' hZi).mono ?_
          rintro e w7 ⟨rfl, rfl⟩
          go_wp2
          go_roundw
          case rel => exact ⟨j + 1, k, Z, by go_num, by omega, h1', hZi, h2', hm⟩
          case measure => simp [intOf]; omega
    · go_wp2
      go_ret
      exact ⟨rfl, hm⟩
namespace cellRefused
open Go.ChangeShapes Go.WideShapes Go.ChangeAt Go.RowKit
set_option maxRecDepth 100000 in
theorem lifted (os : Os) (started : os.Started) (H : Type) (enc : TypeId × Value → H) :
    ReturnsInHanded {} Try.checked os 5 .any (Rows.cellRefusedSpec.pre6 enc Try.prog Try.f5 Rows.cellRefusedRow.domain false) (Rows.cellRefusedSpec.post enc Try.prog Try.f5 false true false false) := by
  refine returnsInHanded_of_change_sized (C := Try.checked) own started (by kernel_rfl) Try.func5
    (ChangeSpec.witness6 (enc := enc) (C := Try.checked) false ⟨#[], #[.slice none 0 0], []⟩ 8 (by kernel_rfl) (by kernel_rfl) (by kernel_rfl) (by kernel_rfl)) ?_
  intro W base args ds gs before hval0 hW hcnd hsz0 _
  have hval : ∀ (j : Nat) t v, Try.f5.params[j]? = some t → args[j]? = some v → Value.okWide Try.prog W .any base t v := hval0
  have hsz : (DataW.weightsEach Try.prog (Try.f5.params.toList ++ Rows.cellRefusedSpec.plain.varTypes Try.prog) (ds ++ gs)).all (· ≤ reachBytes) = true := hsz0
  have hW' := hW
  obtain ⟨p, q, hA0, hV, rfl, hfz, hnd⟩ := hW
  have hA : DataW.TrodAll enc Try.prog W 0 (fun _ => true) true Try.f5.params.toList args.toList ds p := hA0
  rw [Try.params5] at hA hval hsz
  obtain ⟨v0, vs0, d0, ds0, p0, q0, hargs, rfl, rfl, h0, r0⟩ := trodAll_cons hA
  obtain ⟨rfl, rfl, rfl⟩ := trodAll_nil r0
  obtain rfl : args = #[v0] := by cases args; simp_all
  obtain ⟨rfl, rfl⟩ := trodVars_none hV
  have k0 := h0
  have lt0 : ∀ x ∈ p0, x.block < W.heap.size := by obtain ⟨m, hm⟩ := k0; exact DataW.trod_lt m _ _ _ hm
  obtain ⟨dl, hdeeds⟩ := open_deeds h0 (okWide_slice Try.underlying22 (hval 0 22 v0 rfl rfl))
  clear hA0 hval0
  refine (refused_walk v0 dl W hdeeds).mono fun e W' ⟨he, hm⟩ => ?_
  subst he
  have bel : Below W.heap.size W W' := hm.below _ (Nat.le_refl _) (fun _ h => h.elim)
  exact ⟨_, rfl, _, _, _, [], _, [], hW', trodAll_mk1 (shut_bool Try.underlying4 _), (trodAll_cons_mk (Below.trod laidOut (by kernel_rfl) (of_decide_eq_true (by kernel_rfl)) k0 bel lt0) trodAll_mk0), rfl, bel.frame _, fun h => by cases h⟩

theorem over : Rows.cellRefusedRow.holds Try.pinned (OpenSpec.ofChange Rows.cellRefusedSpec) :=
  OpenClaim.holds_of_wide 5 Try.f5 rfl rfl rfl rfl rfl rfl rfl ⟨rfl, rfl, rfl, rfl, rfl⟩ rfl rfl rfl rfl rfl (by kernel_rfl) Try.func5 (by kernel_rfl)
    (of_decide_eq_true (by kernel_rfl)) (by unfold Func.isWrapper; first | (rw [if_pos (by decide +kernel)]; kernel_rfl) | (rw [if_neg (by decide +kernel)]; exact ⟨rfl, rfl⟩))
    (fun os started H enc _ => lifted os started H enc)
end cellRefused
theorem cellRefused_holds : Rows.CellRefusedSaid := cellRefused.over
end Go.Proofs.Ytkpocogobcefpaa
