/- CellDeeds holds: for any deeds the law answers true and turns nothing that was there. Conditions: none. -/
import Derived.Test.YtkpocogobcefpaaDe
import Derived.SizedLaws
import Derived.Deep.RegionHeld3
namespace Go.Proofs.Ytkpocogobcefpaa
open Go.RowKit
set_option maxRecDepth 100000 in
set_option maxHeartbeats 4000000 in
theorem deeds_walk (lv : Value) (ds : List Dd) (w : World) (hd : Deeds w lv ds) :
    Calls Try.prog 3 #[lv] w fun e w' => e = .returned (.bool true) ∧ Mod (fun _ => False) w w' := by
  obtain ⟨al, cl, rfl, hlm, _⟩ := hd.form
  unfold maxLen at hlm
  go_enter Try.func3, Try.ntmps3
  go_wp2_with fail
  refine (New_any _).mono ?_
  rintro e w1 ⟨p, rfl, h1, hm1, hp⟩
  go_wp2_with fail
  refine (dNew _).mono ?_
  rintro e w2 ⟨q, rfl, h2, hm2, hq⟩
  go_wp2_with fail
  refine (New_any _).mono ?_
  rintro e w3 ⟨r, rfl, h3, hm3, hr⟩
  have hpl := h1.lt
  have hql := h2.lt
  have s1 := hm1.size
  have s2 := hm2.size
  replace h1 := (h1.mod hm2 (fun h => h)).mod hm3 (fun h => h)
  replace h2 := h2.mod hm3 (fun h => h)
  have hm := (hm1.and hm2).and hm3
  have hp' : w.heap.size ≤ p ∧ p < q ∧ q < r := by omega
  clear hm1 hm2 hm3 hpl hql s1 s2 hp hq hr
  obtain ⟨hp, hpq, hqr⟩ := hp'
  go_wp2_with fail
  go_loopw [6] (fun i wr => ∃ (j : Nat) (k s ko so : Int), i = .int .i64 j ∧ j ≤ ds.length ∧ Cl wr p k s ∧ In s ∧ Ds wr q k s ∧ Cl wr r ko so ∧ In so ∧ Mod (fun _ => False) w wr) (fun i _ => ds.length - (intOf i).toNat)
  case atStart => exact ⟨0, 0, 1, 0, 1, rfl, by omega, h1, In1, h2, h3, In1, hm⟩
  case round =>
    clear hm h1 h2 h3
    obtain ⟨j, k, s, ko, so, rfl, hj, h1, hs, h2, h3, hso, hm⟩ := hrel
    by_cases hlt : j < ds.length
    · obtain ⟨d, hdk⟩ : ∃ d, ds[j]? = some d := ⟨_, List.getElem?_eq_getElem hlt⟩
      obtain ⟨lb, lo, rfl, hcells⟩ := hd.at hdk
      obtain ⟨ik, iv⟩ := hd.each d (List.mem_of_getElem? hdk)
      obtain ⟨c0, c1, c2⟩ := hcells wr hm
      obtain ⟨x, n, bh⟩ := d
      simp only at c0 c1 c2 ik iv
      clear hdk hd hcells
      have hsz := hm.size
      have hrl := h3.lt
      have BR := Bring4 x
      have hrn : ¬ r = wr.heap.size := by omega
      have hqn : ¬ q = wr.heap.size := by omega
      have hpn : ¬ p = wr.heap.size := by omega
      go_wp2_with fail
      refine (BR _ ik).mono ?_
      rintro e w4 ⟨rfl, hw4⟩
      obtain ⟨g, hg⟩ : ∃ g, g = wr.heap.size := ⟨_, rfl⟩
      have hm4 : Mod (fun _ => False) wr w4 := by rw [hw4]; exact (Mod.refl _ _).alloc _
      have b0 : w4.cell? ⟨g, 0, none⟩ = some (.int .i64 x) := by rw [hw4, hg]; simp [go_sem]
      have b1 : w4.cell? ⟨g, 1, none⟩ = some (.int .i64 n) := by rw [hw4, hg]; simp [go_sem]
      have b2 : w4.cell? ⟨g, 2, none⟩ = some (.bool bh) := by rw [hw4, hg]; simp [go_sem]
      replace h1 := h1.mod hm4 (fun h => h)
      replace h2 := h2.mod hm4 (fun h => h)
      replace h3 := h3.mod hm4 (fun h => h)
      replace hm := hm.and hm4
      rw [← hg] at hrn hqn hpn ⊢
      clear hw4 hm4 hg c0 c1 c2 BR hsz
      have hx4 : x % 4 = 0 ∨ x % 4 = 1 ∨ x % 4 = 2 ∨ x % 4 = 3 := by omega
      generalize x % 4 = y at hx4
      rcases hx4 with rfl | rfl | rfl | rfl
      · obtain ⟨E, hE⟩ : ∃ E, wE k s n = E := ⟨_, rfl⟩
        obtain ⟨K, hK⟩ : ∃ K, wK k s n = K := ⟨_, rfl⟩
        obtain ⟨Z, hZ⟩ : ∃ Z, wS k s n = Z := ⟨_, rfl⟩
        have hZi : In Z := hZ ▸ wS_in hs
        have HW := Write_any p k s n
        have HD := dWrite q k s n
        rw [hE, hK, hZ] at HW HD
        clear hE hK hZ
        go_wp2_with fail
        replace hm := hm.drew
        replace h1 := h1.drew
        replace h2 := h2.drew
        replace h3 := h3.drew
        go_region_held3 (fun y => y.cell? ⟨g, 1, none⟩ = some (.int .i64 n)) (first | exact b1 | go_keep)
          (first | (go_at_call 10; refine (HW _ h1 hs).mono ?_; rintro e w5 ⟨rfl, h1', hm5⟩; replace b1 := hm5.cell b1 (fun h => hpn h.symm); replace h2 := h2.mod hm5 (by show ¬ q = p; omega); replace h3 := h3.mod hm5 (by show ¬ r = p; omega); replace hm := hm.trans hm5 (V := fun _ => False) (fun _ _ h => h) (fun i hi hh => by omega); clear hm5) |
            (go_at_call 11; refine (HD _ h2 hs).mono ?_; rintro e w6 ⟨rfl, h2', hm5⟩; replace b1 := hm5.cell b1 (fun h => hqn h.symm); replace h1' := h1'.mod hm5 (by show ¬ p = q; omega); replace h3 := h3.mod hm5 (by show ¬ r = q; omega); replace hm := hm.trans hm5 (V := fun _ => False) (fun _ _ h => h) (fun i hi hh => by omega); clear hm5))
        clear h1 h2 b1
        have HR := Read_any p K Z
        have HN := Down_any p K Z
        have r0 := h2'.c0
        have r1 := h2'.c1
        generalize (Z == 4) = z at HN r1
        go_wp2_with fail
        replace hm := hm.drew
        replace h1' := h1'.drew
        replace h2' := h2'.drew
        replace h3 := h3.drew
        go_region_held3 (fun y => y.cell? ⟨q, 0, none⟩ = some (.int .i64 K) ∧ y.cell? ⟨q, 1, none⟩ = some (.bool z)) (first | exact ⟨r0, r1⟩ | go_keep)
          (first | (go_at_call 16; refine (HR _ h1' hZi).mono ?_; rintro e w7 ⟨rfl, rfl⟩) | (go_at_call 17; refine (HN _ h1' hZi).mono ?_; rintro e w8 ⟨rfl, rfl⟩))
        go_wp2
        go_roundw
        case rel => exact ⟨j + 1, K, Z, ko, so, by go_num, by omega, h1', hZi, h2', h3, hso, hm⟩
        case measure => simp [intOf]; omega
      · obtain ⟨E, hE⟩ : ∃ E, wE k s n = E := ⟨_, rfl⟩
        obtain ⟨K, hK⟩ : ∃ K, wK k s n = K := ⟨_, rfl⟩
        obtain ⟨Z, hZ⟩ : ∃ Z, wS k s n = Z := ⟨_, rfl⟩
        have hZi : In Z := hZ ▸ wS_in hs
        have HW := Write_any p k s n
        have HD := dWrite q k s n
        rw [hE, hK, hZ] at HW HD
        clear hE hK hZ
        go_wp2_with fail
        replace hm := hm.drew
        replace h1 := h1.drew
        replace h2 := h2.drew
        replace h3 := h3.drew
        go_region_held3 (fun y => y.cell? ⟨g, 1, none⟩ = some (.int .i64 n)) (first | exact b1 | go_keep)
          (first | (go_at_call 10; refine (HW _ h1 hs).mono ?_; rintro e w5 ⟨rfl, h1', hm5⟩; replace b1 := hm5.cell b1 (fun h => hpn h.symm); replace h2 := h2.mod hm5 (by show ¬ q = p; omega); replace h3 := h3.mod hm5 (by show ¬ r = p; omega); replace hm := hm.trans hm5 (V := fun _ => False) (fun _ _ h => h) (fun i hi hh => by omega); clear hm5) |
            (go_at_call 11; refine (HD _ h2 hs).mono ?_; rintro e w6 ⟨rfl, h2', hm5⟩; replace b1 := hm5.cell b1 (fun h => hqn h.symm); replace h1' := h1'.mod hm5 (by show ¬ p = q; omega); replace h3 := h3.mod hm5 (by show ¬ r = q; omega); replace hm := hm.trans hm5 (V := fun _ => False) (fun _ _ h => h) (fun i hi hh => by omega); clear hm5))
        clear h1 h2 b1
        have HR := Read_any p K Z
        have HN := Down_any p K Z
        have r0 := h2'.c0
        have r1 := h2'.c1
        generalize (Z == 4) = z at HN r1
        go_wp2_with fail
        replace hm := hm.drew
        replace h1' := h1'.drew
        replace h2' := h2'.drew
        replace h3 := h3.drew
        go_region_held3 (fun y => y.cell? ⟨q, 0, none⟩ = some (.int .i64 K) ∧ y.cell? ⟨q, 1, none⟩ = some (.bool z)) (first | exact ⟨r0, r1⟩ | go_keep)
          (first | (go_at_call 16; refine (HR _ h1' hZi).mono ?_; rintro e w7 ⟨rfl, rfl⟩) | (go_at_call 17; refine (HN _ h1' hZi).mono ?_; rintro e w8 ⟨rfl, rfl⟩))
        go_wp2
        go_roundw
        case rel => exact ⟨j + 1, K, Z, ko, so, by go_num, by omega, h1', hZi, h2', h3, hso, hm⟩
        case measure => simp [intOf]; omega
      · obtain ⟨E, hE⟩ : ∃ E, cE s = E := ⟨_, rfl⟩
        obtain ⟨K, hK⟩ : ∃ K, k = K := ⟨_, rfl⟩
        obtain ⟨Z, hZ⟩ : ∃ Z, cS s bh = Z := ⟨_, rfl⟩
        have hZi : In Z := hZ ▸ cS_in bh
        have HW := Crash_any p k s bh
        have HD := dCrash q k s bh
        rw [hE, hZ] at HW HD
        subst hK
        clear hE hZ
        go_wp2_with fail
        replace hm := hm.drew
        replace h1 := h1.drew
        replace h2 := h2.drew
        replace h3 := h3.drew
        go_region_held3 (fun y => y.cell? ⟨g, 2, none⟩ = some (.bool bh)) (first | exact b2 | go_keep)
          (first | (go_at_call 12; refine (HW _ h1 hs).mono ?_; rintro e w5 ⟨rfl, h1', hm5⟩; replace b2 := hm5.cell b2 (fun h => hpn h.symm); replace h2 := h2.mod hm5 (by show ¬ q = p; omega); replace h3 := h3.mod hm5 (by show ¬ r = p; omega); replace hm := hm.trans hm5 (V := fun _ => False) (fun _ _ h => h) (fun i hi hh => by omega); clear hm5) |
            (go_at_call 13; refine (HD _ h2 hs).mono ?_; rintro e w6 ⟨rfl, h2', hm5⟩; replace b2 := hm5.cell b2 (fun h => hqn h.symm); replace h1' := h1'.mod hm5 (by show ¬ p = q; omega); replace h3 := h3.mod hm5 (by show ¬ r = q; omega); replace hm := hm.trans hm5 (V := fun _ => False) (fun _ _ h => h) (fun i hi hh => by omega); clear hm5))
        clear h1 h2 b2
        have HO := Write_any r ko so
        go_wp2_with fail
        refine (HO _ _ h3 hso).mono ?_
        rintro e w9 ⟨rfl, h3', hm5⟩
        have hSi : In (wS ko so (j + 1)) := wS_in hso
        generalize wS ko so (j + 1) = so' at *
        generalize wK ko so (j + 1) = ko' at *
        generalize wE ko so (j + 1) = eo' at *
        replace h1' := h1'.mod hm5 (by show ¬ p = r; omega)
        replace h2' := h2'.mod hm5 (by show ¬ q = r; omega)
        replace hm := hm.trans hm5 (V := fun _ => False) (fun _ _ h => h) (fun i hi hh => by omega)
        clear h3 hm5
        have h3 := h3'
        clear h3' HO
        have HR := Read_any p k Z
        have HN := Down_any p k Z
        have r0 := h2'.c0
        have r1 := h2'.c1
        generalize (Z == 4) = z at HN r1
        go_wp2_with fail
        replace hm := hm.drew
        replace h1' := h1'.drew
        replace h2' := h2'.drew
        replace h3 := h3.drew
        go_region_held3 (fun y => y.cell? ⟨q, 0, none⟩ = some (.int .i64 k) ∧ y.cell? ⟨q, 1, none⟩ = some (.bool z)) (first | exact ⟨r0, r1⟩ | go_keep)
          (first | (go_at_call 16; refine (HR _ h1' hZi).mono ?_; rintro e w7 ⟨rfl, rfl⟩) | (go_at_call 17; refine (HN _ h1' hZi).mono ?_; rintro e w8 ⟨rfl, rfl⟩))
        go_wp2
        go_roundw
        case rel => exact ⟨j + 1, k, Z, ko', so', by go_num, by omega, h1', hZi, h2', h3, hSi, hm⟩
        case measure => simp [intOf]; omega
      · obtain ⟨E, hE⟩ : ∃ E, sE s = E := ⟨_, rfl⟩
        obtain ⟨Z, hZ⟩ : ∃ Z, sS s = Z := ⟨_, rfl⟩
        have hZi : In Z := hZ ▸ sS_in hs
        have HW := Start_any p k s
        have HD := dStart q k s
        rw [hE, hZ] at HW HD
        clear hE hZ
        go_wp2_with fail
        refine (HW _ h1 hs).mono ?_
        rintro e w5 ⟨rfl, h1', hm5⟩
        replace h2 := h2.mod hm5 (by show ¬ q = p; omega)
        replace h3 := h3.mod hm5 (by show ¬ r = p; omega)
        replace hm := hm.trans hm5 (V := fun _ => False) (fun _ _ h => h) (fun i hi hh => by omega)
        clear hm5 h1
        go_wp2_with fail
        refine (HD _ h2 hs).mono ?_
        rintro e w6 ⟨rfl, h2', hm5⟩
        replace h1' := h1'.mod hm5 (by show ¬ p = q; omega)
        replace h3 := h3.mod hm5 (by show ¬ r = q; omega)
        replace hm := hm.trans hm5 (V := fun _ => False) (fun _ _ h => h) (fun i hi hh => by omega)
        clear hm5 h2
        have HO := Crash_any r ko so true
        have hSi : In (cS so true) := cS_in true
        generalize cS so true = so' at *
        generalize cE so = eo' at *
        go_wp2_with fail
        refine (HO _ h3 hso).mono ?_
        rintro e w9 ⟨rfl, h3', hm5⟩
        replace h1' := h1'.mod hm5 (by show ¬ p = r; omega)
        replace h2' := h2'.mod hm5 (by show ¬ q = r; omega)
        replace hm := hm.trans hm5 (V := fun _ => False) (fun _ _ h => h) (fun i hi hh => by omega)
        clear h3 hm5
        have h3 := h3'
        clear h3' HO
        have HR := Read_any p k Z
        have HN := Down_any p k Z
        have r0 := h2'.c0
        have r1 := h2'.c1
        generalize (Z == 4) = z at HN r1
        go_wp2_with fail
        replace hm := hm.drew
        replace h1' := h1'.drew
        replace h2' := h2'.drew
        replace h3 := h3.drew
        go_region_held3 (fun y => y.cell? ⟨q, 0, none⟩ = some (.int .i64 k) ∧ y.cell? ⟨q, 1, none⟩ = some (.bool z)) (first | exact ⟨r0, r1⟩ | go_keep)
          (first | (go_at_call 16; refine (HR _ h1' hZi).mono ?_; rintro e w7 ⟨rfl, rfl⟩) | (go_at_call 17; refine (HN _ h1' hZi).mono ?_; rintro e w8 ⟨rfl, rfl⟩))
        go_wp2
        go_roundw
        case rel => exact ⟨j + 1, k, Z, ko, so', by go_num, by omega, h1', hZi, h2', h3, hSi, hm⟩
        case measure => simp [intOf]; omega
    · go_wp2_with fail
      refine (works_any _).mono ?_
      rintro e w4 ⟨rfl, hm4⟩
      go_wp2
      go_ret
      exact ⟨rfl, hm.and hm4⟩
namespace cellDeeds
open Go.ChangeShapes Go.WideShapes Go.ChangeAt Go.RowKit
set_option maxRecDepth 100000 in
theorem lifted (os : Os) (started : os.Started) (H : Type) (enc : TypeId × Value → H) :
    ReturnsInHanded {} Try.checked os 3 .any (Rows.cellDeedsSpec.pre6 enc Try.prog Try.f3 Rows.cellDeedsRow.domain false) (Rows.cellDeedsSpec.post enc Try.prog Try.f3 false true false false) := by
  refine returnsInHanded_of_change_sized (C := Try.checked) own started (by kernel_rfl) Try.func3
    (ChangeSpec.witness6 (enc := enc) (C := Try.checked) false ⟨#[], #[.slice none 0 0], []⟩ 8 (by kernel_rfl) (by kernel_rfl) (by kernel_rfl) (by kernel_rfl)) ?_
  intro W base args ds gs before hval0 hW hcnd hsz0 _
  have hval : ∀ (j : Nat) t v, Try.f3.params[j]? = some t → args[j]? = some v → Value.okWide Try.prog W .any base t v := hval0
  have hsz : (DataW.weightsEach Try.prog (Try.f3.params.toList ++ Rows.cellDeedsSpec.plain.varTypes Try.prog) (ds ++ gs)).all (· ≤ reachBytes) = true := hsz0
  have hW' := hW
  obtain ⟨p, q, hA0, hV, rfl, hfz, hnd⟩ := hW
  have hA : DataW.TrodAll enc Try.prog W 0 (fun _ => true) true Try.f3.params.toList args.toList ds p := hA0
  rw [Try.params3] at hA hval hsz
  obtain ⟨v0, vs0, d0, ds0, p0, q0, hargs, rfl, rfl, h0, r0⟩ := trodAll_cons hA
  obtain ⟨rfl, rfl, rfl⟩ := trodAll_nil r0
  obtain rfl : args = #[v0] := by cases args; simp_all
  obtain ⟨rfl, rfl⟩ := trodVars_none hV
  have k0 := h0
  have lt0 : ∀ x ∈ p0, x.block < W.heap.size := by obtain ⟨m, hm⟩ := k0; exact DataW.trod_lt m _ _ _ hm
  obtain ⟨dl, hdeeds⟩ := open_deeds h0 (okWide_slice Try.underlying22 (hval 0 22 v0 rfl rfl))
  clear hA0 hval0
  refine (deeds_walk v0 dl W hdeeds).mono fun e W' ⟨he, hm⟩ => ?_
  subst he
  have bel : Below W.heap.size W W' := hm.below _ (Nat.le_refl _) (fun _ h => h.elim)
  exact ⟨_, rfl, _, _, _, [], _, [], hW', trodAll_mk1 (shut_bool Try.underlying4 _), (trodAll_cons_mk (Below.trod laidOut (by kernel_rfl) (of_decide_eq_true (by kernel_rfl)) k0 bel lt0) trodAll_mk0), rfl, bel.frame _, fun h => by cases h⟩

theorem over : Rows.cellDeedsRow.holds Try.pinned (OpenSpec.ofChange Rows.cellDeedsSpec) :=
  OpenClaim.holds_of_wide 3 Try.f3 rfl rfl rfl rfl rfl rfl rfl ⟨rfl, rfl, rfl, rfl, rfl⟩ rfl rfl rfl rfl rfl (by kernel_rfl) Try.func3 (by kernel_rfl)
    (of_decide_eq_true (by kernel_rfl)) (by unfold Func.isWrapper; first | (rw [if_pos (by decide +kernel)]; kernel_rfl) | (rw [if_neg (by decide +kernel)]; exact ⟨rfl, rfl⟩))
    (fun os started H enc _ => lifted os started H enc)
end cellDeeds
theorem cellDeeds_holds : Rows.CellDeedsSaid := cellDeeds.over
end Go.Proofs.Ytkpocogobcefpaa
