/- CellRises holds: for any deeds the law answers true and turns nothing that was there. Conditions: none. -/
import Derived.Test.YtkpocogobcefpaaDe
import Derived.SizedLaws
import Derived.Deep.RegionHeld3
namespace Go.Proofs.Ytkpocogobcefpaa
open Go.RowKit
/-- How the law's own two stand beside a cell. -/
def St (s : Int) (ar be : Bool) : Prop := (s = 1 ∧ ar = false) ∨ (s = 2 ∧ ar = true ∧ be = false) ∨ (s = 3 ∧ ar = true ∧ be = true) ∨ (s = 4 ∧ ar = false)
theorem St.in {s : Int} {ar be : Bool} (h : St s ar be) : In s := by
  unfold St at h
  unfold In
  omega
set_option maxRecDepth 100000 in
set_option maxHeartbeats 4000000 in
theorem rises_walk (lv : Value) (ds : List Dd) (w : World) (hd : Deeds w lv ds) :
    Calls Try.prog 4 #[lv] w fun e w' => e = .returned (.bool true) ∧ Mod (fun _ => False) w w' := by
  obtain ⟨al, cl, rfl, hlm, _⟩ := hd.form
  unfold maxLen at hlm
  go_enter Try.func4, Try.ntmps4
  go_wp2_with fail
  refine (works_any _).mono ?_
  rintro e w0 ⟨rfl, hm0⟩
  go_wp2_with fail
  refine (New_any _).mono ?_
  rintro e w1 ⟨p, rfl, h1, hm1, hp⟩
  have s0 := hm0.size
  have hm := hm0.and hm1
  have hp' : w.heap.size ≤ p := by omega
  clear hm1 hm0 s0 hp
  have hp := hp'
  clear hp'
  go_wp2_with fail
  go_loopw [4, 5, 6] (fun a b i wr => ∃ (j : Nat) (k s : Int) (ar be : Bool), a = .bool ar ∧ b = .bool be ∧ i = .int .i64 j ∧ j ≤ ds.length ∧ Cl wr p k s ∧ St s ar be ∧ Mod (fun _ => False) w wr) (fun _ _ i _ => ds.length - (intOf i).toNat)
  case atStart => exact ⟨0, 0, 1, false, false, rfl, rfl, rfl, by omega, h1, .inl ⟨rfl, rfl⟩, hm⟩
  case round =>
    clear hm h1
    obtain ⟨j, k, s, ar, be, rfl, rfl, rfl, hj, h1, hst0, hm⟩ := hrel
    by_cases hlt : j < ds.length
    · obtain ⟨d, hdk⟩ : ∃ d, ds[j]? = some d := ⟨_, List.getElem?_eq_getElem hlt⟩
      obtain ⟨lb, lo, rfl, hcells⟩ := hd.at hdk
      obtain ⟨ik, iv⟩ := hd.each d (List.mem_of_getElem? hdk)
      obtain ⟨x, n, bh⟩ := d
      simp only at hcells ik iv
      clear hdk hd
      have HC : Hid (∀ w', Mod (fun _ => False) w w' → w'.cell? ⟨lb, lo + j * 3, none⟩ = some (.int .i64 x) ∧ w'.cell? ⟨lb, lo + j * 3 + 1, none⟩ = some (.int .i64 n) ∧ w'.cell? ⟨lb, lo + j * 3 + 2, none⟩ = some (.bool bh)) := hcells
      obtain ⟨c0, c1, c2⟩ := HC.out wr hm
      clear hcells
      have BR := Bring4 x
      have hx4 : x % 4 = 0 ∨ x % 4 = 1 ∨ x % 4 = 2 ∨ x % 4 = 3 := by omega
      generalize x % 4 = y at hx4 BR
      have hs : In s := St.in hst0
      have hst : Hid (St s ar be) := hst0
      clear hst0
      have HR := Read_any p k s wr h1 hs
      have HN := Down_any p k s wr h1 hs
      obtain ⟨dn, hdn⟩ : ∃ dn, (s == 4) = dn := ⟨_, rfl⟩
      rw [hdn] at HN
      have HDN : Hid ((s == 4) = dn) := hdn
      clear hdn
      go_wp2_with fail
      refine HR.mono ?_
      rintro e w9 ⟨rfl, rfl⟩
      go_wp2_with fail
      refine HN.mono ?_
      rintro e w9 ⟨rfl, rfl⟩
      go_wp2_with fail
      refine (BR _ ik).mono ?_
      rintro e w9 ⟨rfl, rfl⟩
      clear HR HN BR
      rcases hx4 with rfl | rfl | rfl | rfl
      · rcases wE_cases (k := k) (n := n) hs with hc | hc | hc | hc | hc
        · have HW := fun v h => Write_at p k s n 80 k s v h hs hc.1 hc.2.1 hc.2.2.1
          obtain rfl : dn = true := by rw [← HDN.out]; have := hc.2.2.2; simp; omega
          clear hc
          go_wp2_with fail
          refine (HW _ h1).mono ?_
          rintro e w5 ⟨rfl, h1', hm5⟩
          replace hm := hm.trans hm5 (V := fun _ => False) (fun _ _ h => h) (fun i hi hh => by omega)
          clear hm5 h1 c0 c1 c2
          obtain ⟨c0, c1, c2⟩ := HC.out _ hm
          go_wp2_with fail
          refine (Read_any p k s _ h1' hs).mono ?_
          rintro e w9 ⟨rfl, rfl⟩
          go_wp2
          all_goals
            go_roundw
            case rel => exact ⟨j + 1, k, s, ar, be, by simp [*], rfl, by go_num, by omega, h1', hst.out, hm⟩
            case measure => simp [intOf]; omega
        · have HW := fun v h => Write_at p k s n 9 k s v h hs hc.1 hc.2.1 hc.2.2.1
          obtain rfl : dn = false := by rw [← HDN.out]; have := hc.2.2.2; simp; omega
          clear hc
          go_wp2_with fail
          refine (HW _ h1).mono ?_
          rintro e w5 ⟨rfl, h1', hm5⟩
          replace hm := hm.trans hm5 (V := fun _ => False) (fun _ _ h => h) (fun i hi hh => by omega)
          clear hm5 h1 c0 c1 c2
          obtain ⟨c0, c1, c2⟩ := HC.out _ hm
          go_wp2_with fail
          refine (Read_any p k s _ h1' hs).mono ?_
          rintro e w9 ⟨rfl, rfl⟩
          have HN := Down_any p k s w9 h1' hs
          rw [HDN.out] at HN
          go_wp2_with fail
          refine (HN).mono ?_
          rintro e w8 ⟨rfl, rfl⟩
          go_wp2
          all_goals
            go_roundw
            case rel => exact ⟨j + 1, k, s, ar, be, by simp [*], rfl, by go_num, by omega, h1', hst.out, hm⟩
            case measure => simp [intOf]; omega
        · obtain rfl : s = 1 := hc.2.2.2.1
          obtain rfl : ar = false := by have := hst.out; unfold St at this; simp at this; simp [this]
          have HW := fun v h => Write_at p k 1 n 0 n 1 v h hs hc.1 hc.2.1 hc.2.2.1
          obtain rfl : dn = false := HDN.out.symm
          have g1 : ¬ n < k := by omega
          have g2 : (n == k) = false := by simp; omega
          clear hc
          go_wp2_with fail
          refine (HW _ h1).mono ?_
          rintro e w5 ⟨rfl, h1', hm5⟩
          replace hm := hm.trans hm5 (V := fun _ => False) (fun _ _ h => h) (fun i hi hh => by omega)
          clear hm5 h1 c0 c1 c2
          obtain ⟨c0, c1, c2⟩ := HC.out _ hm
          go_wp2_with fail
          refine (Read_any p n 1 _ h1' In1).mono ?_
          rintro e w9 ⟨rfl, rfl⟩
          go_wp2_with fail
          refine (Down_any p n 1 _ h1' In1).mono ?_
          rintro e w8 ⟨rfl, rfl⟩
          go_wp2
          go_roundw
          case rel => exact ⟨j + 1, n, 1, false, be, rfl, rfl, by go_num, by omega, h1', .inl ⟨rfl, rfl⟩, hm⟩
          case measure => simp [intOf]; omega
        · obtain rfl : s = 2 := hc.2.2.2.1
          obtain rfl : ar = true := by have := hst.out; unfold St at this; simp at this; simp [this]
          obtain rfl : be = false := by have := hst.out; unfold St at this; simp at this; simp [this]
          have HW := fun v h => Write_at p k 2 n 270 k 4 v h hs hc.1 hc.2.1 hc.2.2.1
          obtain rfl : dn = false := HDN.out.symm
          have g1 : ¬ n < k := by omega
          have g2 : (n == k) = false := by simp; omega
          clear hc
          go_wp2_with fail
          refine (HW _ h1).mono ?_
          rintro e w5 ⟨rfl, h1', hm5⟩
          replace hm := hm.trans hm5 (V := fun _ => False) (fun _ _ h => h) (fun i hi hh => by omega)
          clear hm5 h1 c0 c1 c2
          obtain ⟨c0, c1, c2⟩ := HC.out _ hm
          go_wp2_with fail
          refine (Read_any p k 4 _ h1' In4).mono ?_
          rintro e w9 ⟨rfl, rfl⟩
          go_wp2_with fail
          refine (Down_any p k 4 _ h1' In4).mono ?_
          rintro e w8 ⟨rfl, rfl⟩
          go_wp2
          go_roundw
          case rel => exact ⟨j + 1, k, 4, false, false, rfl, rfl, by go_num, by omega, h1', .inr (.inr (.inr ⟨rfl, rfl⟩)), hm⟩
          case measure => simp [intOf]; omega
        · obtain rfl : s = 3 := hc.2.2.2.1
          obtain rfl : ar = true := by have := hst.out; unfold St at this; simp at this; simp [this]
          obtain rfl : be = true := by have := hst.out; unfold St at this; simp at this; simp [this]
          have HW := fun v h => Write_at p k 3 n 270 n 4 v h hs hc.1 hc.2.1 hc.2.2.1
          obtain rfl : dn = false := HDN.out.symm
          have g1 : ¬ n < k := by omega
          have g2 : (n == k) = false := by simp; omega
          clear hc
          go_wp2_with fail
          refine (HW _ h1).mono ?_
          rintro e w5 ⟨rfl, h1', hm5⟩
          replace hm := hm.trans hm5 (V := fun _ => False) (fun _ _ h => h) (fun i hi hh => by omega)
          clear hm5 h1 c0 c1 c2
          obtain ⟨c0, c1, c2⟩ := HC.out _ hm
          go_wp2_with fail
          refine (Read_any p n 4 _ h1' In4).mono ?_
          rintro e w9 ⟨rfl, rfl⟩
          go_wp2_with fail
          refine (Down_any p n 4 _ h1' In4).mono ?_
          rintro e w8 ⟨rfl, rfl⟩
          go_wp2
          go_roundw
          case rel => exact ⟨j + 1, n, 4, false, true, rfl, rfl, by go_num, by omega, h1', .inr (.inr (.inr ⟨rfl, rfl⟩)), hm⟩
          case measure => simp [intOf]; omega
      · rcases wE_cases (k := k) (n := n) hs with hc | hc | hc | hc | hc
        · have HW := fun v h => Write_at p k s n 80 k s v h hs hc.1 hc.2.1 hc.2.2.1
          obtain rfl : dn = true := by rw [← HDN.out]; have := hc.2.2.2; simp; omega
          clear hc
          go_wp2_with fail
          refine (HW _ h1).mono ?_
          rintro e w5 ⟨rfl, h1', hm5⟩
          replace hm := hm.trans hm5 (V := fun _ => False) (fun _ _ h => h) (fun i hi hh => by omega)
          clear hm5 h1 c0 c1 c2
          obtain ⟨c0, c1, c2⟩ := HC.out _ hm
          go_wp2_with fail
          refine (Read_any p k s _ h1' hs).mono ?_
          rintro e w9 ⟨rfl, rfl⟩
          go_wp2
          all_goals
            go_roundw
            case rel => exact ⟨j + 1, k, s, ar, be, by simp [*], rfl, by go_num, by omega, h1', hst.out, hm⟩
            case measure => simp [intOf]; omega
        · have HW := fun v h => Write_at p k s n 9 k s v h hs hc.1 hc.2.1 hc.2.2.1
          obtain rfl : dn = false := by rw [← HDN.out]; have := hc.2.2.2; simp; omega
          clear hc
          go_wp2_with fail
          refine (HW _ h1).mono ?_
          rintro e w5 ⟨rfl, h1', hm5⟩
          replace hm := hm.trans hm5 (V := fun _ => False) (fun _ _ h => h) (fun i hi hh => by omega)
          clear hm5 h1 c0 c1 c2
          obtain ⟨c0, c1, c2⟩ := HC.out _ hm
          go_wp2_with fail
          refine (Read_any p k s _ h1' hs).mono ?_
          rintro e w9 ⟨rfl, rfl⟩
          have HN := Down_any p k s w9 h1' hs
          rw [HDN.out] at HN
          go_wp2_with fail
          refine (HN).mono ?_
          rintro e w8 ⟨rfl, rfl⟩
          go_wp2
          all_goals
            go_roundw
            case rel => exact ⟨j + 1, k, s, ar, be, by simp [*], rfl, by go_num, by omega, h1', hst.out, hm⟩
            case measure => simp [intOf]; omega
        · obtain rfl : s = 1 := hc.2.2.2.1
          obtain rfl : ar = false := by have := hst.out; unfold St at this; simp at this; simp [this]
          have HW := fun v h => Write_at p k 1 n 0 n 1 v h hs hc.1 hc.2.1 hc.2.2.1
          obtain rfl : dn = false := HDN.out.symm
          have g1 : ¬ n < k := by omega
          have g2 : (n == k) = false := by simp; omega
          clear hc
          go_wp2_with fail
          refine (HW _ h1).mono ?_
          rintro e w5 ⟨rfl, h1', hm5⟩
          replace hm := hm.trans hm5 (V := fun _ => False) (fun _ _ h => h) (fun i hi hh => by omega)
          clear hm5 h1 c0 c1 c2
          obtain ⟨c0, c1, c2⟩ := HC.out _ hm
          go_wp2_with fail
          refine (Read_any p n 1 _ h1' In1).mono ?_
          rintro e w9 ⟨rfl, rfl⟩
          go_wp2_with fail
          refine (Down_any p n 1 _ h1' In1).mono ?_
          rintro e w8 ⟨rfl, rfl⟩
          go_wp2
          go_roundw
          case rel => exact ⟨j + 1, n, 1, false, be, rfl, rfl, by go_num, by omega, h1', .inl ⟨rfl, rfl⟩, hm⟩
          case measure => simp [intOf]; omega
        · obtain rfl : s = 2 := hc.2.2.2.1
          obtain rfl : ar = true := by have := hst.out; unfold St at this; simp at this; simp [this]
          obtain rfl : be = false := by have := hst.out; unfold St at this; simp at this; simp [this]
          have HW := fun v h => Write_at p k 2 n 270 k 4 v h hs hc.1 hc.2.1 hc.2.2.1
          obtain rfl : dn = false := HDN.out.symm
          have g1 : ¬ n < k := by omega
          have g2 : (n == k) = false := by simp; omega
          clear hc
          go_wp2_with fail
          refine (HW _ h1).mono ?_
          rintro e w5 ⟨rfl, h1', hm5⟩
          replace hm := hm.trans hm5 (V := fun _ => False) (fun _ _ h => h) (fun i hi hh => by omega)
          clear hm5 h1 c0 c1 c2
          obtain ⟨c0, c1, c2⟩ := HC.out _ hm
          go_wp2_with fail
          refine (Read_any p k 4 _ h1' In4).mono ?_
          rintro e w9 ⟨rfl, rfl⟩
          go_wp2_with fail
          refine (Down_any p k 4 _ h1' In4).mono ?_
          rintro e w8 ⟨rfl, rfl⟩
          go_wp2
          go_roundw
          case rel => exact ⟨j + 1, k, 4, false, false, rfl, rfl, by go_num, by omega, h1', .inr (.inr (.inr ⟨rfl, rfl⟩)), hm⟩
          case measure => simp [intOf]; omega
        · obtain rfl : s = 3 := hc.2.2.2.1
          obtain rfl : ar = true := by have := hst.out; unfold St at this; simp at this; simp [this]
          obtain rfl : be = true := by have := hst.out; unfold St at this; simp at this; simp [this]
          have HW := fun v h => Write_at p k 3 n 270 n 4 v h hs hc.1 hc.2.1 hc.2.2.1
          obtain rfl : dn = false := HDN.out.symm
          have g1 : ¬ n < k := by omega
          have g2 : (n == k) = false := by simp; omega
          clear hc
          go_wp2_with fail
          refine (HW _ h1).mono ?_
          rintro e w5 ⟨rfl, h1', hm5⟩
          replace hm := hm.trans hm5 (V := fun _ => False) (fun _ _ h => h) (fun i hi hh => by omega)
          clear hm5 h1 c0 c1 c2
          obtain ⟨c0, c1, c2⟩ := HC.out _ hm
          go_wp2_with fail
          refine (Read_any p n 4 _ h1' In4).mono ?_
          rintro e w9 ⟨rfl, rfl⟩
          go_wp2_with fail
          refine (Down_any p n 4 _ h1' In4).mono ?_
          rintro e w8 ⟨rfl, rfl⟩
          go_wp2
          go_roundw
          case rel => exact ⟨j + 1, n, 4, false, true, rfl, rfl, by go_num, by omega, h1', .inr (.inr (.inr ⟨rfl, rfl⟩)), hm⟩
          case measure => simp [intOf]; omega
      · cases dn
        · have h4 : ¬ s = 4 := by have := HDN.out; simpa using this
          have HW := fun v h => Crash_at p k s bh 0 (if bh then 3 else 2) v h hs (by simp [cE, h4]) (by simp [cS, h4])
          have hZi : In (if bh then 3 else 2) := by cases bh; exact In2; exact In3
          have hZs : St (if bh then 3 else 2) true bh := by cases bh; exact .inr (.inl ⟨rfl, rfl, rfl⟩); exact .inr (.inr (.inl ⟨rfl, rfl, rfl⟩))
          have hZ4 : ((if bh then 3 else 2 : Int) == 4) = false := by cases bh <;> rfl
          generalize (if bh then 3 else 2 : Int) = Z at HW hZi hZs hZ4
          have HZ : Hid (St Z true bh) := hZs
          clear hZs
          go_wp2_with fail
          refine (HW _ h1).mono ?_
          rintro e w5 ⟨rfl, h1', hm5⟩
          replace hm := hm.trans hm5 (V := fun _ => False) (fun _ _ h => h) (fun i hi hh => by omega)
          clear hm5 h1 c0 c1 c2
          obtain ⟨c0, c1, c2⟩ := HC.out _ hm
          go_wp2_with fail
          refine (Read_any p k Z _ h1' hZi).mono ?_
          rintro e w9 ⟨rfl, rfl⟩
          have HN := Down_any p k Z w9 h1' hZi
          rw [hZ4] at HN
          go_wp2_with fail
          refine (HN).mono ?_
          rintro e w8 ⟨rfl, rfl⟩
          go_wp2
          go_roundw
          case rel => exact ⟨j + 1, k, Z, true, bh, rfl, rfl, by go_num, by omega, h1', HZ.out, hm⟩
          case measure => simp [intOf]; omega
        · obtain rfl : s = 4 := by have := HDN.out; simpa using this
          have HW := fun v h => Crash_at p k 4 bh 80 4 v h hs rfl rfl
          go_wp2_with fail
          refine (HW _ h1).mono ?_
          rintro e w5 ⟨rfl, h1', hm5⟩
          replace hm := hm.trans hm5 (V := fun _ => False) (fun _ _ h => h) (fun i hi hh => by omega)
          clear hm5 h1 c0 c1 c2
          obtain ⟨c0, c1, c2⟩ := HC.out _ hm
          go_wp2_with fail
          refine (Read_any p k 4 _ h1' In4).mono ?_
          rintro e w9 ⟨rfl, rfl⟩
          go_wp2_with fail
          refine (Down_any p k 4 _ h1' In4).mono ?_
          rintro e w8 ⟨rfl, rfl⟩
          go_wp2
          all_goals
            go_roundw
            case rel => exact ⟨j + 1, k, 4, ar, be, by simp [*], rfl, by go_num, by omega, h1', hst.out, hm⟩
            case measure => simp [intOf]; omega
      · cases dn
        · have h4 : ¬ s = 4 := by have := HDN.out; simpa using this
          have HW := fun v h => Start_at p k s 80 s v h hs (by simp [sE, h4]) (by simp [sS, h4])
          go_wp2_with fail
          refine (HW _ h1).mono ?_
          rintro e w5 ⟨rfl, h1', hm5⟩
          replace hm := hm.trans hm5 (V := fun _ => False) (fun _ _ h => h) (fun i hi hh => by omega)
          clear hm5 h1 c0 c1 c2
          obtain ⟨c0, c1, c2⟩ := HC.out _ hm
          go_wp2_with fail
          refine (Read_any p k s _ h1' hs).mono ?_
          rintro e w9 ⟨rfl, rfl⟩
          have HN := Down_any p k s w9 h1' hs
          rw [HDN.out] at HN
          go_wp2_with fail
          refine (HN).mono ?_
          rintro e w8 ⟨rfl, rfl⟩
          go_wp2
          all_goals
            go_roundw
            case rel => exact ⟨j + 1, k, s, ar, be, by simp [*], rfl, by go_num, by omega, h1', hst.out, hm⟩
            case measure => simp [intOf]; omega
        · obtain rfl : s = 4 := by have := HDN.out; simpa using this
          have HW := fun v h => Start_at p k 4 0 1 v h hs rfl rfl
          go_wp2_with fail
          refine (HW _ h1).mono ?_
          rintro e w5 ⟨rfl, h1', hm5⟩
          replace hm := hm.trans hm5 (V := fun _ => False) (fun _ _ h => h) (fun i hi hh => by omega)
          clear hm5 h1 c0 c1 c2
          obtain ⟨c0, c1, c2⟩ := HC.out _ hm
          go_wp2_with fail
          refine (Read_any p k 1 _ h1' In1).mono ?_
          rintro e w9 ⟨rfl, rfl⟩
          go_wp2_with fail
          refine (Down_any p k 1 _ h1' In1).mono ?_
          rintro e w8 ⟨rfl, rfl⟩
          go_wp2
          go_roundw
          case rel => exact ⟨j + 1, k, 1, false, be, rfl, rfl, by go_num, by omega, h1', .inl ⟨rfl, rfl⟩, hm⟩
          case measure => simp [intOf]; omega
    · go_wp2
      go_ret
      exact ⟨rfl, hm⟩
namespace cellRises
open Go.ChangeShapes Go.WideShapes Go.ChangeAt Go.RowKit
set_option maxRecDepth 100000 in
theorem lifted (os : Os) (started : os.Started) (H : Type) (enc : TypeId × Value → H) :
    ReturnsInHanded {} Try.checked os 4 .any (Rows.cellRisesSpec.pre6 enc Try.prog Try.f4 Rows.cellRisesRow.domain false) (Rows.cellRisesSpec.post enc Try.prog Try.f4 false true false false) := by
  refine returnsInHanded_of_change_sized (C := Try.checked) own started (by kernel_rfl) Try.func4
    (ChangeSpec.witness6 (enc := enc) (C := Try.checked) false ⟨#[], #[.slice none 0 0], []⟩ 8 (by kernel_rfl) (by kernel_rfl) (by kernel_rfl) (by kernel_rfl)) ?_
  intro W base args ds gs before hval0 hW hcnd hsz0 _
  have hval : ∀ (j : Nat) t v, Try.f4.params[j]? = some t → args[j]? = some v → Value.okWide Try.prog W .any base t v := hval0
  have hsz : (DataW.weightsEach Try.prog (Try.f4.params.toList ++ Rows.cellRisesSpec.plain.varTypes Try.prog) (ds ++ gs)).all (· ≤ reachBytes) = true := hsz0
  have hW' := hW
  obtain ⟨p, q, hA0, hV, rfl, hfz, hnd⟩ := hW
  have hA : DataW.TrodAll enc Try.prog W 0 (fun _ => true) true Try.f4.params.toList args.toList ds p := hA0
  rw [Try.params4] at hA hval hsz
  obtain ⟨v0, vs0, d0, ds0, p0, q0, hargs, rfl, rfl, h0, r0⟩ := trodAll_cons hA
  obtain ⟨rfl, rfl, rfl⟩ := trodAll_nil r0
  obtain rfl : args = #[v0] := by cases args; simp_all
  obtain ⟨rfl, rfl⟩ := trodVars_none hV
  have k0 := h0
  have lt0 : ∀ x ∈ p0, x.block < W.heap.size := by obtain ⟨m, hm⟩ := k0; exact DataW.trod_lt m _ _ _ hm
  obtain ⟨dl, hdeeds⟩ := open_deeds h0 (okWide_slice Try.underlying22 (hval 0 22 v0 rfl rfl))
  clear hA0 hval0
  refine (rises_walk v0 dl W hdeeds).mono fun e W' ⟨he, hm⟩ => ?_
  subst he
  have bel : Below W.heap.size W W' := hm.below _ (Nat.le_refl _) (fun _ h => h.elim)
  exact ⟨_, rfl, _, _, _, [], _, [], hW', trodAll_mk1 (shut_bool Try.underlying4 _), (trodAll_cons_mk (Below.trod laidOut (by kernel_rfl) (of_decide_eq_true (by kernel_rfl)) k0 bel lt0) trodAll_mk0), rfl, bel.frame _, fun h => by cases h⟩

theorem over : Rows.cellRisesRow.holds Try.pinned (OpenSpec.ofChange Rows.cellRisesSpec) :=
  OpenClaim.holds_of_wide 4 Try.f4 rfl rfl rfl rfl rfl rfl rfl ⟨rfl, rfl, rfl, rfl, rfl⟩ rfl rfl rfl rfl rfl (by kernel_rfl) Try.func4 (by kernel_rfl)
    (of_decide_eq_true (by kernel_rfl)) (by unfold Func.isWrapper; first | (rw [if_pos (by decide +kernel)]; kernel_rfl) | (rw [if_neg (by decide +kernel)]; exact ⟨rfl, rfl⟩))
    (fun os started H enc _ => lifted os started H enc)
end cellRises
theorem cellRises_holds : Rows.CellRisesSaid := cellRises.over
end Go.Proofs.Ytkpocogobcefpaa
