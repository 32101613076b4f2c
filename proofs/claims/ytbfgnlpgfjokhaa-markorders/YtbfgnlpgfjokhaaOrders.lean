/- MarkOrders: checks and comparisons answer as the chapter says, of all keys. No conditions. -/
import Derived.Test.YtbfgnlpgfjokhaaWo
import Derived.Test.YtbfgnlpgfjokhaaEn
namespace Go.Proofs.Ytbfgnlpgfjokhaa
open Go.RowKit
set_option maxRecDepth 100000 in
set_option maxHeartbeats 16000000 in
theorem walkOrders (s q r n s' q' r' n' : Int) (w : World) :
    Calls Try.prog 3 #[.agg #[.int .i64 s, .int .i64 q, .int .i64 r, .int .i64 n], .agg #[.int .i64 s', .int .i64 q', .int .i64 r', .int .i64 n']] w fun e w' => e = .returned (.bool true) ∧ Mod (fun _ => False) w w' := by
  have HW := works
  have H1 := Rings
  have H2 := RRings
  have H3 := Keys
  have H4 := RKeys
  have H5 := CheckRing
  have H6 := RCheckRing
  have H7 := Check
  have H8 := RCheck
  generalize ks = f at *
  generalize rg = g at *
  generalize cr = h at *
  generalize ck = j at *
  go_enter Try.func3, Try.ntmps3
  go_wp2_with (fail)
  have hm : Mod (fun _ => False) ((w.alloc (.cells #[.int .i64 s, .int .i64 q, .int .i64 r, .int .i64 n] 25)).alloc (.cells #[.int .i64 s', .int .i64 q', .int .i64 r', .int .i64 n'] 25)) ((w.alloc (.cells #[.int .i64 s, .int .i64 q, .int .i64 r, .int .i64 n] 25)).alloc (.cells #[.int .i64 s', .int .i64 q', .int .i64 r', .int .i64 n'] 25)) := Mod.refl _ _
  have a0 : ((w.alloc (.cells #[.int .i64 s, .int .i64 q, .int .i64 r, .int .i64 n] 25)).alloc (.cells #[.int .i64 s', .int .i64 q', .int .i64 r', .int .i64 n'] 25)).cell? ⟨w.heap.size, 0, none⟩ = some (.int .i64 s) := hm.cell (by simp [go_sem]) (fun h => h)
  have a1 : ((w.alloc (.cells #[.int .i64 s, .int .i64 q, .int .i64 r, .int .i64 n] 25)).alloc (.cells #[.int .i64 s', .int .i64 q', .int .i64 r', .int .i64 n'] 25)).cell? ⟨w.heap.size, 1, none⟩ = some (.int .i64 q) := hm.cell (by simp [go_sem]) (fun h => h)
  have a2 : ((w.alloc (.cells #[.int .i64 s, .int .i64 q, .int .i64 r, .int .i64 n] 25)).alloc (.cells #[.int .i64 s', .int .i64 q', .int .i64 r', .int .i64 n'] 25)).cell? ⟨w.heap.size, 2, none⟩ = some (.int .i64 r) := hm.cell (by simp [go_sem]) (fun h => h)
  have a3 : ((w.alloc (.cells #[.int .i64 s, .int .i64 q, .int .i64 r, .int .i64 n] 25)).alloc (.cells #[.int .i64 s', .int .i64 q', .int .i64 r', .int .i64 n'] 25)).cell? ⟨w.heap.size, 3, none⟩ = some (.int .i64 n) := hm.cell (by simp [go_sem]) (fun h => h)
  replace hm := hm.drew
  go_region_held3 (fun y => y.cell? ⟨w.heap.size, 0, none⟩ = some (.int .i64 s) ∧ y.cell? ⟨w.heap.size, 1, none⟩ = some (.int .i64 q) ∧ y.cell? ⟨w.heap.size, 2, none⟩ = some (.int .i64 r) ∧ y.cell? ⟨w.heap.size, 3, none⟩ = some (.int .i64 n)) (first | exact ⟨a0, a1, a2, a3⟩ | go_keep)
    (first | (go_at_call 9; refine (H5 _ _ _).mono ?_; rintro e w2 ⟨rfl, hm2⟩; replace a0 := hm2.cell a0 (fun h => h); replace a1 := hm2.cell a1 (fun h => h); replace a2 := hm2.cell a2 (fun h => h); replace a3 := hm2.cell a3 (fun h => h); replace hm := hm.and hm2; clear hm2) | (go_at_call 10; refine (H6 _ _ _).mono ?_; rintro e w2 ⟨rfl, hm2⟩; replace a0 := hm2.cell a0 (fun h => h); replace a1 := hm2.cell a1 (fun h => h); replace a2 := hm2.cell a2 (fun h => h); replace a3 := hm2.cell a3 (fun h => h); replace hm := hm.and hm2; clear hm2) | (go_at_call 11; refine (H7 _ _ _ _ _).mono ?_; rintro e w2 ⟨rfl, hm2⟩; replace a0 := hm2.cell a0 (fun h => h); replace a1 := hm2.cell a1 (fun h => h); replace a2 := hm2.cell a2 (fun h => h); replace a3 := hm2.cell a3 (fun h => h); replace hm := hm.and hm2; clear hm2) | (go_at_call 12; refine (H8 _ _ _ _ _).mono ?_; rintro e w2 ⟨rfl, hm2⟩; replace a0 := hm2.cell a0 (fun h => h); replace a1 := hm2.cell a1 (fun h => h); replace a2 := hm2.cell a2 (fun h => h); replace a3 := hm2.cell a3 (fun h => h); replace hm := hm.and hm2; clear hm2))
  clear H5 H6 H7 H8 a0 a1 a2 a3
  go_wp2
  generalize hw0 : (w.alloc (.cells #[.int .i64 s, .int .i64 q, .int .i64 r, .int .i64 n] 25)).alloc (.cells #[.int .i64 s', .int .i64 q', .int .i64 r', .int .i64 n'] 25) = w0 at hm
  have HM0 : Hid (Mod (fun _ => False) w w0) := by rw [← hw0]; exact ((Mod.refl _ _).alloc _).alloc _
  have Aa0 : Hid (w0.cell? ⟨w.heap.size, 0, none⟩ = some (.int .i64 s)) := by rw [← hw0]; simp [Hid, go_sem]
  have Aa1 : Hid (w0.cell? ⟨w.heap.size, 1, none⟩ = some (.int .i64 q)) := by rw [← hw0]; simp [Hid, go_sem]
  have Aa2 : Hid (w0.cell? ⟨w.heap.size, 2, none⟩ = some (.int .i64 r)) := by rw [← hw0]; simp [Hid, go_sem]
  have Aa3 : Hid (w0.cell? ⟨w.heap.size, 3, none⟩ = some (.int .i64 n)) := by rw [← hw0]; simp [Hid, go_sem]
  have Ab0 : Hid (w0.cell? ⟨w.heap.size + 1, 0, none⟩ = some (.int .i64 s')) := by rw [← hw0]; simp [Hid, go_sem]
  have Ab1 : Hid (w0.cell? ⟨w.heap.size + 1, 1, none⟩ = some (.int .i64 q')) := by rw [← hw0]; simp [Hid, go_sem]
  have Ab2 : Hid (w0.cell? ⟨w.heap.size + 1, 2, none⟩ = some (.int .i64 r')) := by rw [← hw0]; simp [Hid, go_sem]
  have Ab3 : Hid (w0.cell? ⟨w.heap.size + 1, 3, none⟩ = some (.int .i64 n')) := by rw [← hw0]; simp [Hid, go_sem]
  clear hw0
  go_loopw [5] (fun i wr => ∃ k : Nat, i = .int .i64 k ∧ k ≤ 8 ∧ Mod (fun _ => False) w0 wr) (fun i _ => 8 - (intOf i).toNat)
  case atStart => exact ⟨0, rfl, by omega, hm⟩
  case round =>
    clear hm
    obtain ⟨k, rfl, hk, hm⟩ := hrel
    have a0 := hm.cell Aa0.out (fun h => h)
    have a1 := hm.cell Aa1.out (fun h => h)
    have a2 := hm.cell Aa2.out (fun h => h)
    have a3 := hm.cell Aa3.out (fun h => h)
    have b0 := hm.cell Ab0.out (fun h => h)
    have b1 := hm.cell Ab1.out (fun h => h)
    have b2 := hm.cell Ab2.out (fun h => h)
    have b3 := hm.cell Ab3.out (fun h => h)
    rcases (show k = 0 ∨ k = 1 ∨ k = 2 ∨ k = 3 ∨ k = 4 ∨ k = 5 ∨ k = 6 ∨ k = 7 ∨ k = 8 by omega) with rfl | rfl | rfl | rfl | rfl | rfl | rfl | rfl | rfl
    · replace a0 := fun o => ((Mod.refl (fun _ => False) wr).alloc o).cell a0 (fun h => h)
      replace a1 := fun o => ((Mod.refl (fun _ => False) wr).alloc o).cell a1 (fun h => h)
      replace a2 := fun o => ((Mod.refl (fun _ => False) wr).alloc o).cell a2 (fun h => h)
      replace a3 := fun o => ((Mod.refl (fun _ => False) wr).alloc o).cell a3 (fun h => h)
      go_wp2_with (fail)
      have c0 : (wr.alloc (.cells #[.int .i64 s', .int .i64 q', .int .i64 r', .int .i64 n'] 25)).cell? ⟨wr.heap.size, 0, none⟩ = some (.int .i64 s') := by simp [go_sem]
      have c1 : (wr.alloc (.cells #[.int .i64 s', .int .i64 q', .int .i64 r', .int .i64 n'] 25)).cell? ⟨wr.heap.size, 1, none⟩ = some (.int .i64 q') := by simp [go_sem]
      have c2 : (wr.alloc (.cells #[.int .i64 s', .int .i64 q', .int .i64 r', .int .i64 n'] 25)).cell? ⟨wr.heap.size, 2, none⟩ = some (.int .i64 r') := by simp [go_sem]
      have c3 : (wr.alloc (.cells #[.int .i64 s', .int .i64 q', .int .i64 r', .int .i64 n'] 25)).cell? ⟨wr.heap.size, 3, none⟩ = some (.int .i64 n') := by simp [go_sem]
      replace a0 := a0 (.cells #[.int .i64 s', .int .i64 q', .int .i64 r', .int .i64 n'] 25)
      replace a1 := a1 (.cells #[.int .i64 s', .int .i64 q', .int .i64 r', .int .i64 n'] 25)
      replace a2 := a2 (.cells #[.int .i64 s', .int .i64 q', .int .i64 r', .int .i64 n'] 25)
      replace a3 := a3 (.cells #[.int .i64 s', .int .i64 q', .int .i64 r', .int .i64 n'] 25)
      replace hm := (hm.alloc (.cells #[.int .i64 s', .int .i64 q', .int .i64 r', .int .i64 n'] 25)).drew
      go_region_held3 (fun y => y.cell? ⟨w.heap.size, 0, none⟩ = some (.int .i64 s) ∧ y.cell? ⟨w.heap.size, 1, none⟩ = some (.int .i64 q) ∧ y.cell? ⟨w.heap.size, 2, none⟩ = some (.int .i64 r) ∧ y.cell? ⟨w.heap.size, 3, none⟩ = some (.int .i64 n) ∧ y.cell? ⟨wr.heap.size, 0, none⟩ = some (.int .i64 s') ∧ y.cell? ⟨wr.heap.size, 1, none⟩ = some (.int .i64 q') ∧ y.cell? ⟨wr.heap.size, 2, none⟩ = some (.int .i64 r') ∧ y.cell? ⟨wr.heap.size, 3, none⟩ = some (.int .i64 n')) (first | exact ⟨a0, a1, a2, a3, c0, c1, c2, c3⟩ | go_keep)
        (first | (go_at_call 13; refine (H1 _ _ _ _ _).mono ?_; rintro e w2 ⟨rfl, hm2⟩; replace a0 := hm2.cell a0 (fun h => h); replace a1 := hm2.cell a1 (fun h => h); replace a2 := hm2.cell a2 (fun h => h); replace a3 := hm2.cell a3 (fun h => h); replace c0 := hm2.cell c0 (fun h => h); replace c1 := hm2.cell c1 (fun h => h); replace c2 := hm2.cell c2 (fun h => h); replace c3 := hm2.cell c3 (fun h => h); replace hm := hm.and hm2; clear hm2) | (go_at_call 14; refine (H2 _ _ _ _ _).mono ?_; rintro e w2 ⟨rfl, hm2⟩; replace a0 := hm2.cell a0 (fun h => h); replace a1 := hm2.cell a1 (fun h => h); replace a2 := hm2.cell a2 (fun h => h); replace a3 := hm2.cell a3 (fun h => h); replace c0 := hm2.cell c0 (fun h => h); replace c1 := hm2.cell c1 (fun h => h); replace c2 := hm2.cell c2 (fun h => h); replace c3 := hm2.cell c3 (fun h => h); replace hm := hm.and hm2; clear hm2) | (go_at_call 15; refine (H3 _ _ _ _ _ _ _ _ _).mono ?_; rintro e w2 ⟨rfl, hm2⟩; replace a0 := hm2.cell a0 (fun h => h); replace a1 := hm2.cell a1 (fun h => h); replace a2 := hm2.cell a2 (fun h => h); replace a3 := hm2.cell a3 (fun h => h); replace c0 := hm2.cell c0 (fun h => h); replace c1 := hm2.cell c1 (fun h => h); replace c2 := hm2.cell c2 (fun h => h); replace c3 := hm2.cell c3 (fun h => h); replace hm := hm.and hm2; clear hm2) | (go_at_call 16; refine (H4 _ _ _ _ _ _ _ _ _).mono ?_; rintro e w2 ⟨rfl, hm2⟩; replace a0 := hm2.cell a0 (fun h => h); replace a1 := hm2.cell a1 (fun h => h); replace a2 := hm2.cell a2 (fun h => h); replace a3 := hm2.cell a3 (fun h => h); replace c0 := hm2.cell c0 (fun h => h); replace c1 := hm2.cell c1 (fun h => h); replace c2 := hm2.cell c2 (fun h => h); replace c3 := hm2.cell c3 (fun h => h); replace hm := hm.and hm2; clear hm2))
      go_wp2
      go_roundw
      case rel => exact ⟨1, by go_num, by omega, hm⟩
      case measure => simp [intOf]
    · replace a0 := fun o => ((Mod.refl (fun _ => False) wr).alloc o).cell a0 (fun h => h)
      replace a1 := fun o => ((Mod.refl (fun _ => False) wr).alloc o).cell a1 (fun h => h)
      replace a2 := fun o => ((Mod.refl (fun _ => False) wr).alloc o).cell a2 (fun h => h)
      replace a3 := fun o => ((Mod.refl (fun _ => False) wr).alloc o).cell a3 (fun h => h)
      go_wp2_with (fail)
      have c0 : (wr.alloc (.cells #[.int .i64 s, .int .i64 q', .int .i64 r', .int .i64 n'] 25)).cell? ⟨wr.heap.size, 0, none⟩ = some (.int .i64 s) := by simp [go_sem]
      have c1 : (wr.alloc (.cells #[.int .i64 s, .int .i64 q', .int .i64 r', .int .i64 n'] 25)).cell? ⟨wr.heap.size, 1, none⟩ = some (.int .i64 q') := by simp [go_sem]
      have c2 : (wr.alloc (.cells #[.int .i64 s, .int .i64 q', .int .i64 r', .int .i64 n'] 25)).cell? ⟨wr.heap.size, 2, none⟩ = some (.int .i64 r') := by simp [go_sem]
      have c3 : (wr.alloc (.cells #[.int .i64 s, .int .i64 q', .int .i64 r', .int .i64 n'] 25)).cell? ⟨wr.heap.size, 3, none⟩ = some (.int .i64 n') := by simp [go_sem]
      replace a0 := a0 (.cells #[.int .i64 s, .int .i64 q', .int .i64 r', .int .i64 n'] 25)
      replace a1 := a1 (.cells #[.int .i64 s, .int .i64 q', .int .i64 r', .int .i64 n'] 25)
      replace a2 := a2 (.cells #[.int .i64 s, .int .i64 q', .int .i64 r', .int .i64 n'] 25)
      replace a3 := a3 (.cells #[.int .i64 s, .int .i64 q', .int .i64 r', .int .i64 n'] 25)
      replace hm := (hm.alloc (.cells #[.int .i64 s, .int .i64 q', .int .i64 r', .int .i64 n'] 25)).drew
      go_region_held3 (fun y => y.cell? ⟨w.heap.size, 0, none⟩ = some (.int .i64 s) ∧ y.cell? ⟨w.heap.size, 1, none⟩ = some (.int .i64 q) ∧ y.cell? ⟨w.heap.size, 2, none⟩ = some (.int .i64 r) ∧ y.cell? ⟨w.heap.size, 3, none⟩ = some (.int .i64 n) ∧ y.cell? ⟨wr.heap.size, 0, none⟩ = some (.int .i64 s) ∧ y.cell? ⟨wr.heap.size, 1, none⟩ = some (.int .i64 q') ∧ y.cell? ⟨wr.heap.size, 2, none⟩ = some (.int .i64 r') ∧ y.cell? ⟨wr.heap.size, 3, none⟩ = some (.int .i64 n')) (first | exact ⟨a0, a1, a2, a3, c0, c1, c2, c3⟩ | go_keep)
        (first | (go_at_call 13; refine (H1 _ _ _ _ _).mono ?_; rintro e w2 ⟨rfl, hm2⟩; replace a0 := hm2.cell a0 (fun h => h); replace a1 := hm2.cell a1 (fun h => h); replace a2 := hm2.cell a2 (fun h => h); replace a3 := hm2.cell a3 (fun h => h); replace c0 := hm2.cell c0 (fun h => h); replace c1 := hm2.cell c1 (fun h => h); replace c2 := hm2.cell c2 (fun h => h); replace c3 := hm2.cell c3 (fun h => h); replace hm := hm.and hm2; clear hm2) | (go_at_call 14; refine (H2 _ _ _ _ _).mono ?_; rintro e w2 ⟨rfl, hm2⟩; replace a0 := hm2.cell a0 (fun h => h); replace a1 := hm2.cell a1 (fun h => h); replace a2 := hm2.cell a2 (fun h => h); replace a3 := hm2.cell a3 (fun h => h); replace c0 := hm2.cell c0 (fun h => h); replace c1 := hm2.cell c1 (fun h => h); replace c2 := hm2.cell c2 (fun h => h); replace c3 := hm2.cell c3 (fun h => h); replace hm := hm.and hm2; clear hm2) | (go_at_call 15; refine (H3 _ _ _ _ _ _ _ _ _).mono ?_; rintro e w2 ⟨rfl, hm2⟩; replace a0 := hm2.cell a0 (fun h => h); replace a1 := hm2.cell a1 (fun h => h); replace a2 := hm2.cell a2 (fun h => h); replace a3 := hm2.cell a3 (fun h => h); replace c0 := hm2.cell c0 (fun h => h); replace c1 := hm2.cell c1 (fun h => h); replace c2 := hm2.cell c2 (fun h => h); replace c3 := hm2.cell c3 (fun h => h); replace hm := hm.and hm2; clear hm2) | (go_at_call 16; refine (H4 _ _ _ _ _ _ _ _ _).mono ?_; rintro e w2 ⟨rfl, hm2⟩; replace a0 := hm2.cell a0 (fun h => h); replace a1 := hm2.cell a1 (fun h => h); replace a2 := hm2.cell a2 (fun h => h); replace a3 := hm2.cell a3 (fun h => h); replace c0 := hm2.cell c0 (fun h => h); replace c1 := hm2.cell c1 (fun h => h); replace c2 := hm2.cell c2 (fun h => h); replace c3 := hm2.cell c3 (fun h => h); replace hm := hm.and hm2; clear hm2))
      go_wp2
      go_roundw
      case rel => exact ⟨2, by go_num, by omega, hm⟩
      case measure => simp [intOf]
    · replace a0 := fun o => ((Mod.refl (fun _ => False) wr).alloc o).cell a0 (fun h => h)
      replace a1 := fun o => ((Mod.refl (fun _ => False) wr).alloc o).cell a1 (fun h => h)
      replace a2 := fun o => ((Mod.refl (fun _ => False) wr).alloc o).cell a2 (fun h => h)
      replace a3 := fun o => ((Mod.refl (fun _ => False) wr).alloc o).cell a3 (fun h => h)
      go_wp2_with (fail)
      have c0 : (wr.alloc (.cells #[.int .i64 s', .int .i64 q, .int .i64 r', .int .i64 n'] 25)).cell? ⟨wr.heap.size, 0, none⟩ = some (.int .i64 s') := by simp [go_sem]
      have c1 : (wr.alloc (.cells #[.int .i64 s', .int .i64 q, .int .i64 r', .int .i64 n'] 25)).cell? ⟨wr.heap.size, 1, none⟩ = some (.int .i64 q) := by simp [go_sem]
      have c2 : (wr.alloc (.cells #[.int .i64 s', .int .i64 q, .int .i64 r', .int .i64 n'] 25)).cell? ⟨wr.heap.size, 2, none⟩ = some (.int .i64 r') := by simp [go_sem]
      have c3 : (wr.alloc (.cells #[.int .i64 s', .int .i64 q, .int .i64 r', .int .i64 n'] 25)).cell? ⟨wr.heap.size, 3, none⟩ = some (.int .i64 n') := by simp [go_sem]
      replace a0 := a0 (.cells #[.int .i64 s', .int .i64 q, .int .i64 r', .int .i64 n'] 25)
      replace a1 := a1 (.cells #[.int .i64 s', .int .i64 q, .int .i64 r', .int .i64 n'] 25)
      replace a2 := a2 (.cells #[.int .i64 s', .int .i64 q, .int .i64 r', .int .i64 n'] 25)
      replace a3 := a3 (.cells #[.int .i64 s', .int .i64 q, .int .i64 r', .int .i64 n'] 25)
      replace hm := (hm.alloc (.cells #[.int .i64 s', .int .i64 q, .int .i64 r', .int .i64 n'] 25)).drew
      go_region_held3 (fun y => y.cell? ⟨w.heap.size, 0, none⟩ = some (.int .i64 s) ∧ y.cell? ⟨w.heap.size, 1, none⟩ = some (.int .i64 q) ∧ y.cell? ⟨w.heap.size, 2, none⟩ = some (.int .i64 r) ∧ y.cell? ⟨w.heap.size, 3, none⟩ = some (.int .i64 n) ∧ y.cell? ⟨wr.heap.size, 0, none⟩ = some (.int .i64 s') ∧ y.cell? ⟨wr.heap.size, 1, none⟩ = some (.int .i64 q) ∧ y.cell? ⟨wr.heap.size, 2, none⟩ = some (.int .i64 r') ∧ y.cell? ⟨wr.heap.size, 3, none⟩ = some (.int .i64 n')) (first | exact ⟨a0, a1, a2, a3, c0, c1, c2, c3⟩ | go_keep)
        (first | (go_at_call 13; refine (H1 _ _ _ _ _).mono ?_; rintro e w2 ⟨rfl, hm2⟩; replace a0 := hm2.cell a0 (fun h => h); replace a1 := hm2.cell a1 (fun h => h); replace a2 := hm2.cell a2 (fun h => h); replace a3 := hm2.cell a3 (fun h => h); replace c0 := hm2.cell c0 (fun h => h); replace c1 := hm2.cell c1 (fun h => h); replace c2 := hm2.cell c2 (fun h => h); replace c3 := hm2.cell c3 (fun h => h); replace hm := hm.and hm2; clear hm2) | (go_at_call 14; refine (H2 _ _ _ _ _).mono ?_; rintro e w2 ⟨rfl, hm2⟩; replace a0 := hm2.cell a0 (fun h => h); replace a1 := hm2.cell a1 (fun h => h); replace a2 := hm2.cell a2 (fun h => h); replace a3 := hm2.cell a3 (fun h => h); replace c0 := hm2.cell c0 (fun h => h); replace c1 := hm2.cell c1 (fun h => h); replace c2 := hm2.cell c2 (fun h => h); replace c3 := hm2.cell c3 (fun h => h); replace hm := hm.and hm2; clear hm2) | (go_at_call 15; refine (H3 _ _ _ _ _ _ _ _ _).mono ?_; rintro e w2 ⟨rfl, hm2⟩; replace a0 := hm2.cell a0 (fun h => h); replace a1 := hm2.cell a1 (fun h => h); replace a2 := hm2.cell a2 (fun h => h); replace a3 := hm2.cell a3 (fun h => h); replace c0 := hm2.cell c0 (fun h => h); replace c1 := hm2.cell c1 (fun h => h); replace c2 := hm2.cell c2 (fun h => h); replace c3 := hm2.cell c3 (fun h => h); replace hm := hm.and hm2; clear hm2) | (go_at_call 16; refine (H4 _ _ _ _ _ _ _ _ _).mono ?_; rintro e w2 ⟨rfl, hm2⟩; replace a0 := hm2.cell a0 (fun h => h); replace a1 := hm2.cell a1 (fun h => h); replace a2 := hm2.cell a2 (fun h => h); replace a3 := hm2.cell a3 (fun h => h); replace c0 := hm2.cell c0 (fun h => h); replace c1 := hm2.cell c1 (fun h => h); replace c2 := hm2.cell c2 (fun h => h); replace c3 := hm2.cell c3 (fun h => h); replace hm := hm.and hm2; clear hm2))
      go_wp2
      go_roundw
      case rel => exact ⟨3, by go_num, by omega, hm⟩
      case measure => simp [intOf]
    · replace a0 := fun o => ((Mod.refl (fun _ => False) wr).alloc o).cell a0 (fun h => h)
      replace a1 := fun o => ((Mod.refl (fun _ => False) wr).alloc o).cell a1 (fun h => h)
      replace a2 := fun o => ((Mod.refl (fun _ => False) wr).alloc o).cell a2 (fun h => h)
      replace a3 := fun o => ((Mod.refl (fun _ => False) wr).alloc o).cell a3 (fun h => h)
      go_wp2_with (fail)
      have c0 : (wr.alloc (.cells #[.int .i64 s, .int .i64 q, .int .i64 r', .int .i64 n'] 25)).cell? ⟨wr.heap.size, 0, none⟩ = some (.int .i64 s) := by simp [go_sem]
      have c1 : (wr.alloc (.cells #[.int .i64 s, .int .i64 q, .int .i64 r', .int .i64 n'] 25)).cell? ⟨wr.heap.size, 1, none⟩ = some (.int .i64 q) := by simp [go_sem]
      have c2 : (wr.alloc (.cells #[.int .i64 s, .int .i64 q, .int .i64 r', .int .i64 n'] 25)).cell? ⟨wr.heap.size, 2, none⟩ = some (.int .i64 r') := by simp [go_sem]
      have c3 : (wr.alloc (.cells #[.int .i64 s, .int .i64 q, .int .i64 r', .int .i64 n'] 25)).cell? ⟨wr.heap.size, 3, none⟩ = some (.int .i64 n') := by simp [go_sem]
      replace a0 := a0 (.cells #[.int .i64 s, .int .i64 q, .int .i64 r', .int .i64 n'] 25)
      replace a1 := a1 (.cells #[.int .i64 s, .int .i64 q, .int .i64 r', .int .i64 n'] 25)
      replace a2 := a2 (.cells #[.int .i64 s, .int .i64 q, .int .i64 r', .int .i64 n'] 25)
      replace a3 := a3 (.cells #[.int .i64 s, .int .i64 q, .int .i64 r', .int .i64 n'] 25)
      replace hm := (hm.alloc (.cells #[.int .i64 s, .int .i64 q, .int .i64 r', .int .i64 n'] 25)).drew
      go_region_held3 (fun y => y.cell? ⟨w.heap.size, 0, none⟩ = some (.int .i64 s) ∧ y.cell? ⟨w.heap.size, 1, none⟩ = some (.int .i64 q) ∧ y.cell? ⟨w.heap.size, 2, none⟩ = some (.int .i64 r) ∧ y.cell? ⟨w.heap.size, 3, none⟩ = some (.int .i64 n) ∧ y.cell? ⟨wr.heap.size, 0, none⟩ = some (.int .i64 s) ∧ y.cell? ⟨wr.heap.size, 1, none⟩ = some (.int .i64 q) ∧ y.cell? ⟨wr.heap.size, 2, none⟩ = some (.int .i64 r') ∧ y.cell? ⟨wr.heap.size, 3, none⟩ = some (.int .i64 n')) (first | exact ⟨a0, a1, a2, a3, c0, c1, c2, c3⟩ | go_keep)
        (first | (go_at_call 13; refine (H1 _ _ _ _ _).mono ?_; rintro e w2 ⟨rfl, hm2⟩; replace a0 := hm2.cell a0 (fun h => h); replace a1 := hm2.cell a1 (fun h => h); replace a2 := hm2.cell a2 (fun h => h); replace a3 := hm2.cell a3 (fun h => h); replace c0 := hm2.cell c0 (fun h => h); replace c1 := hm2.cell c1 (fun h => h); replace c2 := hm2.cell c2 (fun h => h); replace c3 := hm2.cell c3 (fun h => h); replace hm := hm.and hm2; clear hm2) | (go_at_call 14; refine (H2 _ _ _ _ _).mono ?_; rintro e w2 ⟨rfl, hm2⟩; replace a0 := hm2.cell a0 (fun h => h); replace a1 := hm2.cell a1 (fun h => h); replace a2 := hm2.cell a2 (fun h => h); replace a3 := hm2.cell a3 (fun h => h); replace c0 := hm2.cell c0 (fun h => h); replace c1 := hm2.cell c1 (fun h => h); replace c2 := hm2.cell c2 (fun h => h); replace c3 := hm2.cell c3 (fun h => h); replace hm := hm.and hm2; clear hm2) | (go_at_call 15; refine (H3 _ _ _ _ _ _ _ _ _).mono ?_; rintro e w2 ⟨rfl, hm2⟩; replace a0 := hm2.cell a0 (fun h => h); replace a1 := hm2.cell a1 (fun h => h); replace a2 := hm2.cell a2 (fun h => h); replace a3 := hm2.cell a3 (fun h => h); replace c0 := hm2.cell c0 (fun h => h); replace c1 := hm2.cell c1 (fun h => h); replace c2 := hm2.cell c2 (fun h => h); replace c3 := hm2.cell c3 (fun h => h); replace hm := hm.and hm2; clear hm2) | (go_at_call 16; refine (H4 _ _ _ _ _ _ _ _ _).mono ?_; rintro e w2 ⟨rfl, hm2⟩; replace a0 := hm2.cell a0 (fun h => h); replace a1 := hm2.cell a1 (fun h => h); replace a2 := hm2.cell a2 (fun h => h); replace a3 := hm2.cell a3 (fun h => h); replace c0 := hm2.cell c0 (fun h => h); replace c1 := hm2.cell c1 (fun h => h); replace c2 := hm2.cell c2 (fun h => h); replace c3 := hm2.cell c3 (fun h => h); replace hm := hm.and hm2; clear hm2))
      go_wp2
      go_roundw
      case rel => exact ⟨4, by go_num, by omega, hm⟩
      case measure => simp [intOf]
    · replace a0 := fun o => ((Mod.refl (fun _ => False) wr).alloc o).cell a0 (fun h => h)
      replace a1 := fun o => ((Mod.refl (fun _ => False) wr).alloc o).cell a1 (fun h => h)
      replace a2 := fun o => ((Mod.refl (fun _ => False) wr).alloc o).cell a2 (fun h => h)
      replace a3 := fun o => ((Mod.refl (fun _ => False) wr).alloc o).cell a3 (fun h => h)
      go_wp2_with (fail)
      have c0 : (wr.alloc (.cells #[.int .i64 s', .int .i64 q', .int .i64 r, .int .i64 n'] 25)).cell? ⟨wr.heap.size, 0, none⟩ = some (.int .i64 s') := by simp [go_sem]
      have c1 : (wr.alloc (.cells #[.int .i64 s', .int .i64 q', .int .i64 r, .int .i64 n'] 25)).cell? ⟨wr.heap.size, 1, none⟩ = some (.int .i64 q') := by simp [go_sem]
      have c2 : (wr.alloc (.cells #[.int .i64 s', .int .i64 q', .int .i64 r, .int .i64 n'] 25)).cell? ⟨wr.heap.size, 2, none⟩ = some (.int .i64 r) := by simp [go_sem]
      have c3 : (wr.alloc (.cells #[.int .i64 s', .int .i64 q', .int .i64 r, .int .i64 n'] 25)).cell? ⟨wr.heap.size, 3, none⟩ = some (.int .i64 n') := by simp [go_sem]
      replace a0 := a0 (.cells #[.int .i64 s', .int .i64 q', .int .i64 r, .int .i64 n'] 25)
      replace a1 := a1 (.cells #[.int .i64 s', .int .i64 q', .int .i64 r, .int .i64 n'] 25)
      replace a2 := a2 (.cells #[.int .i64 s', .int .i64 q', .int .i64 r, .int .i64 n'] 25)
      replace a3 := a3 (.cells #[.int .i64 s', .int .i64 q', .int .i64 r, .int .i64 n'] 25)
      replace hm := (hm.alloc (.cells #[.int .i64 s', .int .i64 q', .int .i64 r, .int .i64 n'] 25)).drew
      go_region_held3 (fun y => y.cell? ⟨w.heap.size, 0, none⟩ = some (.int .i64 s) ∧ y.cell? ⟨w.heap.size, 1, none⟩ = some (.int .i64 q) ∧ y.cell? ⟨w.heap.size, 2, none⟩ = some (.int .i64 r) ∧ y.cell? ⟨w.heap.size, 3, none⟩ = some (.int .i64 n) ∧ y.cell? ⟨wr.heap.size, 0, none⟩ = some (.int .i64 s') ∧ y.cell? ⟨wr.heap.size, 1, none⟩ = some (.int .i64 q') ∧ y.cell? ⟨wr.heap.size, 2, none⟩ = some (.int .i64 r) ∧ y.cell? ⟨wr.heap.size, 3, none⟩ = some (.int .i64 n')) (first | exact ⟨a0, a1, a2, a3, c0, c1, c2, c3⟩ | go_keep)
        (first | (go_at_call 13; refine (H1 _ _ _ _ _).mono ?_; rintro e w2 ⟨rfl, hm2⟩; replace a0 := hm2.cell a0 (fun h => h); replace a1 := hm2.cell a1 (fun h => h); replace a2 := hm2.cell a2 (fun h => h); replace a3 := hm2.cell a3 (fun h => h); replace c0 := hm2.cell c0 (fun h => h); replace c1 := hm2.cell c1 (fun h => h); replace c2 := hm2.cell c2 (fun h => h); replace c3 := hm2.cell c3 (fun h => h); replace hm := hm.and hm2; clear hm2) | (go_at_call 14; refine (H2 _ _ _ _ _).mono ?_; rintro e w2 ⟨rfl, hm2⟩; replace a0 := hm2.cell a0 (fun h => h); replace a1 := hm2.cell a1 (fun h => h); replace a2 := hm2.cell a2 (fun h => h); replace a3 := hm2.cell a3 (fun h => h); replace c0 := hm2.cell c0 (fun h => h); replace c1 := hm2.cell c1 (fun h => h); replace c2 := hm2.cell c2 (fun h => h); replace c3 := hm2.cell c3 (fun h => h); replace hm := hm.and hm2; clear hm2) | (go_at_call 15; refine (H3 _ _ _ _ _ _ _ _ _).mono ?_; rintro e w2 ⟨rfl, hm2⟩; replace a0 := hm2.cell a0 (fun h => h); replace a1 := hm2.cell a1 (fun h => h); replace a2 := hm2.cell a2 (fun h => h); replace a3 := hm2.cell a3 (fun h => h); replace c0 := hm2.cell c0 (fun h => h); replace c1 := hm2.cell c1 (fun h => h); replace c2 := hm2.cell c2 (fun h => h); replace c3 := hm2.cell c3 (fun h => h); replace hm := hm.and hm2; clear hm2) | (go_at_call 16; refine (H4 _ _ _ _ _ _ _ _ _).mono ?_; rintro e w2 ⟨rfl, hm2⟩; replace a0 := hm2.cell a0 (fun h => h); replace a1 := hm2.cell a1 (fun h => h); replace a2 := hm2.cell a2 (fun h => h); replace a3 := hm2.cell a3 (fun h => h); replace c0 := hm2.cell c0 (fun h => h); replace c1 := hm2.cell c1 (fun h => h); replace c2 := hm2.cell c2 (fun h => h); replace c3 := hm2.cell c3 (fun h => h); replace hm := hm.and hm2; clear hm2))
      go_wp2
      go_roundw
      case rel => exact ⟨5, by go_num, by omega, hm⟩
      case measure => simp [intOf]
    · replace a0 := fun o => ((Mod.refl (fun _ => False) wr).alloc o).cell a0 (fun h => h)
      replace a1 := fun o => ((Mod.refl (fun _ => False) wr).alloc o).cell a1 (fun h => h)
      replace a2 := fun o => ((Mod.refl (fun _ => False) wr).alloc o).cell a2 (fun h => h)
      replace a3 := fun o => ((Mod.refl (fun _ => False) wr).alloc o).cell a3 (fun h => h)
      go_wp2_with (fail)
      have c0 : (wr.alloc (.cells #[.int .i64 s, .int .i64 q', .int .i64 r, .int .i64 n'] 25)).cell? ⟨wr.heap.size, 0, none⟩ = some (.int .i64 s) := by simp [go_sem]
      have c1 : (wr.alloc (.cells #[.int .i64 s, .int .i64 q', .int .i64 r, .int .i64 n'] 25)).cell? ⟨wr.heap.size, 1, none⟩ = some (.int .i64 q') := by simp [go_sem]
      have c2 : (wr.alloc (.cells #[.int .i64 s, .int .i64 q', .int .i64 r, .int .i64 n'] 25)).cell? ⟨wr.heap.size, 2, none⟩ = some (.int .i64 r) := by simp [go_sem]
      have c3 : (wr.alloc (.cells #[.int .i64 s, .int .i64 q', .int .i64 r, .int .i64 n'] 25)).cell? ⟨wr.heap.size, 3, none⟩ = some (.int .i64 n') := by simp [go_sem]
      replace a0 := a0 (.cells #[.int .i64 s, .int .i64 q', .int .i64 r, .int .i64 n'] 25)
      replace a1 := a1 (.cells #[.int .i64 s, .int .i64 q', .int .i64 r, .int .i64 n'] 25)
      replace a2 := a2 (.cells #[.int .i64 s, .int .i64 q', .int .i64 r, .int .i64 n'] 25)
      replace a3 := a3 (.cells #[.int .i64 s, .int .i64 q', .int .i64 r, .int .i64 n'] 25)
      replace hm := (hm.alloc (.cells #[.int .i64 s, .int .i64 q', .int .i64 r, .int .i64 n'] 25)).drew
      go_region_held3 (fun y => y.cell? ⟨w.heap.size, 0, none⟩ = some (.int .i64 s) ∧ y.cell? ⟨w.heap.size, 1, none⟩ = some (.int .i64 q) ∧ y.cell? ⟨w.heap.size, 2, none⟩ = some (.int .i64 r) ∧ y.cell? ⟨w.heap.size, 3, none⟩ = some (.int .i64 n) ∧ y.cell? ⟨wr.heap.size, 0, none⟩ = some (.int .i64 s) ∧ y.cell? ⟨wr.heap.size, 1, none⟩ = some (.int .i64 q') ∧ y.cell? ⟨wr.heap.size, 2, none⟩ = some (.int .i64 r) ∧ y.cell? ⟨wr.heap.size, 3, none⟩ = some (.int .i64 n')) (first | exact ⟨a0, a1, a2, a3, c0, c1, c2, c3⟩ | go_keep)
        (first | (go_at_call 13; refine (H1 _ _ _ _ _).mono ?_; rintro e w2 ⟨rfl, hm2⟩; replace a0 := hm2.cell a0 (fun h => h); replace a1 := hm2.cell a1 (fun h => h); replace a2 := hm2.cell a2 (fun h => h); replace a3 := hm2.cell a3 (fun h => h); replace c0 := hm2.cell c0 (fun h => h); replace c1 := hm2.cell c1 (fun h => h); replace c2 := hm2.cell c2 (fun h => h); replace c3 := hm2.cell c3 (fun h => h); replace hm := hm.and hm2; clear hm2) | (go_at_call 14; refine (H2 _ _ _ _ _).mono ?_; rintro e w2 ⟨rfl, hm2⟩; replace a0 := hm2.cell a0 (fun h => h); replace a1 := hm2.cell a1 (fun h => h); replace a2 := hm2.cell a2 (fun h => h); replace a3 := hm2.cell a3 (fun h => h); replace c0 := hm2.cell c0 (fun h => h); replace c1 := hm2.cell c1 (fun h => h); replace c2 := hm2.cell c2 (fun h => h); replace c3 := hm2.cell c3 (fun h => h); replace hm := hm.and hm2; clear hm2) | (go_at_call 15; refine (H3 _ _ _ _ _ _ _ _ _).mono ?_; rintro e w2 ⟨rfl, hm2⟩; replace a0 := hm2.cell a0 (fun h => h); replace a1 := hm2.cell a1 (fun h => h); replace a2 := hm2.cell a2 (fun h => h); replace a3 := hm2.cell a3 (fun h => h); replace c0 := hm2.cell c0 (fun h => h); replace c1 := hm2.cell c1 (fun h => h); replace c2 := hm2.cell c2 (fun h => h); replace c3 := hm2.cell c3 (fun h => h); replace hm := hm.and hm2; clear hm2) | (go_at_call 16; refine (H4 _ _ _ _ _ _ _ _ _).mono ?_; rintro e w2 ⟨rfl, hm2⟩; replace a0 := hm2.cell a0 (fun h => h); replace a1 := hm2.cell a1 (fun h => h); replace a2 := hm2.cell a2 (fun h => h); replace a3 := hm2.cell a3 (fun h => h); replace c0 := hm2.cell c0 (fun h => h); replace c1 := hm2.cell c1 (fun h => h); replace c2 := hm2.cell c2 (fun h => h); replace c3 := hm2.cell c3 (fun h => h); replace hm := hm.and hm2; clear hm2))
      go_wp2
      go_roundw
      case rel => exact ⟨6, by go_num, by omega, hm⟩
      case measure => simp [intOf]
    · replace a0 := fun o => ((Mod.refl (fun _ => False) wr).alloc o).cell a0 (fun h => h)
      replace a1 := fun o => ((Mod.refl (fun _ => False) wr).alloc o).cell a1 (fun h => h)
      replace a2 := fun o => ((Mod.refl (fun _ => False) wr).alloc o).cell a2 (fun h => h)
      replace a3 := fun o => ((Mod.refl (fun _ => False) wr).alloc o).cell a3 (fun h => h)
      go_wp2_with (fail)
      have c0 : (wr.alloc (.cells #[.int .i64 s', .int .i64 q, .int .i64 r, .int .i64 n'] 25)).cell? ⟨wr.heap.size, 0, none⟩ = some (.int .i64 s') := by simp [go_sem]
      have c1 : (wr.alloc (.cells #[.int .i64 s', .int .i64 q, .int .i64 r, .int .i64 n'] 25)).cell? ⟨wr.heap.size, 1, none⟩ = some (.int .i64 q) := by simp [go_sem]
      have c2 : (wr.alloc (.cells #[.int .i64 s', .int .i64 q, .int .i64 r, .int .i64 n'] 25)).cell? ⟨wr.heap.size, 2, none⟩ = some (.int .i64 r) := by simp [go_sem]
      have c3 : (wr.alloc (.cells #[.int .i64 s', .int .i64 q, .int .i64 r, .int .i64 n'] 25)).cell? ⟨wr.heap.size, 3, none⟩ = some (.int .i64 n') := by simp [go_sem]
      replace a0 := a0 (.cells #[.int .i64 s', .int .i64 q, .int .i64 r, .int .i64 n'] 25)
      replace a1 := a1 (.cells #[.int .i64 s', .int .i64 q, .int .i64 r, .int .i64 n'] 25)
      replace a2 := a2 (.cells #[.int .i64 s', .int .i64 q, .int .i64 r, .int .i64 n'] 25)
      replace a3 := a3 (.cells #[.int .i64 s', .int .i64 q, .int .i64 r, .int .i64 n'] 25)
      replace hm := (hm.alloc (.cells #[.int .i64 s', .int .i64 q, .int .i64 r, .int .i64 n'] 25)).drew
      go_region_held3 (fun y => y.cell? ⟨w.heap.size, 0, none⟩ = some (.int .i64 s) ∧ y.cell? ⟨w.heap.size, 1, none⟩ = some (.int .i64 q) ∧ y.cell? ⟨w.heap.size, 2, none⟩ = some (.int .i64 r) ∧ y.cell? ⟨w.heap.size, 3, none⟩ = some (.int .i64 n) ∧ y.cell? ⟨wr.heap.size, 0, none⟩ = some (.int .i64 s') ∧ y.cell? ⟨wr.heap.size, 1, none⟩ = some (.int .i64 q) ∧ y.cell? ⟨wr.heap.size, 2, none⟩ = some (.int .i64 r) ∧ y.cell? ⟨wr.heap.size, 3, none⟩ = some (.int .i64 n')) (first | exact ⟨a0, a1, a2, a3, c0, c1, c2, c3⟩ | go_keep)
        (first | (go_at_call 13; refine (H1 _ _ _ _ _).mono ?_; rintro e w2 ⟨rfl, hm2⟩; replace a0 := hm2.cell a0 (fun h => h); replace a1 := hm2.cell a1 (fun h => h); replace a2 := hm2.cell a2 (fun h => h); replace a3 := hm2.cell a3 (fun h => h); replace c0 := hm2.cell c0 (fun h => h); replace c1 := hm2.cell c1 (fun h => h); replace c2 := hm2.cell c2 (fun h => h); replace c3 := hm2.cell c3 (fun h => h); replace hm := hm.and hm2; clear hm2) | (go_at_call 14; refine (H2 _ _ _ _ _).mono ?_; rintro e w2 ⟨rfl, hm2⟩; replace a0 := hm2.cell a0 (fun h => h); replace a1 := hm2.cell a1 (fun h => h); replace a2 := hm2.cell a2 (fun h => h); replace a3 := hm2.cell a3 (fun h => h); replace c0 := hm2.cell c0 (fun h => h); replace c1 := hm2.cell c1 (fun h => h); replace c2 := hm2.cell c2 (fun h => h); replace c3 := hm2.cell c3 (fun h => h); replace hm := hm.and hm2; clear hm2) | (go_at_call 15; refine (H3 _ _ _ _ _ _ _ _ _).mono ?_; rintro e w2 ⟨rfl, hm2⟩; replace a0 := hm2.cell a0 (fun h => h); replace a1 := hm2.cell a1 (fun h => h); replace a2 := hm2.cell a2 (fun h => h); replace a3 := hm2.cell a3 (fun h => h); replace c0 := hm2.cell c0 (fun h => h); replace c1 := hm2.cell c1 (fun h => h); replace c2 := hm2.cell c2 (fun h => h); replace c3 := hm2.cell c3 (fun h => h); replace hm := hm.and hm2; clear hm2) | (go_at_call 16; refine (H4 _ _ _ _ _ _ _ _ _).mono ?_; rintro e w2 ⟨rfl, hm2⟩; replace a0 := hm2.cell a0 (fun h => h); replace a1 := hm2.cell a1 (fun h => h); replace a2 := hm2.cell a2 (fun h => h); replace a3 := hm2.cell a3 (fun h => h); replace c0 := hm2.cell c0 (fun h => h); replace c1 := hm2.cell c1 (fun h => h); replace c2 := hm2.cell c2 (fun h => h); replace c3 := hm2.cell c3 (fun h => h); replace hm := hm.and hm2; clear hm2))
      go_wp2
      go_roundw
      case rel => exact ⟨7, by go_num, by omega, hm⟩
      case measure => simp [intOf]
    · replace a0 := fun o => ((Mod.refl (fun _ => False) wr).alloc o).cell a0 (fun h => h)
      replace a1 := fun o => ((Mod.refl (fun _ => False) wr).alloc o).cell a1 (fun h => h)
      replace a2 := fun o => ((Mod.refl (fun _ => False) wr).alloc o).cell a2 (fun h => h)
      replace a3 := fun o => ((Mod.refl (fun _ => False) wr).alloc o).cell a3 (fun h => h)
      go_wp2_with (fail)
      have c0 : (wr.alloc (.cells #[.int .i64 s, .int .i64 q, .int .i64 r, .int .i64 n'] 25)).cell? ⟨wr.heap.size, 0, none⟩ = some (.int .i64 s) := by simp [go_sem]
      have c1 : (wr.alloc (.cells #[.int .i64 s, .int .i64 q, .int .i64 r, .int .i64 n'] 25)).cell? ⟨wr.heap.size, 1, none⟩ = some (.int .i64 q) := by simp [go_sem]
      have c2 : (wr.alloc (.cells #[.int .i64 s, .int .i64 q, .int .i64 r, .int .i64 n'] 25)).cell? ⟨wr.heap.size, 2, none⟩ = some (.int .i64 r) := by simp [go_sem]
      have c3 : (wr.alloc (.cells #[.int .i64 s, .int .i64 q, .int .i64 r, .int .i64 n'] 25)).cell? ⟨wr.heap.size, 3, none⟩ = some (.int .i64 n') := by simp [go_sem]
      replace a0 := a0 (.cells #[.int .i64 s, .int .i64 q, .int .i64 r, .int .i64 n'] 25)
      replace a1 := a1 (.cells #[.int .i64 s, .int .i64 q, .int .i64 r, .int .i64 n'] 25)
      replace a2 := a2 (.cells #[.int .i64 s, .int .i64 q, .int .i64 r, .int .i64 n'] 25)
      replace a3 := a3 (.cells #[.int .i64 s, .int .i64 q, .int .i64 r, .int .i64 n'] 25)
      replace hm := (hm.alloc (.cells #[.int .i64 s, .int .i64 q, .int .i64 r, .int .i64 n'] 25)).drew
      go_region_held3 (fun y => y.cell? ⟨w.heap.size, 0, none⟩ = some (.int .i64 s) ∧ y.cell? ⟨w.heap.size, 1, none⟩ = some (.int .i64 q) ∧ y.cell? ⟨w.heap.size, 2, none⟩ = some (.int .i64 r) ∧ y.cell? ⟨w.heap.size, 3, none⟩ = some (.int .i64 n) ∧ y.cell? ⟨wr.heap.size, 0, none⟩ = some (.int .i64 s) ∧ y.cell? ⟨wr.heap.size, 1, none⟩ = some (.int .i64 q) ∧ y.cell? ⟨wr.heap.size, 2, none⟩ = some (.int .i64 r) ∧ y.cell? ⟨wr.heap.size, 3, none⟩ = some (.int .i64 n')) (first | exact ⟨a0, a1, a2, a3, c0, c1, c2, c3⟩ | go_keep)
        (first | (go_at_call 13; refine (H1 _ _ _ _ _).mono ?_; rintro e w2 ⟨rfl, hm2⟩; replace a0 := hm2.cell a0 (fun h => h); replace a1 := hm2.cell a1 (fun h => h); replace a2 := hm2.cell a2 (fun h => h); replace a3 := hm2.cell a3 (fun h => h); replace c0 := hm2.cell c0 (fun h => h); replace c1 := hm2.cell c1 (fun h => h); replace c2 := hm2.cell c2 (fun h => h); replace c3 := hm2.cell c3 (fun h => h); replace hm := hm.and hm2; clear hm2) | (go_at_call 14; refine (H2 _ _ _ _ _).mono ?_; rintro e w2 ⟨rfl, hm2⟩; replace a0 := hm2.cell a0 (fun h => h); replace a1 := hm2.cell a1 (fun h => h); replace a2 := hm2.cell a2 (fun h => h); replace a3 := hm2.cell a3 (fun h => h); replace c0 := hm2.cell c0 (fun h => h); replace c1 := hm2.cell c1 (fun h => h); replace c2 := hm2.cell c2 (fun h => h); replace c3 := hm2.cell c3 (fun h => h); replace hm := hm.and hm2; clear hm2) | (go_at_call 15; refine (H3 _ _ _ _ _ _ _ _ _).mono ?_; rintro e w2 ⟨rfl, hm2⟩; replace a0 := hm2.cell a0 (fun h => h); replace a1 := hm2.cell a1 (fun h => h); replace a2 := hm2.cell a2 (fun h => h); replace a3 := hm2.cell a3 (fun h => h); replace c0 := hm2.cell c0 (fun h => h); replace c1 := hm2.cell c1 (fun h => h); replace c2 := hm2.cell c2 (fun h => h); replace c3 := hm2.cell c3 (fun h => h); replace hm := hm.and hm2; clear hm2) | (go_at_call 16; refine (H4 _ _ _ _ _ _ _ _ _).mono ?_; rintro e w2 ⟨rfl, hm2⟩; replace a0 := hm2.cell a0 (fun h => h); replace a1 := hm2.cell a1 (fun h => h); replace a2 := hm2.cell a2 (fun h => h); replace a3 := hm2.cell a3 (fun h => h); replace c0 := hm2.cell c0 (fun h => h); replace c1 := hm2.cell c1 (fun h => h); replace c2 := hm2.cell c2 (fun h => h); replace c3 := hm2.cell c3 (fun h => h); replace hm := hm.and hm2; clear hm2))
      go_wp2
      go_roundw
      case rel => exact ⟨8, by go_num, by omega, hm⟩
      case measure => simp [intOf]
    · go_wp2_with (fail)
      refine (HW _).mono ?_
      rintro e w2 ⟨rfl, hm2⟩
      go_wp2
      go_ret
      exact ⟨rfl, (HM0.out.and hm).and hm2⟩
namespace markOrders
open Go.ChangeShapes Go.WideShapes Go.ChangeAt Go.RowKit
set_option maxRecDepth 100000 in
theorem lifted (os : Os) (started : os.Started) (H : Type) (enc : TypeId × Value → H) :
    ReturnsInHanded {} Try.checked os 3 .any (Rows.markOrdersSpec.pre6 enc Try.prog Try.f3 Rows.markOrdersRow.domain false) (Rows.markOrdersSpec.post enc Try.prog Try.f3 false true false false) := by
  refine returnsInHanded_of_change_sized (C := Try.checked) own started (by kernel_rfl) Try.func3
    (ChangeSpec.witness6 (enc := enc) (C := Try.checked) false ⟨#[], #[.agg #[.int .i64 0, .int .i64 0, .int .i64 0, .int .i64 0], .agg #[.int .i64 0, .int .i64 0, .int .i64 0, .int .i64 0]], []⟩ 8 (by kernel_rfl) (by kernel_rfl) (by kernel_rfl) (by kernel_rfl)) ?_
  intro W base args ds gs before hval0 hW hcnd hsz0 _
  have hval : ∀ (j : Nat) t v, Try.f3.params[j]? = some t → args[j]? = some v → Value.okWide Try.prog W .any base t v := hval0
  have hsz : (DataW.weightsEach Try.prog (Try.f3.params.toList ++ Rows.markOrdersSpec.plain.varTypes Try.prog) (ds ++ gs)).all (· ≤ reachBytes) = true := hsz0
  have hW' := hW
  obtain ⟨p, q, hA0, hV, rfl, hfz, hnd⟩ := hW
  have hA : DataW.TrodAll enc Try.prog W 0 (fun _ => true) true Try.f3.params.toList args.toList ds p := hA0
  rw [Try.params3] at hA hval hsz
  obtain ⟨v0, vs0, d0, ds0, p0, q0, hargs, rfl, rfl, h0, r0⟩ := trodAll_cons hA
  obtain ⟨v1, vs1, d1, ds1, p1, q1, rfl, rfl, rfl, h1, r1⟩ := trodAll_cons r0
  obtain ⟨rfl, rfl, rfl⟩ := trodAll_nil r1
  obtain rfl : args = #[v0, v1] := by cases args; simp_all
  obtain ⟨rfl, rfl⟩ := trodVars_none hV
  have k0 := h0
  have lt0 : ∀ x ∈ p0, x.block < W.heap.size := by obtain ⟨m, hm⟩ := k0; exact DataW.trod_lt m _ _ _ hm
  obtain ⟨ys0, yq0, yr0, yn0, rfl⟩ := open_key (hval 0 25 v0 rfl rfl) h0
  have k1 := h1
  have lt1 : ∀ x ∈ p1, x.block < W.heap.size := by obtain ⟨m, hm⟩ := k1; exact DataW.trod_lt m _ _ _ hm
  obtain ⟨ys1, yq1, yr1, yn1, rfl⟩ := open_key (hval 1 25 v1 rfl rfl) h1
  clear hA0 hval0
  refine (walkOrders ys0 yq0 yr0 yn0 ys1 yq1 yr1 yn1 W).mono fun e W' ⟨he, hm⟩ => ?_
  subst he
  have bel : Below W.heap.size W W' := hm.below _ (Nat.le_refl _) (fun _ h => h.elim)
  exact ⟨_, rfl, _, _, _, [], _, [], hW', trodAll_mk1 (shut_bool Try.underlying4 _), (trodAll_cons_mk (Below.trod laidOut (by kernel_rfl) (of_decide_eq_true (by kernel_rfl)) k0 bel lt0) (trodAll_cons_mk (Below.trod laidOut (by kernel_rfl) (of_decide_eq_true (by kernel_rfl)) k1 bel lt1) trodAll_mk0)), rfl, bel.frame _, fun h => by cases h⟩

theorem over : Rows.markOrdersRow.holds Try.pinned (OpenSpec.ofChange Rows.markOrdersSpec) :=
  OpenClaim.holds_of_wide 3 Try.f3 rfl rfl rfl rfl rfl rfl rfl ⟨rfl, rfl, rfl, rfl, rfl⟩ rfl rfl rfl rfl rfl (by kernel_rfl) Try.func3 (by kernel_rfl)
    (of_decide_eq_true (by kernel_rfl)) (by unfold Func.isWrapper; first | (rw [if_pos (by decide +kernel)]; kernel_rfl) | (rw [if_neg (by decide +kernel)]; exact ⟨rfl, rfl⟩))
    (fun os started H enc _ => lifted os started H enc)
end markOrders
theorem markOrders_holds : Rows.MarkOrdersSaid := markOrders.over
end Go.Proofs.Ytbfgnlpgfjokhaa
