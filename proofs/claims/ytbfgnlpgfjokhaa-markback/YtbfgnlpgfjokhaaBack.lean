/- MarkBack: packed keys are unpacked as they were, what can be unpacked packs into just these numbers, and packed keys are in the order of the keys. No conditions. -/
import Derived.Test.YtbfgnlpgfjokhaaBk
import Derived.Test.YtbfgnlpgfjokhaaUn
import Derived.Test.YtbfgnlpgfjokhaaEn
namespace Go.Proofs.Ytbfgnlpgfjokhaa
open Go.RowKit
theorem beq25_same (s q r n : Int) (w : World) : (Op.equalIn 10000 25 (.agg #[.int .i64 s, .int .i64 q, .int .i64 r, .int .i64 n]) (.agg #[.int .i64 s, .int .i64 q, .int .i64 r, .int .i64 n])).run Try.prog w = .ok true w := by
  rw [eq25, ks_zero.2 ⟨rfl, rfl, rfl, rfl⟩]
  rfl
theorem beq34_same (a b : Int) (w : World) : (Op.equalIn 10000 34 (.agg #[.int .u64 a, .int .u64 b]) (.agg #[.int .u64 a, .int .u64 b])).run Try.prog w = .ok true w := by
  rw [eq34]
  simp
set_option maxRecDepth 100000 in
set_option maxHeartbeats 8000000 in
theorem walkBack (s q r n s' q' r' n' A B : Int) (w : World) (ha : 0 ≤ A ∧ A < 18446744073709551616) (hb : 0 ≤ B ∧ B < 18446744073709551616) :
    Calls Try.prog 6 #[.agg #[.int .i64 s, .int .i64 q, .int .i64 r, .int .i64 n], .agg #[.int .i64 s', .int .i64 q', .int .i64 r', .int .i64 n'], .agg #[.int .u64 A, .int .u64 B]] w fun e w' => e = .returned (.bool true) ∧ Mod (fun _ => False) w w' := by
  have HW := works
  have H1 := Pack s q r n
  have H2 := Pack s' q' r' n'
  have HU := fun w => Unpack A B w ha hb
  have HB : Hid (pe s q r n = 0 → ∀ w, Calls Try.prog 20 #[.agg #[.int .u64 (px s q r n), .int .u64 (py s q r n)]] w fun e w' => e = .returned (.tuple #[.agg #[.int .i64 s, .int .i64 q, .int .i64 r, .int .i64 n], .int .i64 0]) ∧ Mod (fun _ => False) w w') := by
    intro h w
    have c := Unpack (px s q r n) (py s q r n) w (p_rng s q r n).1 (p_rng s q r n).2
    obtain ⟨e1, e2, e3, e4, e5⟩ := pack_back h
    rw [e1, e2, e3, e4, e5] at c
    exact c
  have HK := Keys s q r n s' q' r' n'
  have HT : Hid (ue A B = 0 → (∀ w, Calls Try.prog 18 #[.agg #[.int .i64 (vs A B), .int .i64 (vq A B), .int .i64 (vr A B), .int .i64 (vn A B)]] w fun e w' => e = .returned (.tuple #[.agg #[.int .u64 A, .int .u64 B], .int .i64 0]) ∧ Mod (fun _ => False) w w') ∧
      (∀ w, Calls Try.prog 11 #[.agg #[.int .i64 (vs A B), .int .i64 (vq A B), .int .i64 (vr A B), .int .i64 (vn A B)]] w fun e w' => e = .returned (.int .i64 0) ∧ Mod (fun _ => False) w w')) := by
    intro h
    obtain ⟨e1, e2, e3, e4⟩ := unpack_back ha hb h
    refine ⟨fun w => ?_, fun w => ?_⟩
    · have c := Pack (vs A B) (vq A B) (vr A B) (vn A B) w
      rw [e1, e2, e3] at c
      exact c
    · have c := Check (vs A B) (vq A B) (vr A B) (vn A B) w
      rw [e4] at c
      exact c
  have HN : Hid (¬ ue A B = 0 → vs A B = 0 ∧ vq A B = 0 ∧ vr A B = 0 ∧ vn A B = 0) := unpack_no
  have HO : Hid (pe s q r n = 0 → pe s' q' r' n' = 0 → (ks s q r n s' q' r' n' ≤ 0 ↔ (px s q r n < px s' q' r' n' ∨ (px s q r n = px s' q' r' n' ∧ py s q r n ≤ py s' q' r' n'))) ∧ ((px s q r n = px s' q' r' n' ∧ py s q r n = py s' q' r' n') ↔ ks s q r n s' q' r' n' = 0)) :=
    fun h h' => ⟨order_le h h', order_eq h h'⟩
  have HZ : Hid (¬ pe s q r n = 0 → px s q r n = 0 ∧ py s q r n = 0) := fun h => ⟨px_no h, py_no h⟩
  have kr : Hid (-1 ≤ ks s q r n s' q' r' n' ∧ ks s q r n s' q' r' n' ≤ 1) := ks_rng s q r n s' q' r' n'
  clear ha hb
  generalize px s q r n = X at *
  generalize py s q r n = Y at *
  generalize pe s q r n = E at *
  generalize px s' q' r' n' = X' at *
  generalize py s' q' r' n' = Y' at *
  generalize pe s' q' r' n' = E' at *
  generalize vs A B = S at *
  generalize vq A B = U at *
  generalize vr A B = V at *
  generalize vn A B = N at *
  generalize ue A B = F at *
  generalize ks s q r n s' q' r' n' = k at *
  have HQ := beq34_same
  have HR := beq25_same
  go_enter Try.func6, Try.ntmps6
  go_wp2_with (fail)
  refine (HW _).mono ?_
  rintro e w1 ⟨rfl, hm1⟩
  have a0 : w1.cell? ⟨w.heap.size, 0, none⟩ = some (.int .i64 s) := hm1.cell (by simp [go_sem]) (fun h => h)
  have a1 : w1.cell? ⟨w.heap.size, 1, none⟩ = some (.int .i64 q) := hm1.cell (by simp [go_sem]) (fun h => h)
  have a2 : w1.cell? ⟨w.heap.size, 2, none⟩ = some (.int .i64 r) := hm1.cell (by simp [go_sem]) (fun h => h)
  have a3 : w1.cell? ⟨w.heap.size, 3, none⟩ = some (.int .i64 n) := hm1.cell (by simp [go_sem]) (fun h => h)
  have b0 : w1.cell? ⟨w.heap.size + 1, 0, none⟩ = some (.int .i64 s') := hm1.cell (by simp [go_sem]) (fun h => h)
  have b1 : w1.cell? ⟨w.heap.size + 1, 1, none⟩ = some (.int .i64 q') := hm1.cell (by simp [go_sem]) (fun h => h)
  have b2 : w1.cell? ⟨w.heap.size + 1, 2, none⟩ = some (.int .i64 r') := hm1.cell (by simp [go_sem]) (fun h => h)
  have b3 : w1.cell? ⟨w.heap.size + 1, 3, none⟩ = some (.int .i64 n') := hm1.cell (by simp [go_sem]) (fun h => h)
  have x0 : w1.cell? ⟨w.heap.size + 2, 0, none⟩ = some (.int .u64 A) := hm1.cell (by simp [go_sem]) (fun h => h)
  have x1 : w1.cell? ⟨w.heap.size + 2, 1, none⟩ = some (.int .u64 B) := hm1.cell (by simp [go_sem]) (fun h => h)
  have hm : Mod (fun _ => False) w w1 := ((((Mod.refl _ _).alloc _).alloc _).alloc _).and hm1
  clear hm1 HW
  go_wp2_with (fail)
  refine (H1 _).mono ?_
  rintro e w2 ⟨rfl, hm2⟩
  replace a0 : w2.cell? ⟨w.heap.size, 0, none⟩ = some (.int .i64 s) := hm2.cell a0 (fun h => h)
  replace a1 : w2.cell? ⟨w.heap.size, 1, none⟩ = some (.int .i64 q) := hm2.cell a1 (fun h => h)
  replace a2 : w2.cell? ⟨w.heap.size, 2, none⟩ = some (.int .i64 r) := hm2.cell a2 (fun h => h)
  replace a3 : w2.cell? ⟨w.heap.size, 3, none⟩ = some (.int .i64 n) := hm2.cell a3 (fun h => h)
  replace b0 : w2.cell? ⟨w.heap.size + 1, 0, none⟩ = some (.int .i64 s') := hm2.cell b0 (fun h => h)
  replace b1 : w2.cell? ⟨w.heap.size + 1, 1, none⟩ = some (.int .i64 q') := hm2.cell b1 (fun h => h)
  replace b2 : w2.cell? ⟨w.heap.size + 1, 2, none⟩ = some (.int .i64 r') := hm2.cell b2 (fun h => h)
  replace b3 : w2.cell? ⟨w.heap.size + 1, 3, none⟩ = some (.int .i64 n') := hm2.cell b3 (fun h => h)
  replace x0 : w2.cell? ⟨w.heap.size + 2, 0, none⟩ = some (.int .u64 A) := hm2.cell x0 (fun h => h)
  replace x1 : w2.cell? ⟨w.heap.size + 2, 1, none⟩ = some (.int .u64 B) := hm2.cell x1 (fun h => h)
  replace a0 := fun o => ((Mod.refl (fun _ => False) w2).alloc o).cell a0 (fun h => h)
  replace a1 := fun o => ((Mod.refl (fun _ => False) w2).alloc o).cell a1 (fun h => h)
  replace a2 := fun o => ((Mod.refl (fun _ => False) w2).alloc o).cell a2 (fun h => h)
  replace a3 := fun o => ((Mod.refl (fun _ => False) w2).alloc o).cell a3 (fun h => h)
  replace b0 := fun o => ((Mod.refl (fun _ => False) w2).alloc o).cell b0 (fun h => h)
  replace b1 := fun o => ((Mod.refl (fun _ => False) w2).alloc o).cell b1 (fun h => h)
  replace b2 := fun o => ((Mod.refl (fun _ => False) w2).alloc o).cell b2 (fun h => h)
  replace b3 := fun o => ((Mod.refl (fun _ => False) w2).alloc o).cell b3 (fun h => h)
  replace x0 := fun o => ((Mod.refl (fun _ => False) w2).alloc o).cell x0 (fun h => h)
  replace x1 := fun o => ((Mod.refl (fun _ => False) w2).alloc o).cell x1 (fun h => h)
  replace hm := hm.and hm2
  clear hm2 H1
  go_wp2_with (fail)
  refine (H2 _).mono ?_
  rintro e w3 ⟨rfl, hm3⟩
  replace a0 : w3.cell? ⟨w.heap.size, 0, none⟩ = some (.int .i64 s) := hm3.cell (a0 _) (fun h => h)
  replace a1 : w3.cell? ⟨w.heap.size, 1, none⟩ = some (.int .i64 q) := hm3.cell (a1 _) (fun h => h)
  replace a2 : w3.cell? ⟨w.heap.size, 2, none⟩ = some (.int .i64 r) := hm3.cell (a2 _) (fun h => h)
  replace a3 : w3.cell? ⟨w.heap.size, 3, none⟩ = some (.int .i64 n) := hm3.cell (a3 _) (fun h => h)
  replace b0 : w3.cell? ⟨w.heap.size + 1, 0, none⟩ = some (.int .i64 s') := hm3.cell (b0 _) (fun h => h)
  replace b1 : w3.cell? ⟨w.heap.size + 1, 1, none⟩ = some (.int .i64 q') := hm3.cell (b1 _) (fun h => h)
  replace b2 : w3.cell? ⟨w.heap.size + 1, 2, none⟩ = some (.int .i64 r') := hm3.cell (b2 _) (fun h => h)
  replace b3 : w3.cell? ⟨w.heap.size + 1, 3, none⟩ = some (.int .i64 n') := hm3.cell (b3 _) (fun h => h)
  replace x0 : w3.cell? ⟨w.heap.size + 2, 0, none⟩ = some (.int .u64 A) := hm3.cell (x0 _) (fun h => h)
  replace x1 : w3.cell? ⟨w.heap.size + 2, 1, none⟩ = some (.int .u64 B) := hm3.cell (x1 _) (fun h => h)
  have p0 : w3.cell? ⟨w2.heap.size, 0, none⟩ = some (.int .u64 X) := hm3.cell (by simp [go_sem]) (fun h => h)
  have p1 : w3.cell? ⟨w2.heap.size, 1, none⟩ = some (.int .u64 Y) := hm3.cell (by simp [go_sem]) (fun h => h)
  replace a0 := fun o => ((Mod.refl (fun _ => False) w3).alloc o).cell a0 (fun h => h)
  replace a1 := fun o => ((Mod.refl (fun _ => False) w3).alloc o).cell a1 (fun h => h)
  replace a2 := fun o => ((Mod.refl (fun _ => False) w3).alloc o).cell a2 (fun h => h)
  replace a3 := fun o => ((Mod.refl (fun _ => False) w3).alloc o).cell a3 (fun h => h)
  replace b0 := fun o => ((Mod.refl (fun _ => False) w3).alloc o).cell b0 (fun h => h)
  replace b1 := fun o => ((Mod.refl (fun _ => False) w3).alloc o).cell b1 (fun h => h)
  replace b2 := fun o => ((Mod.refl (fun _ => False) w3).alloc o).cell b2 (fun h => h)
  replace b3 := fun o => ((Mod.refl (fun _ => False) w3).alloc o).cell b3 (fun h => h)
  replace x0 := fun o => ((Mod.refl (fun _ => False) w3).alloc o).cell x0 (fun h => h)
  replace x1 := fun o => ((Mod.refl (fun _ => False) w3).alloc o).cell x1 (fun h => h)
  replace p0 := fun o => ((Mod.refl (fun _ => False) w3).alloc o).cell p0 (fun h => h)
  replace p1 := fun o => ((Mod.refl (fun _ => False) w3).alloc o).cell p1 (fun h => h)
  replace hm := (hm.alloc _).and hm3
  clear hm3 H2
  by_cases hE : E = 0
  · have HB2 := HB.out hE
    have HO2 : Hid (E' = 0 → _) := HO.out hE
    subst hE
    clear HB HZ HO
    go_wp2_with (fail)
    refine (HB2 _).mono ?_
    rintro e w4 ⟨rfl, hm4⟩
    replace a0 : w4.cell? ⟨w.heap.size, 0, none⟩ = some (.int .i64 s) := hm4.cell (a0 _) (fun h => h)
    replace a1 : w4.cell? ⟨w.heap.size, 1, none⟩ = some (.int .i64 q) := hm4.cell (a1 _) (fun h => h)
    replace a2 : w4.cell? ⟨w.heap.size, 2, none⟩ = some (.int .i64 r) := hm4.cell (a2 _) (fun h => h)
    replace a3 : w4.cell? ⟨w.heap.size, 3, none⟩ = some (.int .i64 n) := hm4.cell (a3 _) (fun h => h)
    replace b0 : w4.cell? ⟨w.heap.size + 1, 0, none⟩ = some (.int .i64 s') := hm4.cell (b0 _) (fun h => h)
    replace b1 : w4.cell? ⟨w.heap.size + 1, 1, none⟩ = some (.int .i64 q') := hm4.cell (b1 _) (fun h => h)
    replace b2 : w4.cell? ⟨w.heap.size + 1, 2, none⟩ = some (.int .i64 r') := hm4.cell (b2 _) (fun h => h)
    replace b3 : w4.cell? ⟨w.heap.size + 1, 3, none⟩ = some (.int .i64 n') := hm4.cell (b3 _) (fun h => h)
    replace x0 : w4.cell? ⟨w.heap.size + 2, 0, none⟩ = some (.int .u64 A) := hm4.cell (x0 _) (fun h => h)
    replace x1 : w4.cell? ⟨w.heap.size + 2, 1, none⟩ = some (.int .u64 B) := hm4.cell (x1 _) (fun h => h)
    replace p0 : w4.cell? ⟨w2.heap.size, 0, none⟩ = some (.int .u64 X) := hm4.cell (p0 _) (fun h => h)
    replace p1 : w4.cell? ⟨w2.heap.size, 1, none⟩ = some (.int .u64 Y) := hm4.cell (p1 _) (fun h => h)
    have r0 : w4.cell? ⟨w3.heap.size, 0, none⟩ = some (.int .u64 X') := hm4.cell (by simp [go_sem]) (fun h => h)
    have r1 : w4.cell? ⟨w3.heap.size, 1, none⟩ = some (.int .u64 Y') := hm4.cell (by simp [go_sem]) (fun h => h)
    replace a0 := fun o => ((Mod.refl (fun _ => False) w4).alloc o).cell a0 (fun h => h)
    replace a1 := fun o => ((Mod.refl (fun _ => False) w4).alloc o).cell a1 (fun h => h)
    replace a2 := fun o => ((Mod.refl (fun _ => False) w4).alloc o).cell a2 (fun h => h)
    replace a3 := fun o => ((Mod.refl (fun _ => False) w4).alloc o).cell a3 (fun h => h)
    replace b0 := fun o => ((Mod.refl (fun _ => False) w4).alloc o).cell b0 (fun h => h)
    replace b1 := fun o => ((Mod.refl (fun _ => False) w4).alloc o).cell b1 (fun h => h)
    replace b2 := fun o => ((Mod.refl (fun _ => False) w4).alloc o).cell b2 (fun h => h)
    replace b3 := fun o => ((Mod.refl (fun _ => False) w4).alloc o).cell b3 (fun h => h)
    replace x0 := fun o => ((Mod.refl (fun _ => False) w4).alloc o).cell x0 (fun h => h)
    replace x1 := fun o => ((Mod.refl (fun _ => False) w4).alloc o).cell x1 (fun h => h)
    replace p0 := fun o => ((Mod.refl (fun _ => False) w4).alloc o).cell p0 (fun h => h)
    replace p1 := fun o => ((Mod.refl (fun _ => False) w4).alloc o).cell p1 (fun h => h)
    replace r0 := fun o => ((Mod.refl (fun _ => False) w4).alloc o).cell r0 (fun h => h)
    replace r1 := fun o => ((Mod.refl (fun _ => False) w4).alloc o).cell r1 (fun h => h)
    replace hm := (hm.alloc _).and hm4
    clear hm4 HB2
    by_cases hE' : E' = 0
    · have ho := HO2.out hE'
      subst hE'
      have hk := kr.out
      rcases (show (X < X' ∧ k = -1) ∨ (X = X' ∧ Y < Y' ∧ k = -1) ∨ (¬ X < X' ∧ ¬ X = X' ∧ k = 1) ∨ (X = X' ∧ ¬ Y < Y' ∧ ¬ Y = Y' ∧ k = 1) ∨ (X = X' ∧ Y = Y' ∧ k = 0) by omega) with ⟨o1, rfl⟩ | ⟨rfl, o2, rfl⟩ | ⟨o1, o2, rfl⟩ | ⟨rfl, o2, o3, rfl⟩ | ⟨rfl, rfl, rfl⟩
      · clear ho hk HO2 kr
        go_wp2_with (fail)
        refine (HK _).mono ?_
        rintro e w5 ⟨rfl, hm5⟩
        replace x0 : w5.cell? ⟨w.heap.size + 2, 0, none⟩ = some (.int .u64 A) := hm5.cell (x0 _) (fun h => h)
        replace x1 : w5.cell? ⟨w.heap.size + 2, 1, none⟩ = some (.int .u64 B) := hm5.cell (x1 _) (fun h => h)
        replace hm := (hm.alloc _).and hm5
        clear hm5 HK
        go_wp2_with (fail)
        refine (HU _).mono ?_
        rintro e w6 ⟨rfl, hm6⟩
        replace x0 : w6.cell? ⟨w.heap.size + 2, 0, none⟩ = some (.int .u64 A) := hm6.cell x0 (fun h => h)
        replace x1 : w6.cell? ⟨w.heap.size + 2, 1, none⟩ = some (.int .u64 B) := hm6.cell x1 (fun h => h)
        replace x0 := fun o => ((Mod.refl (fun _ => False) w6).alloc o).cell x0 (fun h => h)
        replace x1 := fun o => ((Mod.refl (fun _ => False) w6).alloc o).cell x1 (fun h => h)
        replace hm := hm.and hm6
        clear hm6 HU
        by_cases hz : F = 0
        · obtain ⟨HP2, HC2⟩ := HT.out hz
          subst hz
          clear HT HN
          go_wp2_with (fail)
          refine (HP2 _).mono ?_
          rintro e w7 ⟨rfl, hm7⟩
          replace x0 : w7.cell? ⟨w.heap.size + 2, 0, none⟩ = some (.int .u64 A) := hm7.cell (x0 _) (fun h => h)
          replace x1 : w7.cell? ⟨w.heap.size + 2, 1, none⟩ = some (.int .u64 B) := hm7.cell (x1 _) (fun h => h)
          have k0 : w7.cell? ⟨w6.heap.size, 0, none⟩ = some (.int .i64 S) := hm7.cell (by simp [go_sem]) (fun h => h)
          have k1 : w7.cell? ⟨w6.heap.size, 1, none⟩ = some (.int .i64 U) := hm7.cell (by simp [go_sem]) (fun h => h)
          have k2 : w7.cell? ⟨w6.heap.size, 2, none⟩ = some (.int .i64 V) := hm7.cell (by simp [go_sem]) (fun h => h)
          have k3 : w7.cell? ⟨w6.heap.size, 3, none⟩ = some (.int .i64 N) := hm7.cell (by simp [go_sem]) (fun h => h)
          replace x0 := fun o => ((Mod.refl (fun _ => False) w7).alloc o).cell x0 (fun h => h)
          replace x1 := fun o => ((Mod.refl (fun _ => False) w7).alloc o).cell x1 (fun h => h)
          replace k0 := fun o => ((Mod.refl (fun _ => False) w7).alloc o).cell k0 (fun h => h)
          replace k1 := fun o => ((Mod.refl (fun _ => False) w7).alloc o).cell k1 (fun h => h)
          replace k2 := fun o => ((Mod.refl (fun _ => False) w7).alloc o).cell k2 (fun h => h)
          replace k3 := fun o => ((Mod.refl (fun _ => False) w7).alloc o).cell k3 (fun h => h)
          replace hm := (hm.alloc _).and hm7
          clear hm7 HP2
          go_wp2_with (fail)
          refine (HC2 _).mono ?_
          rintro e w8 ⟨rfl, hm8⟩
          replace hm := (hm.alloc _).and hm8
          go_wp2
          go_ret
          exact ⟨rfl, hm⟩
        · obtain ⟨rfl, rfl, rfl, rfl⟩ := HN.out hz
          clear HT HN
          go_wp2
          go_ret
          exact ⟨rfl, hm.alloc _⟩
      · clear ho hk HO2 kr
        go_wp2_with (fail)
        refine (HK _).mono ?_
        rintro e w5 ⟨rfl, hm5⟩
        replace x0 : w5.cell? ⟨w.heap.size + 2, 0, none⟩ = some (.int .u64 A) := hm5.cell (x0 _) (fun h => h)
        replace x1 : w5.cell? ⟨w.heap.size + 2, 1, none⟩ = some (.int .u64 B) := hm5.cell (x1 _) (fun h => h)
        replace hm := (hm.alloc _).and hm5
        clear hm5 HK
        go_wp2_with (fail)
        refine (HU _).mono ?_
        rintro e w6 ⟨rfl, hm6⟩
        replace x0 : w6.cell? ⟨w.heap.size + 2, 0, none⟩ = some (.int .u64 A) := hm6.cell x0 (fun h => h)
        replace x1 : w6.cell? ⟨w.heap.size + 2, 1, none⟩ = some (.int .u64 B) := hm6.cell x1 (fun h => h)
        replace x0 := fun o => ((Mod.refl (fun _ => False) w6).alloc o).cell x0 (fun h => h)
        replace x1 := fun o => ((Mod.refl (fun _ => False) w6).alloc o).cell x1 (fun h => h)
        replace hm := hm.and hm6
        clear hm6 HU
        by_cases hz : F = 0
        · obtain ⟨HP2, HC2⟩ := HT.out hz
          subst hz
          clear HT HN
          go_wp2_with (fail)
          refine (HP2 _).mono ?_
          rintro e w7 ⟨rfl, hm7⟩
          replace x0 : w7.cell? ⟨w.heap.size + 2, 0, none⟩ = some (.int .u64 A) := hm7.cell (x0 _) (fun h => h)
          replace x1 : w7.cell? ⟨w.heap.size + 2, 1, none⟩ = some (.int .u64 B) := hm7.cell (x1 _) (fun h => h)
          have k0 : w7.cell? ⟨w6.heap.size, 0, none⟩ = some (.int .i64 S) := hm7.cell (by simp [go_sem]) (fun h => h)
          have k1 : w7.cell? ⟨w6.heap.size, 1, none⟩ = some (.int .i64 U) := hm7.cell (by simp [go_sem]) (fun h => h)
          have k2 : w7.cell? ⟨w6.heap.size, 2, none⟩ = some (.int .i64 V) := hm7.cell (by simp [go_sem]) (fun h => h)
          have k3 : w7.cell? ⟨w6.heap.size, 3, none⟩ = some (.int .i64 N) := hm7.cell (by simp [go_sem]) (fun h => h)
          replace x0 := fun o => ((Mod.refl (fun _ => False) w7).alloc o).cell x0 (fun h => h)
          replace x1 := fun o => ((Mod.refl (fun _ => False) w7).alloc o).cell x1 (fun h => h)
          replace k0 := fun o => ((Mod.refl (fun _ => False) w7).alloc o).cell k0 (fun h => h)
          replace k1 := fun o => ((Mod.refl (fun _ => False) w7).alloc o).cell k1 (fun h => h)
          replace k2 := fun o => ((Mod.refl (fun _ => False) w7).alloc o).cell k2 (fun h => h)
          replace k3 := fun o => ((Mod.refl (fun _ => False) w7).alloc o).cell k3 (fun h => h)
          replace hm := (hm.alloc _).and hm7
          clear hm7 HP2
          go_wp2_with (fail)
          refine (HC2 _).mono ?_
          rintro e w8 ⟨rfl, hm8⟩
          replace hm := (hm.alloc _).and hm8
          go_wp2
          go_ret
          exact ⟨rfl, hm⟩
        · obtain ⟨rfl, rfl, rfl, rfl⟩ := HN.out hz
          clear HT HN
          go_wp2
          go_ret
          exact ⟨rfl, hm.alloc _⟩
      · clear ho hk HO2 kr
        have HQ2 : ∀ w, (Op.equalIn 10000 34 (.agg #[.int .u64 X, .int .u64 Y]) (.agg #[.int .u64 X', .int .u64 Y'])).run Try.prog w = .ok false w := fun w => by rw [eq34]; simp [o2]
        go_wp2_with (fail)
        refine (HK _).mono ?_
        rintro e w5 ⟨rfl, hm5⟩
        replace x0 : w5.cell? ⟨w.heap.size + 2, 0, none⟩ = some (.int .u64 A) := hm5.cell (x0 _) (fun h => h)
        replace x1 : w5.cell? ⟨w.heap.size + 2, 1, none⟩ = some (.int .u64 B) := hm5.cell (x1 _) (fun h => h)
        replace hm := (hm.alloc _).and hm5
        clear hm5 HK
        go_wp2_with (fail)
        refine (HU _).mono ?_
        rintro e w6 ⟨rfl, hm6⟩
        replace x0 : w6.cell? ⟨w.heap.size + 2, 0, none⟩ = some (.int .u64 A) := hm6.cell x0 (fun h => h)
        replace x1 : w6.cell? ⟨w.heap.size + 2, 1, none⟩ = some (.int .u64 B) := hm6.cell x1 (fun h => h)
        replace x0 := fun o => ((Mod.refl (fun _ => False) w6).alloc o).cell x0 (fun h => h)
        replace x1 := fun o => ((Mod.refl (fun _ => False) w6).alloc o).cell x1 (fun h => h)
        replace hm := hm.and hm6
        clear hm6 HU
        by_cases hz : F = 0
        · obtain ⟨HP2, HC2⟩ := HT.out hz
          subst hz
          clear HT HN
          go_wp2_with (fail)
          refine (HP2 _).mono ?_
          rintro e w7 ⟨rfl, hm7⟩
          replace x0 : w7.cell? ⟨w.heap.size + 2, 0, none⟩ = some (.int .u64 A) := hm7.cell (x0 _) (fun h => h)
          replace x1 : w7.cell? ⟨w.heap.size + 2, 1, none⟩ = some (.int .u64 B) := hm7.cell (x1 _) (fun h => h)
          have k0 : w7.cell? ⟨w6.heap.size, 0, none⟩ = some (.int .i64 S) := hm7.cell (by simp [go_sem]) (fun h => h)
          have k1 : w7.cell? ⟨w6.heap.size, 1, none⟩ = some (.int .i64 U) := hm7.cell (by simp [go_sem]) (fun h => h)
          have k2 : w7.cell? ⟨w6.heap.size, 2, none⟩ = some (.int .i64 V) := hm7.cell (by simp [go_sem]) (fun h => h)
          have k3 : w7.cell? ⟨w6.heap.size, 3, none⟩ = some (.int .i64 N) := hm7.cell (by simp [go_sem]) (fun h => h)
          replace x0 := fun o => ((Mod.refl (fun _ => False) w7).alloc o).cell x0 (fun h => h)
          replace x1 := fun o => ((Mod.refl (fun _ => False) w7).alloc o).cell x1 (fun h => h)
          replace k0 := fun o => ((Mod.refl (fun _ => False) w7).alloc o).cell k0 (fun h => h)
          replace k1 := fun o => ((Mod.refl (fun _ => False) w7).alloc o).cell k1 (fun h => h)
          replace k2 := fun o => ((Mod.refl (fun _ => False) w7).alloc o).cell k2 (fun h => h)
          replace k3 := fun o => ((Mod.refl (fun _ => False) w7).alloc o).cell k3 (fun h => h)
          replace hm := (hm.alloc _).and hm7
          clear hm7 HP2
          go_wp2_with (fail)
          refine (HC2 _).mono ?_
          rintro e w8 ⟨rfl, hm8⟩
          replace hm := (hm.alloc _).and hm8
          go_wp2
          go_ret
          exact ⟨rfl, hm⟩
        · obtain ⟨rfl, rfl, rfl, rfl⟩ := HN.out hz
          clear HT HN
          go_wp2
          go_ret
          exact ⟨rfl, hm.alloc _⟩
      · clear ho hk HO2 kr
        have HQ2 : ∀ w, (Op.equalIn 10000 34 (.agg #[.int .u64 X, .int .u64 Y]) (.agg #[.int .u64 X, .int .u64 Y'])).run Try.prog w = .ok false w := fun w => by rw [eq34]; simp [o3]
        go_wp2_with (fail)
        refine (HK _).mono ?_
        rintro e w5 ⟨rfl, hm5⟩
        replace x0 : w5.cell? ⟨w.heap.size + 2, 0, none⟩ = some (.int .u64 A) := hm5.cell (x0 _) (fun h => h)
        replace x1 : w5.cell? ⟨w.heap.size + 2, 1, none⟩ = some (.int .u64 B) := hm5.cell (x1 _) (fun h => h)
        replace hm := (hm.alloc _).and hm5
        clear hm5 HK
        go_wp2_with (fail)
        refine (HU _).mono ?_
        rintro e w6 ⟨rfl, hm6⟩
        replace x0 : w6.cell? ⟨w.heap.size + 2, 0, none⟩ = some (.int .u64 A) := hm6.cell x0 (fun h => h)
        replace x1 : w6.cell? ⟨w.heap.size + 2, 1, none⟩ = some (.int .u64 B) := hm6.cell x1 (fun h => h)
        replace x0 := fun o => ((Mod.refl (fun _ => False) w6).alloc o).cell x0 (fun h => h)
        replace x1 := fun o => ((Mod.refl (fun _ => False) w6).alloc o).cell x1 (fun h => h)
        replace hm := hm.and hm6
        clear hm6 HU
        by_cases hz : F = 0
        · obtain ⟨HP2, HC2⟩ := HT.out hz
          subst hz
          clear HT HN
          go_wp2_with (fail)
          refine (HP2 _).mono ?_
          rintro e w7 ⟨rfl, hm7⟩
          replace x0 : w7.cell? ⟨w.heap.size + 2, 0, none⟩ = some (.int .u64 A) := hm7.cell (x0 _) (fun h => h)
          replace x1 : w7.cell? ⟨w.heap.size + 2, 1, none⟩ = some (.int .u64 B) := hm7.cell (x1 _) (fun h => h)
          have k0 : w7.cell? ⟨w6.heap.size, 0, none⟩ = some (.int .i64 S) := hm7.cell (by simp [go_sem]) (fun h => h)
          have k1 : w7.cell? ⟨w6.heap.size, 1, none⟩ = some (.int .i64 U) := hm7.cell (by simp [go_sem]) (fun h => h)
          have k2 : w7.cell? ⟨w6.heap.size, 2, none⟩ = some (.int .i64 V) := hm7.cell (by simp [go_sem]) (fun h => h)
          have k3 : w7.cell? ⟨w6.heap.size, 3, none⟩ = some (.int .i64 N) := hm7.cell (by simp [go_sem]) (fun h => h)
          replace x0 := fun o => ((Mod.refl (fun _ => False) w7).alloc o).cell x0 (fun h => h)
          replace x1 := fun o => ((Mod.refl (fun _ => False) w7).alloc o).cell x1 (fun h => h)
          replace k0 := fun o => ((Mod.refl (fun _ => False) w7).alloc o).cell k0 (fun h => h)
          replace k1 := fun o => ((Mod.refl (fun _ => False) w7).alloc o).cell k1 (fun h => h)
          replace k2 := fun o => ((Mod.refl (fun _ => False) w7).alloc o).cell k2 (fun h => h)
          replace k3 := fun o => ((Mod.refl (fun _ => False) w7).alloc o).cell k3 (fun h => h)
          replace hm := (hm.alloc _).and hm7
          clear hm7 HP2
          go_wp2_with (fail)
          refine (HC2 _).mono ?_
          rintro e w8 ⟨rfl, hm8⟩
          replace hm := (hm.alloc _).and hm8
          go_wp2
          go_ret
          exact ⟨rfl, hm⟩
        · obtain ⟨rfl, rfl, rfl, rfl⟩ := HN.out hz
          clear HT HN
          go_wp2
          go_ret
          exact ⟨rfl, hm.alloc _⟩
      · clear ho hk HO2 kr
        go_wp2_with (fail)
        refine (HK _).mono ?_
        rintro e w5 ⟨rfl, hm5⟩
        replace x0 : w5.cell? ⟨w.heap.size + 2, 0, none⟩ = some (.int .u64 A) := hm5.cell (x0 _) (fun h => h)
        replace x1 : w5.cell? ⟨w.heap.size + 2, 1, none⟩ = some (.int .u64 B) := hm5.cell (x1 _) (fun h => h)
        replace hm := (hm.alloc _).and hm5
        clear hm5 HK
        go_wp2_with (fail)
        refine (HU _).mono ?_
        rintro e w6 ⟨rfl, hm6⟩
        replace x0 : w6.cell? ⟨w.heap.size + 2, 0, none⟩ = some (.int .u64 A) := hm6.cell x0 (fun h => h)
        replace x1 : w6.cell? ⟨w.heap.size + 2, 1, none⟩ = some (.int .u64 B) := hm6.cell x1 (fun h => h)
        replace x0 := fun o => ((Mod.refl (fun _ => False) w6).alloc o).cell x0 (fun h => h)
        replace x1 := fun o => ((Mod.refl (fun _ => False) w6).alloc o).cell x1 (fun h => h)
        replace hm := hm.and hm6
        clear hm6 HU
        by_cases hz : F = 0
        · obtain ⟨HP2, HC2⟩ := HT.out hz
          subst hz
          clear HT HN
          go_wp2_with (fail)
          refine (HP2 _).mono ?_
          rintro e w7 ⟨rfl, hm7⟩
          replace x0 : w7.cell? ⟨w.heap.size + 2, 0, none⟩ = some (.int .u64 A) := hm7.cell (x0 _) (fun h => h)
          replace x1 : w7.cell? ⟨w.heap.size + 2, 1, none⟩ = some (.int .u64 B) := hm7.cell (x1 _) (fun h => h)
          have k0 : w7.cell? ⟨w6.heap.size, 0, none⟩ = some (.int .i64 S) := hm7.cell (by simp [go_sem]) (fun h => h)
          have k1 : w7.cell? ⟨w6.heap.size, 1, none⟩ = some (.int .i64 U) := hm7.cell (by simp [go_sem]) (fun h => h)
          have k2 : w7.cell? ⟨w6.heap.size, 2, none⟩ = some (.int .i64 V) := hm7.cell (by simp [go_sem]) (fun h => h)
          have k3 : w7.cell? ⟨w6.heap.size, 3, none⟩ = some (.int .i64 N) := hm7.cell (by simp [go_sem]) (fun h => h)
          replace x0 := fun o => ((Mod.refl (fun _ => False) w7).alloc o).cell x0 (fun h => h)
          replace x1 := fun o => ((Mod.refl (fun _ => False) w7).alloc o).cell x1 (fun h => h)
          replace k0 := fun o => ((Mod.refl (fun _ => False) w7).alloc o).cell k0 (fun h => h)
          replace k1 := fun o => ((Mod.refl (fun _ => False) w7).alloc o).cell k1 (fun h => h)
          replace k2 := fun o => ((Mod.refl (fun _ => False) w7).alloc o).cell k2 (fun h => h)
          replace k3 := fun o => ((Mod.refl (fun _ => False) w7).alloc o).cell k3 (fun h => h)
          replace hm := (hm.alloc _).and hm7
          clear hm7 HP2
          go_wp2_with (fail)
          refine (HC2 _).mono ?_
          rintro e w8 ⟨rfl, hm8⟩
          replace hm := (hm.alloc _).and hm8
          go_wp2
          go_ret
          exact ⟨rfl, hm⟩
        · obtain ⟨rfl, rfl, rfl, rfl⟩ := HN.out hz
          clear HT HN
          go_wp2
          go_ret
          exact ⟨rfl, hm.alloc _⟩
    · clear HO2 kr HK
      go_wp2_with (fail)
      refine (HU _).mono ?_
      rintro e w6 ⟨rfl, hm6⟩
      replace x0 : w6.cell? ⟨w.heap.size + 2, 0, none⟩ = some (.int .u64 A) := hm6.cell (x0 _) (fun h => h)
      replace x1 : w6.cell? ⟨w.heap.size + 2, 1, none⟩ = some (.int .u64 B) := hm6.cell (x1 _) (fun h => h)
      replace x0 := fun o => ((Mod.refl (fun _ => False) w6).alloc o).cell x0 (fun h => h)
      replace x1 := fun o => ((Mod.refl (fun _ => False) w6).alloc o).cell x1 (fun h => h)
      replace hm := (hm.alloc _).and hm6
      clear hm6 HU
      by_cases hz : F = 0
      · obtain ⟨HP2, HC2⟩ := HT.out hz
        subst hz
        clear HT HN
        go_wp2_with (fail)
        refine (HP2 _).mono ?_
        rintro e w7 ⟨rfl, hm7⟩
        replace x0 : w7.cell? ⟨w.heap.size + 2, 0, none⟩ = some (.int .u64 A) := hm7.cell (x0 _) (fun h => h)
        replace x1 : w7.cell? ⟨w.heap.size + 2, 1, none⟩ = some (.int .u64 B) := hm7.cell (x1 _) (fun h => h)
        have k0 : w7.cell? ⟨w6.heap.size, 0, none⟩ = some (.int .i64 S) := hm7.cell (by simp [go_sem]) (fun h => h)
        have k1 : w7.cell? ⟨w6.heap.size, 1, none⟩ = some (.int .i64 U) := hm7.cell (by simp [go_sem]) (fun h => h)
        have k2 : w7.cell? ⟨w6.heap.size, 2, none⟩ = some (.int .i64 V) := hm7.cell (by simp [go_sem]) (fun h => h)
        have k3 : w7.cell? ⟨w6.heap.size, 3, none⟩ = some (.int .i64 N) := hm7.cell (by simp [go_sem]) (fun h => h)
        replace x0 := fun o => ((Mod.refl (fun _ => False) w7).alloc o).cell x0 (fun h => h)
        replace x1 := fun o => ((Mod.refl (fun _ => False) w7).alloc o).cell x1 (fun h => h)
        replace k0 := fun o => ((Mod.refl (fun _ => False) w7).alloc o).cell k0 (fun h => h)
        replace k1 := fun o => ((Mod.refl (fun _ => False) w7).alloc o).cell k1 (fun h => h)
        replace k2 := fun o => ((Mod.refl (fun _ => False) w7).alloc o).cell k2 (fun h => h)
        replace k3 := fun o => ((Mod.refl (fun _ => False) w7).alloc o).cell k3 (fun h => h)
        replace hm := (hm.alloc _).and hm7
        clear hm7 HP2
        go_wp2_with (fail)
        refine (HC2 _).mono ?_
        rintro e w8 ⟨rfl, hm8⟩
        replace hm := (hm.alloc _).and hm8
        go_wp2
        go_ret
        exact ⟨rfl, hm⟩
      · obtain ⟨rfl, rfl, rfl, rfl⟩ := HN.out hz
        clear HT HN
        go_wp2
        go_ret
        exact ⟨rfl, hm.alloc _⟩
  · obtain ⟨rfl, rfl⟩ := HZ.out hE
    clear HB HZ HO kr HK
    go_wp2_with (fail)
    refine (HU _).mono ?_
    rintro e w6 ⟨rfl, hm6⟩
    replace x0 : w6.cell? ⟨w.heap.size + 2, 0, none⟩ = some (.int .u64 A) := hm6.cell (x0 _) (fun h => h)
    replace x1 : w6.cell? ⟨w.heap.size + 2, 1, none⟩ = some (.int .u64 B) := hm6.cell (x1 _) (fun h => h)
    replace x0 := fun o => ((Mod.refl (fun _ => False) w6).alloc o).cell x0 (fun h => h)
    replace x1 := fun o => ((Mod.refl (fun _ => False) w6).alloc o).cell x1 (fun h => h)
    replace hm := (hm.alloc _).and hm6
    clear hm6 HU
    by_cases hz : F = 0
    · obtain ⟨HP2, HC2⟩ := HT.out hz
      subst hz
      clear HT HN
      go_wp2_with (fail)
      refine (HP2 _).mono ?_
      rintro e w7 ⟨rfl, hm7⟩
      replace x0 : w7.cell? ⟨w.heap.size + 2, 0, none⟩ = some (.int .u64 A) := hm7.cell (x0 _) (fun h => h)
      replace x1 : w7.cell? ⟨w.heap.size + 2, 1, none⟩ = some (.int .u64 B) := hm7.cell (x1 _) (fun h => h)
      have k0 : w7.cell? ⟨w6.heap.size, 0, none⟩ = some (.int .i64 S) := hm7.cell (by simp [go_sem]) (fun h => h)
      have k1 : w7.cell? ⟨w6.heap.size, 1, none⟩ = some (.int .i64 U) := hm7.cell (by simp [go_sem]) (fun h => h)
      have k2 : w7.cell? ⟨w6.heap.size, 2, none⟩ = some (.int .i64 V) := hm7.cell (by simp [go_sem]) (fun h => h)
      have k3 : w7.cell? ⟨w6.heap.size, 3, none⟩ = some (.int .i64 N) := hm7.cell (by simp [go_sem]) (fun h => h)
      replace x0 := fun o => ((Mod.refl (fun _ => False) w7).alloc o).cell x0 (fun h => h)
      replace x1 := fun o => ((Mod.refl (fun _ => False) w7).alloc o).cell x1 (fun h => h)
      replace k0 := fun o => ((Mod.refl (fun _ => False) w7).alloc o).cell k0 (fun h => h)
      replace k1 := fun o => ((Mod.refl (fun _ => False) w7).alloc o).cell k1 (fun h => h)
      replace k2 := fun o => ((Mod.refl (fun _ => False) w7).alloc o).cell k2 (fun h => h)
      replace k3 := fun o => ((Mod.refl (fun _ => False) w7).alloc o).cell k3 (fun h => h)
      replace hm := (hm.alloc _).and hm7
      clear hm7 HP2
      go_wp2_with (fail)
      refine (HC2 _).mono ?_
      rintro e w8 ⟨rfl, hm8⟩
      replace hm := (hm.alloc _).and hm8
      go_wp2
      go_ret
      exact ⟨rfl, hm⟩
    · obtain ⟨rfl, rfl, rfl, rfl⟩ := HN.out hz
      clear HT HN
      go_wp2
      go_ret
      exact ⟨rfl, hm.alloc _⟩
namespace markBack
open Go.ChangeShapes Go.WideShapes Go.ChangeAt Go.RowKit
set_option maxRecDepth 100000 in
theorem lifted (os : Os) (started : os.Started) (H : Type) (enc : TypeId × Value → H) :
    ReturnsInHanded {} Try.checked os 6 .any (Rows.markBackSpec.pre6 enc Try.prog Try.f6 Rows.markBackRow.domain false) (Rows.markBackSpec.post enc Try.prog Try.f6 false true false false) := by
  refine returnsInHanded_of_change_sized (C := Try.checked) own started (by kernel_rfl) Try.func6
    (ChangeSpec.witness6 (enc := enc) (C := Try.checked) false ⟨#[], #[.agg #[.int .i64 0, .int .i64 0, .int .i64 0, .int .i64 0], .agg #[.int .i64 0, .int .i64 0, .int .i64 0, .int .i64 0], .agg #[.int .u64 0, .int .u64 0]], []⟩ 8 (by kernel_rfl) (by kernel_rfl) (by kernel_rfl) (by kernel_rfl)) ?_
  intro W base args ds gs before hval0 hW hcnd hsz0 _
  have hval : ∀ (j : Nat) t v, Try.f6.params[j]? = some t → args[j]? = some v → Value.okWide Try.prog W .any base t v := hval0
  have hsz : (DataW.weightsEach Try.prog (Try.f6.params.toList ++ Rows.markBackSpec.plain.varTypes Try.prog) (ds ++ gs)).all (· ≤ reachBytes) = true := hsz0
  have hW' := hW
  obtain ⟨p, q, hA0, hV, rfl, hfz, hnd⟩ := hW
  have hA : DataW.TrodAll enc Try.prog W 0 (fun _ => true) true Try.f6.params.toList args.toList ds p := hA0
  rw [Try.params6] at hA hval hsz
  obtain ⟨v0, vs0, d0, ds0, p0, q0, hargs, rfl, rfl, h0, r0⟩ := trodAll_cons hA
  obtain ⟨v1, vs1, d1, ds1, p1, q1, rfl, rfl, rfl, h1, r1⟩ := trodAll_cons r0
  obtain ⟨v2, vs2, d2, ds2, p2, q2, rfl, rfl, rfl, h2, r2⟩ := trodAll_cons r1
  obtain ⟨rfl, rfl, rfl⟩ := trodAll_nil r2
  obtain rfl : args = #[v0, v1, v2] := by cases args; simp_all
  obtain ⟨rfl, rfl⟩ := trodVars_none hV
  have k0 := h0
  have lt0 : ∀ x ∈ p0, x.block < W.heap.size := by obtain ⟨m, hm⟩ := k0; exact DataW.trod_lt m _ _ _ hm
  obtain ⟨ys0, yq0, yr0, yn0, rfl⟩ := open_key (hval 0 25 v0 rfl rfl) h0
  have k1 := h1
  have lt1 : ∀ x ∈ p1, x.block < W.heap.size := by obtain ⟨m, hm⟩ := k1; exact DataW.trod_lt m _ _ _ hm
  obtain ⟨ys1, yq1, yr1, yn1, rfl⟩ := open_key (hval 1 25 v1 rfl rfl) h1
  have k2 := h2
  have lt2 : ∀ x ∈ p2, x.block < W.heap.size := by obtain ⟨m, hm⟩ := k2; exact DataW.trod_lt m _ _ _ hm
  obtain ⟨ya2, yb2, rfl, ha2, hb2⟩ := open_two (hval 2 34 v2 rfl rfl) h2
  clear hA0 hval0
  refine (walkBack ys0 yq0 yr0 yn0 ys1 yq1 yr1 yn1 ya2 yb2 W ha2 hb2).mono fun e W' ⟨he, hm⟩ => ?_
  subst he
  have bel : Below W.heap.size W W' := hm.below _ (Nat.le_refl _) (fun _ h => h.elim)
  exact ⟨_, rfl, _, _, _, [], _, [], hW', trodAll_mk1 (shut_bool Try.underlying4 _), (trodAll_cons_mk (Below.trod laidOut (by kernel_rfl) (of_decide_eq_true (by kernel_rfl)) k0 bel lt0) (trodAll_cons_mk (Below.trod laidOut (by kernel_rfl) (of_decide_eq_true (by kernel_rfl)) k1 bel lt1) (trodAll_cons_mk (Below.trod laidOut (by kernel_rfl) (of_decide_eq_true (by kernel_rfl)) k2 bel lt2) trodAll_mk0))), rfl, bel.frame _, fun h => by cases h⟩

theorem over : Rows.markBackRow.holds Try.pinned (OpenSpec.ofChange Rows.markBackSpec) :=
  OpenClaim.holds_of_wide 6 Try.f6 rfl rfl rfl rfl rfl rfl rfl ⟨rfl, rfl, rfl, rfl, rfl⟩ rfl rfl rfl rfl rfl (by kernel_rfl) Try.func6 (by kernel_rfl)
    (of_decide_eq_true (by kernel_rfl)) (by unfold Func.isWrapper; first | (rw [if_pos (by decide +kernel)]; kernel_rfl) | (rw [if_neg (by decide +kernel)]; exact ⟨rfl, rfl⟩))
    (fun os started H enc _ => lifted os started H enc)
end markBack
theorem markBack_holds : Rows.MarkBackSaid := markBack.over
end Go.Proofs.Ytbfgnlpgfjokhaa
