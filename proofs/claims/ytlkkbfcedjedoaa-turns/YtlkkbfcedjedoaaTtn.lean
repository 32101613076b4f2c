/- TwinTurns: what goes over one by one goes over all that are well alike. For all three numbers; no conditions. -/
import Derived.Test.YtlkkbfcedjedoaaTvp
import Derived.BigQuiet
import Derived.Deep.DeepCutAuto
namespace Go.Proofs.Ytlkkbfcedjedoaa
open Go.RowKit
set_option maxRecDepth 100000 in
set_option maxHeartbeats 16000000 in
theorem turns_walk (x0 n0 b0 : Int) (w : World) (hx0 : I64 x0) (hn0 : I64 n0) (hb0 : I64 b0) :
    Calls Try.prog 8 #[.int .i64 x0, .int .i64 n0, .int .i64 b0] w fun e w' => e = .returned (.bool true) ∧ Mod (fun _ => False) w w' := by
  have HBr : ∀ (x : Int) (m : Nat), I64 x → 0 < m → m ≤ 1000 → ∃ L : Nat, L < m ∧ ∀ W, Calls Try.prog 20 #[.int .i64 x, .int .i64 (m : Int)] W fun e w' => e = .returned (.int .i64 (L : Int)) ∧ w' = W := fun x m hx h0 hm => by
    have h := br_rng x m h0
    refine ⟨(br x (m : Int)).toNat, by omega, fun W => ?_⟩
    refine (bring x m W h0 (by omega) hx).mono ?_
    rintro e w' ⟨rfl, rfl⟩
    exact ⟨by congr 2; omega, rfl⟩
  obtain ⟨L, hL, HB3⟩ := HBr x0 3 hx0 (by omega) (by omega)
  obtain ⟨Nc, hNc, HBN'⟩ := HBr n0 301 hn0 (by omega) (by omega)
  have HBN : Hid (∀ W, Calls Try.prog 20 #[.int .i64 n0, .int .i64 301] W fun e w' => e = .returned (.int .i64 (Nc : Int)) ∧ w' = W) := HBN'
  obtain ⟨B2, hB2, HB2'⟩ := HBr b0 2 hb0 (by omega) (by omega)
  obtain ⟨B4, hB4, HB4'⟩ := HBr b0 4 hb0 (by omega) (by omega)
  obtain ⟨B6, hB6, HB6'⟩ := HBr b0 6 hb0 (by omega) (by omega)
  have HBA : Hid (∀ W, Calls Try.prog 20 #[.int .i64 b0, .int .i64 2] W fun e w' => e = .returned (.int .i64 (B2 : Int)) ∧ w' = W) := HB2'
  have HBB : Hid (∀ W, Calls Try.prog 20 #[.int .i64 b0, .int .i64 4] W fun e w' => e = .returned (.int .i64 (B4 : Int)) ∧ w' = W) := HB4'
  have HBC : Hid (∀ W, Calls Try.prog 20 #[.int .i64 b0, .int .i64 6] W fun e w' => e = .returned (.int .i64 (B6 : Int)) ∧ w' = W) := HB6'
  clear HBr HB2' HB4' HB6' HBN' hx0 hn0 hb0
  go_enter Try.func8, Try.ntmps8
  go_wp2_with (fail)
  refine (works_any _).mono ?_
  rintro e w1 ⟨rfl, hm1⟩
  obtain rfl | rfl | rfl : L = 0 ∨ L = 1 ∨ L = 2 := by omega
  · have HBL : Calls Try.prog 20 #[.int .i64 x0, .int .i64 3] w1 fun e w' => e = .returned (.int .i64 0) ∧ w' = w1 := HB3 w1
    clear HB3
    go_wp2_with (fail)
    refine HBL.mono ?_
    rintro e w2 ⟨rfl, hw2⟩
    rw [hw2]
    clear hw2 HBL
    go_wp2_with (fail)
    refine (tNew_ok 3 1 1 false w1 rfl ⟨by omega, by omega⟩).mono ?_
    rintro e w2 ⟨t, X, rfl, hT, hm2, hX⟩
    have HE0 : Hid (E1 w w2 t X (tn0 3 1 1 false) (fun _ => none) 0 1) := ⟨hm1.and hm2, hT, ok0 false rfl ⟨by omega, by omega⟩, fun i hi => Nat.le_trans hm1.size (hX i hi), rfl, rfl⟩
    have HLA : Hid ((tn0 3 1 1 false).la + 1 = (tn0 3 1 1 false).sz) := rfl
    clear hm1 hm2 hT hX
    go_wp2_with (fail)
    refine (HBA.out w2).mono ?_
    rintro e w3 ⟨rfl, hw3⟩
    rw [hw3]
    clear hw3 HBA HBB HBC
    obtain rfl | rfl : B2 = 0 ∨ B2 = 1 := by omega
    · have HEq : Hid (E1 w w2 t X (tn0 3 1 1 false) (fun _ => none) 0 1) := HE0
      have HMY : Hid (My (tn0 3 1 1 false) (m3 0 0 0)) := My.start3 1 HLA.out
      obtain ⟨a, ha⟩ : ∃ a, a = tn0 3 1 1 false := ⟨_, rfl⟩
      obtain ⟨K, hK0⟩ : ∃ K : Int → Option Kw, K = fun _ => none := ⟨_, rfl⟩
      rw [← ha, ← hK0] at HEq
      rw [← ha] at HMY
      clear ha hK0 HE0 HLA
      obtain ⟨wq, hwq⟩ : ∃ W, W = w2 := ⟨_, rfl⟩
      rw [← hwq] at HEq ⊢
      clear hwq
      go_wp2
      obtain ⟨wq', hwq⟩ : ∃ W, W = wq.alloc (.cells #[.int .i64 0, .int .i64 0, .int .i64 0] 61) := ⟨_, rfl⟩
      obtain ⟨mb, hmb⟩ : ∃ mb, mb = wq.heap.size := ⟨_, rfl⟩
      have HM0 : Hid (EM w wq' t mb X a K 0 1 #[.int .i64 0, .int .i64 0, .int .i64 0]) := by rw [hwq, hmb]; exact EM.new HEq.out _
      try rw [← hwq]
      try rw [← hmb]
      clear hwq hmb HEq
      go_loopw [12] (fun i wr => ∃ (I : Nat) (a : Tn) (M0 M1 M2 : Int), i = .int .i64 (I : Int) ∧ I ≤ 301 ∧ Hid (EM w wr t mb X a K (0 + I) 1 #[.int .i64 M0, .int .i64 M1, .int .i64 M2]) ∧ Hid (My a (m3 M0 M1 M2)) ∧ Hid ((0 ≤ M0 ∧ M0 ≤ I) ∧ (0 ≤ M1 ∧ M1 ≤ I) ∧ (0 ≤ M2 ∧ M2 ≤ I))) (fun i _ => 301 - (intOf i).toNat)
      case atStart => exact ⟨0, a, 0, 0, 0, rfl, by omega, HM0, HMY, by refine ⟨?_, ?_, ?_⟩ <;> omega⟩
      case round =>
        obtain ⟨I, a1, M0, M1, M2, rfl, hI, hE, hMy, hRg⟩ := hrel
        clear HM0 HMY
        go_wp2_with (fail)
        refine (HBN.out wr).mono ?_
        rintro e w4 ⟨rfl, hw4⟩
        rw [hw4]
        clear hw4
        by_cases hIn : I < Nc
        · have hIi : (I : Int) < (Nc : Int) := by omega
          have HW := hE.out.wrap (by omega)
          obtain ⟨hx1, hx2⟩ := nx_well hE.out.e.ta
          have hsz := hE.out.e.sz
          have hstep := wrap_My hE.out.e.ac (hMy.out.step hE.out.e.ta)
          have hfe := wrap_f hE.out.e.ac
          have hr := hRg.out
          generalize hnx : a1.nx = p at HW hx1 hx2 hstep
          rw [hsz] at hx1
          clear hnx hsz
          obtain rfl : p = 0 := by omega
          · have HW1 : Hid (Calls Try.prog 21 #[.pointer (some ⟨t, 0, none⟩), .slice none 0 0] wr fun e w' => ∃ v', e = .returned (.tuple #[v', .int .i64 1, .int .i64 0]) ∧ EM w w' t mb X a1.wrap K (0 + I + 1) 1 #[.int .i64 M0, .int .i64 M1, .int .i64 M2]) := HW
            have hov := over_not a1.f (z := 1) (s := 0) (by omega) (by omega) hx2
            have hov1 : bits .and .i64 1 ((on a1.f true 1 : Nat) : Int) = 0 := hov
            have hMy' : Hid (My a1.wrap (m3 (M0 + 1) M1 M2)) := by
              have e : (fun k => if k = 0 then m3 M0 M1 M2 k + 1 else m3 M0 M1 M2 k) = m3 (M0 + 1) M1 M2 := by
                funext k
                by_cases h0 : k = 0
                · subst h0; simp [m3]
                · by_cases h1 : k = 1
                  · subst h1; simp [m3]
                  · by_cases h2 : k = 2
                    · subst h2; simp [m3]
                    · simp [m3, h0, h1, h2]
              rw [← e]
              exact hstep
            have hMp : 0 ≤ M0 ∧ M0 ≤ 301 := by omega
            have hRg' : Hid ((0 ≤ M0 + 1 ∧ M0 + 1 ≤ ((I + 1 : Nat) : Int)) ∧ (0 ≤ M1 ∧ M1 ≤ ((I + 1 : Nat) : Int)) ∧ (0 ≤ M2 ∧ M2 ≤ ((I + 1 : Nat) : Int))) := by refine ⟨?_, ?_, ?_⟩ <;> omega
            clear HW hov hstep hx1 hx2 hr hRg hMy
            go_wp2_with (fail)
            refine HW1.out.mono ?_
            rintro e w5 ⟨vx, rfl, hE5⟩
            have HF := hE5.e.faulty
            rw [hfe] at HF
            have HEs := hE5.store 0 (.int .i64 (M0 + 1))
            have cp : w5.cell? ⟨mb, 0, none⟩ = some (.int .i64 M0) := hE5.blk.cellv (j := 0) rfl
            have fp : w5.frozen? ⟨mb, 0, none⟩ = false := hE5.blk.frz 0
            have HE5 : Hid (EM w (w5.setCell ⟨mb, 0, none⟩ (.int .i64 (M0 + 1))) t mb X a1.wrap K (0 + I + 1) 1 #[.int .i64 (M0 + 1), .int .i64 M1, .int .i64 M2]) := HEs
            clear HEs hE5 HW1 hfe hE
            generalize on a1.f true 1 = F1 at *
            go_wp2_with (fail)
            refine HF.mono ?_
            rintro e w6 ⟨rfl, hw6⟩
            rw [hw6]
            clear hw6 HF
            go_wp2
            go_roundw
            case rel => exact ⟨I + 1, a1.wrap, _, _, _, by go_num, by omega, HE5, hMy', hRg'⟩
            case measure => simp [intOf]; omega
        · have hIi : ¬ (I : Int) < (Nc : Int) := by omega
          obtain ⟨q, hq1, hq2, hnear⟩ := hMy.out.near hE.out.e.ta (fun k hk => by
            have hr := hRg.out
            unfold m3
            split
            · omega
            · split
              · omega
              · split <;> omega)
          rw [hE.out.e.sz] at hnear
          have HNR : Hid (∀ k, k < 1 → a1.f k = false → q ≤ m3 M0 M1 M2 k ∧ m3 M0 M1 M2 k ≤ q + 1) := hnear
          have HR3 : Hid (∀ k, k < 3 → 0 ≤ m3 M0 M1 M2 k ∧ m3 M0 M1 M2 k ≤ 301) := fun k hk => by
            have hr := hRg.out
            unfold m3
            split
            · omega
            · split
              · omega
              · split <;> omega
          have HC3 : Hid (∀ k, k < 3 → wr.cell? ⟨mb, k, none⟩ = some (.int .i64 (m3 M0 M1 M2 k))) := fun k hk => m3_cell hE.out.blk k hk
          have HF3 : Hid (Calls Try.prog 27 #[.pointer (some ⟨t, 0, none⟩)] wr fun e w' => e = .returned (.int .i64 (on a1.f true 1 : Nat)) ∧ w' = wr) := hE.out.e.faulty
          have HBT : Hid (∀ k, k < 1 → (bits .and .i64 (((on a1.f true 1 : Nat) : Int) / 2 ^ k) 1 == 0) = !a1.f k) := fun k hk => faulty_bit a1.f (by omega) hk
          have HMM : Hid (Mod (fun _ => False) w wr) := hE.out.e.m
          clear hnear hMy hE hRg
          generalize on a1.f true 1 = F1 at *
          generalize m3 M0 M1 M2 = mm at *
          generalize a1.f = ff at *
          go_wp2
          go_loopw [16, 17, 18] (fun lv mv kv wz => ∃ (k : Nat) (l m : Int), lv = .int .i64 l ∧ mv = .int .i64 m ∧ kv = .int .i64 (k : Int) ∧ k ≤ 1 ∧ wz = wr ∧ 0 ≤ l ∧ q ≤ l ∧ l ≤ 1073741824 ∧ 0 ≤ m ∧ m ≤ q + 1) (fun _ _ kv _ => 1 - (intOf kv).toNat)
          case atStart => exact ⟨0, 1073741824, 0, rfl, rfl, rfl, by omega, rfl, by omega, by omega, by omega, by omega, by omega⟩
          case round =>
            obtain ⟨k, l, m, rfl, rfl, rfl, hk, rfl, hl0, hlq, hl1, hm0, hmq⟩ := hrel
            by_cases hkz : k < 1
            · have hki : (k : Int) < 1 := by omega
              have hbt := HBT.out k hkz
              have hc := HC3.out k (by omega)
              obtain ⟨hr0, hr1⟩ := HR3.out k (by omega)
              have hnr := HNR.out k hkz
              go_wp2_with (fail)
              refine HF3.out.mono ?_
              rintro e w6 ⟨rfl, hw6⟩
              rw [hw6]
              clear hw6
              generalize mm k = mk at hc hr0 hr1 hnr
              cases hfk : ff k with
              | true =>
                rw [hfk] at hbt
                simp only [Bool.not_true] at hbt
                clear hnr hc
                go_wp2
                go_roundw
                case rel => exact ⟨k + 1, l, m, rfl, rfl, by go_num, by omega, by first | trivial | rfl, hl0, hlq, hl1, hm0, hmq⟩
                case measure => simp [intOf]; omega
              | false =>
                rw [hfk] at hbt
                simp only [Bool.not_false] at hbt
                obtain ⟨hn1, hn2⟩ := hnr hfk
                clear hnr
                go_wp2
                go_roundw
                case rel => exact ⟨k + 1, min l mk, max m mk, by first | rfl | (congr 1; omega), by first | rfl | (congr 1; omega), by go_num, by omega, by first | trivial | rfl, by omega, by omega, by omega, by omega, by omega⟩
                case measure => simp [intOf]; omega
            · have hki : ¬ (k : Int) < 1 := by omega
              have hml : m - l ≤ 1 := by omega
              go_wp2
              go_ret
              exact ⟨by first | rfl | simp [hml], HMM.out⟩
    · have HEq : Hid (E1 w w2 t X (tn0 3 1 1 false) (fun _ => none) 0 1) := HE0
      have HMY : Hid (My (tn0 3 1 1 false) (m3 0 0 0)) := My.start3 1 HLA.out
      obtain ⟨a, ha⟩ : ∃ a, a = tn0 3 1 1 false := ⟨_, rfl⟩
      obtain ⟨K, hK0⟩ : ∃ K : Int → Option Kw, K = fun _ => none := ⟨_, rfl⟩
      rw [← ha, ← hK0] at HEq
      rw [← ha] at HMY
      clear ha hK0 HE0 HLA
      obtain ⟨wq, hwq⟩ : ∃ W, W = w2 := ⟨_, rfl⟩
      rw [← hwq] at HEq ⊢
      clear hwq
      go_wp2
      obtain ⟨wq', hwq⟩ : ∃ W, W = wq.alloc (.cells #[.int .i64 0, .int .i64 0, .int .i64 0] 61) := ⟨_, rfl⟩
      obtain ⟨mb, hmb⟩ : ∃ mb, mb = wq.heap.size := ⟨_, rfl⟩
      have HM0 : Hid (EM w wq' t mb X a K 0 1 #[.int .i64 0, .int .i64 0, .int .i64 0]) := by rw [hwq, hmb]; exact EM.new HEq.out _
      try rw [← hwq]
      try rw [← hmb]
      clear hwq hmb HEq
      go_loopw [12] (fun i wr => ∃ (I : Nat) (a : Tn) (M0 M1 M2 : Int), i = .int .i64 (I : Int) ∧ I ≤ 301 ∧ Hid (EM w wr t mb X a K (0 + I) 1 #[.int .i64 M0, .int .i64 M1, .int .i64 M2]) ∧ Hid (My a (m3 M0 M1 M2)) ∧ Hid ((0 ≤ M0 ∧ M0 ≤ I) ∧ (0 ≤ M1 ∧ M1 ≤ I) ∧ (0 ≤ M2 ∧ M2 ≤ I))) (fun i _ => 301 - (intOf i).toNat)
      case atStart => exact ⟨0, a, 0, 0, 0, rfl, by omega, HM0, HMY, by refine ⟨?_, ?_, ?_⟩ <;> omega⟩
      case round =>
        obtain ⟨I, a1, M0, M1, M2, rfl, hI, hE, hMy, hRg⟩ := hrel
        clear HM0 HMY
        go_wp2_with (fail)
        refine (HBN.out wr).mono ?_
        rintro e w4 ⟨rfl, hw4⟩
        rw [hw4]
        clear hw4
        by_cases hIn : I < Nc
        · have hIi : (I : Int) < (Nc : Int) := by omega
          have HW := hE.out.wrap (by omega)
          obtain ⟨hx1, hx2⟩ := nx_well hE.out.e.ta
          have hsz := hE.out.e.sz
          have hstep := wrap_My hE.out.e.ac (hMy.out.step hE.out.e.ta)
          have hfe := wrap_f hE.out.e.ac
          have hr := hRg.out
          generalize hnx : a1.nx = p at HW hx1 hx2 hstep
          rw [hsz] at hx1
          clear hnx hsz
          obtain rfl : p = 0 := by omega
          · have HW1 : Hid (Calls Try.prog 21 #[.pointer (some ⟨t, 0, none⟩), .slice none 0 0] wr fun e w' => ∃ v', e = .returned (.tuple #[v', .int .i64 1, .int .i64 0]) ∧ EM w w' t mb X a1.wrap K (0 + I + 1) 1 #[.int .i64 M0, .int .i64 M1, .int .i64 M2]) := HW
            have hov := over_not a1.f (z := 1) (s := 0) (by omega) (by omega) hx2
            have hov1 : bits .and .i64 1 ((on a1.f true 1 : Nat) : Int) = 0 := hov
            have hMy' : Hid (My a1.wrap (m3 (M0 + 1) M1 M2)) := by
              have e : (fun k => if k = 0 then m3 M0 M1 M2 k + 1 else m3 M0 M1 M2 k) = m3 (M0 + 1) M1 M2 := by
                funext k
                by_cases h0 : k = 0
                · subst h0; simp [m3]
                · by_cases h1 : k = 1
                  · subst h1; simp [m3]
                  · by_cases h2 : k = 2
                    · subst h2; simp [m3]
                    · simp [m3, h0, h1, h2]
              rw [← e]
              exact hstep
            have hMp : 0 ≤ M0 ∧ M0 ≤ 301 := by omega
            have hRg' : Hid ((0 ≤ M0 + 1 ∧ M0 + 1 ≤ ((I + 1 : Nat) : Int)) ∧ (0 ≤ M1 ∧ M1 ≤ ((I + 1 : Nat) : Int)) ∧ (0 ≤ M2 ∧ M2 ≤ ((I + 1 : Nat) : Int))) := by refine ⟨?_, ?_, ?_⟩ <;> omega
            clear HW hov hstep hx1 hx2 hr hRg hMy
            go_wp2_with (fail)
            refine HW1.out.mono ?_
            rintro e w5 ⟨vx, rfl, hE5⟩
            have HF := hE5.e.faulty
            rw [hfe] at HF
            have HEs := hE5.store 0 (.int .i64 (M0 + 1))
            have cp : w5.cell? ⟨mb, 0, none⟩ = some (.int .i64 M0) := hE5.blk.cellv (j := 0) rfl
            have fp : w5.frozen? ⟨mb, 0, none⟩ = false := hE5.blk.frz 0
            have HE5 : Hid (EM w (w5.setCell ⟨mb, 0, none⟩ (.int .i64 (M0 + 1))) t mb X a1.wrap K (0 + I + 1) 1 #[.int .i64 (M0 + 1), .int .i64 M1, .int .i64 M2]) := HEs
            clear HEs hE5 HW1 hfe hE
            generalize on a1.f true 1 = F1 at *
            go_wp2_with (fail)
            refine HF.mono ?_
            rintro e w6 ⟨rfl, hw6⟩
            rw [hw6]
            clear hw6 HF
            go_wp2
            go_roundw
            case rel => exact ⟨I + 1, a1.wrap, _, _, _, by go_num, by omega, HE5, hMy', hRg'⟩
            case measure => simp [intOf]; omega
        · have hIi : ¬ (I : Int) < (Nc : Int) := by omega
          obtain ⟨q, hq1, hq2, hnear⟩ := hMy.out.near hE.out.e.ta (fun k hk => by
            have hr := hRg.out
            unfold m3
            split
            · omega
            · split
              · omega
              · split <;> omega)
          rw [hE.out.e.sz] at hnear
          have HNR : Hid (∀ k, k < 1 → a1.f k = false → q ≤ m3 M0 M1 M2 k ∧ m3 M0 M1 M2 k ≤ q + 1) := hnear
          have HR3 : Hid (∀ k, k < 3 → 0 ≤ m3 M0 M1 M2 k ∧ m3 M0 M1 M2 k ≤ 301) := fun k hk => by
            have hr := hRg.out
            unfold m3
            split
            · omega
            · split
              · omega
              · split <;> omega
          have HC3 : Hid (∀ k, k < 3 → wr.cell? ⟨mb, k, none⟩ = some (.int .i64 (m3 M0 M1 M2 k))) := fun k hk => m3_cell hE.out.blk k hk
          have HF3 : Hid (Calls Try.prog 27 #[.pointer (some ⟨t, 0, none⟩)] wr fun e w' => e = .returned (.int .i64 (on a1.f true 1 : Nat)) ∧ w' = wr) := hE.out.e.faulty
          have HBT : Hid (∀ k, k < 1 → (bits .and .i64 (((on a1.f true 1 : Nat) : Int) / 2 ^ k) 1 == 0) = !a1.f k) := fun k hk => faulty_bit a1.f (by omega) hk
          have HMM : Hid (Mod (fun _ => False) w wr) := hE.out.e.m
          clear hnear hMy hE hRg
          generalize on a1.f true 1 = F1 at *
          generalize m3 M0 M1 M2 = mm at *
          generalize a1.f = ff at *
          go_wp2
          go_loopw [16, 17, 18] (fun lv mv kv wz => ∃ (k : Nat) (l m : Int), lv = .int .i64 l ∧ mv = .int .i64 m ∧ kv = .int .i64 (k : Int) ∧ k ≤ 1 ∧ wz = wr ∧ 0 ≤ l ∧ q ≤ l ∧ l ≤ 1073741824 ∧ 0 ≤ m ∧ m ≤ q + 1) (fun _ _ kv _ => 1 - (intOf kv).toNat)
          case atStart => exact ⟨0, 1073741824, 0, rfl, rfl, rfl, by omega, rfl, by omega, by omega, by omega, by omega, by omega⟩
          case round =>
            obtain ⟨k, l, m, rfl, rfl, rfl, hk, rfl, hl0, hlq, hl1, hm0, hmq⟩ := hrel
            by_cases hkz : k < 1
            · have hki : (k : Int) < 1 := by omega
              have hbt := HBT.out k hkz
              have hc := HC3.out k (by omega)
              obtain ⟨hr0, hr1⟩ := HR3.out k (by omega)
              have hnr := HNR.out k hkz
              go_wp2_with (fail)
              refine HF3.out.mono ?_
              rintro e w6 ⟨rfl, hw6⟩
              rw [hw6]
              clear hw6
              generalize mm k = mk at hc hr0 hr1 hnr
              cases hfk : ff k with
              | true =>
                rw [hfk] at hbt
                simp only [Bool.not_true] at hbt
                clear hnr hc
                go_wp2
                go_roundw
                case rel => exact ⟨k + 1, l, m, rfl, rfl, by go_num, by omega, by first | trivial | rfl, hl0, hlq, hl1, hm0, hmq⟩
                case measure => simp [intOf]; omega
              | false =>
                rw [hfk] at hbt
                simp only [Bool.not_false] at hbt
                obtain ⟨hn1, hn2⟩ := hnr hfk
                clear hnr
                go_wp2
                go_roundw
                case rel => exact ⟨k + 1, min l mk, max m mk, by first | rfl | (congr 1; omega), by first | rfl | (congr 1; omega), by go_num, by omega, by first | trivial | rfl, by omega, by omega, by omega, by omega, by omega⟩
                case measure => simp [intOf]; omega
            · have hki : ¬ (k : Int) < 1 := by omega
              have hml : m - l ≤ 1 := by omega
              go_wp2
              go_ret
              exact ⟨by first | rfl | simp [hml], HMM.out⟩
  · have HBL : Calls Try.prog 20 #[.int .i64 x0, .int .i64 3] w1 fun e w' => e = .returned (.int .i64 1) ∧ w' = w1 := HB3 w1
    clear HB3
    go_wp2_with (fail)
    refine HBL.mono ?_
    rintro e w2 ⟨rfl, hw2⟩
    rw [hw2]
    clear hw2 HBL
    go_wp2_with (fail)
    refine (tNew_ok 3 1 2 false w1 rfl ⟨by omega, by omega⟩).mono ?_
    rintro e w2 ⟨t, X, rfl, hT, hm2, hX⟩
    have HE0 : Hid (E1 w w2 t X (tn0 3 1 2 false) (fun _ => none) 0 2) := ⟨hm1.and hm2, hT, ok0 false rfl ⟨by omega, by omega⟩, fun i hi => Nat.le_trans hm1.size (hX i hi), rfl, rfl⟩
    have HLA : Hid ((tn0 3 1 2 false).la + 1 = (tn0 3 1 2 false).sz) := rfl
    clear hm1 hm2 hT hX
    go_wp2_with (fail)
    refine (HBB.out w2).mono ?_
    rintro e w3 ⟨rfl, hw3⟩
    rw [hw3]
    clear hw3 HBA HBB HBC
    by_cases hbz : 2 ≤ B4
    · have hbi : ¬ (B4 : Int) < 2 := by omega
      have HEq : Hid (E1 w w2 t X (tn0 3 1 2 false) (fun _ => none) 0 2) := HE0
      have HMY : Hid (My (tn0 3 1 2 false) (m3 0 0 0)) := My.start3 2 HLA.out
      obtain ⟨a, ha⟩ : ∃ a, a = tn0 3 1 2 false := ⟨_, rfl⟩
      obtain ⟨K, hK0⟩ : ∃ K : Int → Option Kw, K = fun _ => none := ⟨_, rfl⟩
      rw [← ha, ← hK0] at HEq
      rw [← ha] at HMY
      clear ha hK0 HE0 HLA
      obtain ⟨wq, hwq⟩ : ∃ W, W = w2 := ⟨_, rfl⟩
      rw [← hwq] at HEq ⊢
      clear hwq
      go_wp2
      obtain ⟨wq', hwq⟩ : ∃ W, W = wq.alloc (.cells #[.int .i64 0, .int .i64 0, .int .i64 0] 61) := ⟨_, rfl⟩
      obtain ⟨mb, hmb⟩ : ∃ mb, mb = wq.heap.size := ⟨_, rfl⟩
      have HM0 : Hid (EM w wq' t mb X a K 0 2 #[.int .i64 0, .int .i64 0, .int .i64 0]) := by rw [hwq, hmb]; exact EM.new HEq.out _
      try rw [← hwq]
      try rw [← hmb]
      clear hwq hmb HEq
      go_loopw [12] (fun i wr => ∃ (I : Nat) (a : Tn) (M0 M1 M2 : Int), i = .int .i64 (I : Int) ∧ I ≤ 301 ∧ Hid (EM w wr t mb X a K (0 + I) 2 #[.int .i64 M0, .int .i64 M1, .int .i64 M2]) ∧ Hid (My a (m3 M0 M1 M2)) ∧ Hid ((0 ≤ M0 ∧ M0 ≤ I) ∧ (0 ≤ M1 ∧ M1 ≤ I) ∧ (0 ≤ M2 ∧ M2 ≤ I))) (fun i _ => 301 - (intOf i).toNat)
      case atStart => exact ⟨0, a, 0, 0, 0, rfl, by omega, HM0, HMY, by refine ⟨?_, ?_, ?_⟩ <;> omega⟩
      case round =>
        obtain ⟨I, a1, M0, M1, M2, rfl, hI, hE, hMy, hRg⟩ := hrel
        clear HM0 HMY
        go_wp2_with (fail)
        refine (HBN.out wr).mono ?_
        rintro e w4 ⟨rfl, hw4⟩
        rw [hw4]
        clear hw4
        by_cases hIn : I < Nc
        · have hIi : (I : Int) < (Nc : Int) := by omega
          have HW := hE.out.wrap (by omega)
          obtain ⟨hx1, hx2⟩ := nx_well hE.out.e.ta
          have hsz := hE.out.e.sz
          have hstep := wrap_My hE.out.e.ac (hMy.out.step hE.out.e.ta)
          have hfe := wrap_f hE.out.e.ac
          have hr := hRg.out
          generalize hnx : a1.nx = p at HW hx1 hx2 hstep
          rw [hsz] at hx1
          clear hnx hsz
          obtain rfl | rfl : p = 0 ∨ p = 1 := by omega
          · have HW1 : Hid (Calls Try.prog 21 #[.pointer (some ⟨t, 0, none⟩), .slice none 0 0] wr fun e w' => ∃ v', e = .returned (.tuple #[v', .int .i64 1, .int .i64 0]) ∧ EM w w' t mb X a1.wrap K (0 + I + 1) 2 #[.int .i64 M0, .int .i64 M1, .int .i64 M2]) := HW
            have hov := over_not a1.f (z := 2) (s := 0) (by omega) (by omega) hx2
            have hov1 : bits .and .i64 1 ((on a1.f true 2 : Nat) : Int) = 0 := hov
            have hMy' : Hid (My a1.wrap (m3 (M0 + 1) M1 M2)) := by
              have e : (fun k => if k = 0 then m3 M0 M1 M2 k + 1 else m3 M0 M1 M2 k) = m3 (M0 + 1) M1 M2 := by
                funext k
                by_cases h0 : k = 0
                · subst h0; simp [m3]
                · by_cases h1 : k = 1
                  · subst h1; simp [m3]
                  · by_cases h2 : k = 2
                    · subst h2; simp [m3]
                    · simp [m3, h0, h1, h2]
              rw [← e]
              exact hstep
            have hMp : 0 ≤ M0 ∧ M0 ≤ 301 := by omega
            have hRg' : Hid ((0 ≤ M0 + 1 ∧ M0 + 1 ≤ ((I + 1 : Nat) : Int)) ∧ (0 ≤ M1 ∧ M1 ≤ ((I + 1 : Nat) : Int)) ∧ (0 ≤ M2 ∧ M2 ≤ ((I + 1 : Nat) : Int))) := by refine ⟨?_, ?_, ?_⟩ <;> omega
            clear HW hov hstep hx1 hx2 hr hRg hMy
            go_wp2_with (fail)
            refine HW1.out.mono ?_
            rintro e w5 ⟨vx, rfl, hE5⟩
            have HF := hE5.e.faulty
            rw [hfe] at HF
            have HEs := hE5.store 0 (.int .i64 (M0 + 1))
            have cp : w5.cell? ⟨mb, 0, none⟩ = some (.int .i64 M0) := hE5.blk.cellv (j := 0) rfl
            have fp : w5.frozen? ⟨mb, 0, none⟩ = false := hE5.blk.frz 0
            have HE5 : Hid (EM w (w5.setCell ⟨mb, 0, none⟩ (.int .i64 (M0 + 1))) t mb X a1.wrap K (0 + I + 1) 2 #[.int .i64 (M0 + 1), .int .i64 M1, .int .i64 M2]) := HEs
            clear HEs hE5 HW1 hfe hE
            generalize on a1.f true 2 = F1 at *
            go_wp2_with (fail)
            refine HF.mono ?_
            rintro e w6 ⟨rfl, hw6⟩
            rw [hw6]
            clear hw6 HF
            go_wp2
            go_roundw
            case rel => exact ⟨I + 1, a1.wrap, _, _, _, by go_num, by omega, HE5, hMy', hRg'⟩
            case measure => simp [intOf]; omega
          · have HW1 : Hid (Calls Try.prog 21 #[.pointer (some ⟨t, 0, none⟩), .slice none 0 0] wr fun e w' => ∃ v', e = .returned (.tuple #[v', .int .i64 2, .int .i64 0]) ∧ EM w w' t mb X a1.wrap K (0 + I + 1) 2 #[.int .i64 M0, .int .i64 M1, .int .i64 M2]) := HW
            have hov := over_not a1.f (z := 2) (s := 1) (by omega) (by omega) hx2
            have hov1 : bits .and .i64 2 ((on a1.f true 2 : Nat) : Int) = 0 := hov
            have hMy' : Hid (My a1.wrap (m3 M0 (M1 + 1) M2)) := by
              have e : (fun k => if k = 1 then m3 M0 M1 M2 k + 1 else m3 M0 M1 M2 k) = m3 M0 (M1 + 1) M2 := by
                funext k
                by_cases h0 : k = 0
                · subst h0; simp [m3]
                · by_cases h1 : k = 1
                  · subst h1; simp [m3]
                  · by_cases h2 : k = 2
                    · subst h2; simp [m3]
                    · simp [m3, h0, h1, h2]
              rw [← e]
              exact hstep
            have hMp : 0 ≤ M1 ∧ M1 ≤ 301 := by omega
            have hRg' : Hid ((0 ≤ M0 ∧ M0 ≤ ((I + 1 : Nat) : Int)) ∧ (0 ≤ M1 + 1 ∧ M1 + 1 ≤ ((I + 1 : Nat) : Int)) ∧ (0 ≤ M2 ∧ M2 ≤ ((I + 1 : Nat) : Int))) := by refine ⟨?_, ?_, ?_⟩ <;> omega
            clear HW hov hstep hx1 hx2 hr hRg hMy
            go_wp2_with (fail)
            refine HW1.out.mono ?_
            rintro e w5 ⟨vx, rfl, hE5⟩
            have HF := hE5.e.faulty
            rw [hfe] at HF
            have HEs := hE5.store 1 (.int .i64 (M1 + 1))
            have cp : w5.cell? ⟨mb, 1, none⟩ = some (.int .i64 M1) := hE5.blk.cellv (j := 1) rfl
            have fp : w5.frozen? ⟨mb, 1, none⟩ = false := hE5.blk.frz 1
            have HE5 : Hid (EM w (w5.setCell ⟨mb, 1, none⟩ (.int .i64 (M1 + 1))) t mb X a1.wrap K (0 + I + 1) 2 #[.int .i64 M0, .int .i64 (M1 + 1), .int .i64 M2]) := HEs
            clear HEs hE5 HW1 hfe hE
            generalize on a1.f true 2 = F1 at *
            go_wp2_with (fail)
            refine HF.mono ?_
            rintro e w6 ⟨rfl, hw6⟩
            rw [hw6]
            clear hw6 HF
            go_wp2
            go_roundw
            case rel => exact ⟨I + 1, a1.wrap, _, _, _, by go_num, by omega, HE5, hMy', hRg'⟩
            case measure => simp [intOf]; omega
        · have hIi : ¬ (I : Int) < (Nc : Int) := by omega
          obtain ⟨q, hq1, hq2, hnear⟩ := hMy.out.near hE.out.e.ta (fun k hk => by
            have hr := hRg.out
            unfold m3
            split
            · omega
            · split
              · omega
              · split <;> omega)
          rw [hE.out.e.sz] at hnear
          have HNR : Hid (∀ k, k < 2 → a1.f k = false → q ≤ m3 M0 M1 M2 k ∧ m3 M0 M1 M2 k ≤ q + 1) := hnear
          have HR3 : Hid (∀ k, k < 3 → 0 ≤ m3 M0 M1 M2 k ∧ m3 M0 M1 M2 k ≤ 301) := fun k hk => by
            have hr := hRg.out
            unfold m3
            split
            · omega
            · split
              · omega
              · split <;> omega
          have HC3 : Hid (∀ k, k < 3 → wr.cell? ⟨mb, k, none⟩ = some (.int .i64 (m3 M0 M1 M2 k))) := fun k hk => m3_cell hE.out.blk k hk
          have HF3 : Hid (Calls Try.prog 27 #[.pointer (some ⟨t, 0, none⟩)] wr fun e w' => e = .returned (.int .i64 (on a1.f true 2 : Nat)) ∧ w' = wr) := hE.out.e.faulty
          have HBT : Hid (∀ k, k < 2 → (bits .and .i64 (((on a1.f true 2 : Nat) : Int) / 2 ^ k) 1 == 0) = !a1.f k) := fun k hk => faulty_bit a1.f (by omega) hk
          have HMM : Hid (Mod (fun _ => False) w wr) := hE.out.e.m
          clear hnear hMy hE hRg
          generalize on a1.f true 2 = F1 at *
          generalize m3 M0 M1 M2 = mm at *
          generalize a1.f = ff at *
          go_wp2
          go_loopw [16, 17, 18] (fun lv mv kv wz => ∃ (k : Nat) (l m : Int), lv = .int .i64 l ∧ mv = .int .i64 m ∧ kv = .int .i64 (k : Int) ∧ k ≤ 2 ∧ wz = wr ∧ 0 ≤ l ∧ q ≤ l ∧ l ≤ 1073741824 ∧ 0 ≤ m ∧ m ≤ q + 1) (fun _ _ kv _ => 2 - (intOf kv).toNat)
          case atStart => exact ⟨0, 1073741824, 0, rfl, rfl, rfl, by omega, rfl, by omega, by omega, by omega, by omega, by omega⟩
          case round =>
            obtain ⟨k, l, m, rfl, rfl, rfl, hk, rfl, hl0, hlq, hl1, hm0, hmq⟩ := hrel
            by_cases hkz : k < 2
            · have hki : (k : Int) < 2 := by omega
              have hbt := HBT.out k hkz
              have hc := HC3.out k (by omega)
              obtain ⟨hr0, hr1⟩ := HR3.out k (by omega)
              have hnr := HNR.out k hkz
              go_wp2_with (fail)
              refine HF3.out.mono ?_
              rintro e w6 ⟨rfl, hw6⟩
              rw [hw6]
              clear hw6
              generalize mm k = mk at hc hr0 hr1 hnr
              cases hfk : ff k with
              | true =>
                rw [hfk] at hbt
                simp only [Bool.not_true] at hbt
                clear hnr hc
                go_wp2
                go_roundw
                case rel => exact ⟨k + 1, l, m, rfl, rfl, by go_num, by omega, by first | trivial | rfl, hl0, hlq, hl1, hm0, hmq⟩
                case measure => simp [intOf]; omega
              | false =>
                rw [hfk] at hbt
                simp only [Bool.not_false] at hbt
                obtain ⟨hn1, hn2⟩ := hnr hfk
                clear hnr
                go_wp2
                go_roundw
                case rel => exact ⟨k + 1, min l mk, max m mk, by first | rfl | (congr 1; omega), by first | rfl | (congr 1; omega), by go_num, by omega, by first | trivial | rfl, by omega, by omega, by omega, by omega, by omega⟩
                case measure => simp [intOf]; omega
            · have hki : ¬ (k : Int) < 2 := by omega
              have hml : m - l ≤ 1 := by omega
              go_wp2
              go_ret
              exact ⟨by first | rfl | simp [hml], HMM.out⟩
    · obtain rfl | rfl : B4 = 0 ∨ B4 = 1 := by omega
      · go_wp2
        go_loopw [9] (fun i wr => ∃ (I : Nat) (X : Nat → Prop) (a : Tn) (K : Int → Option Kw) (T : Int), i = .int .i64 (I : Int) ∧ I ≤ 11 ∧ T ≤ 2 * I ∧ Hid (E1 w wr t X a K (2 * I) 2) ∧ Hid (Ph 2 0 I 0 a) ∧ Hid (Kf K T) ∧ Hid (a.la + 1 = a.sz)) (fun i _ => 11 - (intOf i).toNat)
        case atStart => exact ⟨0, _, _, _, 0, rfl, by omega, by omega, HE0, Ph.start, .inl ⟨rfl, rfl⟩, HLA⟩
        case round =>
          obtain ⟨I, X, a, K, T, rfl, hI, hT, hE, hP, hK, hla⟩ := hrel
          clear HE0 HLA
          by_cases hI11 : I < 11
          · have hIi : (I : Int) < 11 := by omega
            go_wp2
            go_loopw [10] (fun kv wr => ∃ (k : Nat) (X : Nat → Prop) (a : Tn) (K : Int → Option Kw) (T : Int), kv = .int .i64 (k : Int) ∧ k ≤ 2 ∧ T ≤ 2 * I + k ∧ Hid (E1 w wr t X a K (2 * I + k) 2) ∧ Hid (Ph 2 0 I k a) ∧ Hid (Kf K T) ∧ Hid (a.la + 1 = a.sz)) (fun kv _ => 2 - (intOf kv).toNat)
            case atStart => exact ⟨0, X, a, K, T, rfl, by omega, by omega, hE, hP, hK, hla⟩
            case round =>
              clear hE hP hK hla hT
              obtain ⟨k, X, a, K, T, rfl, hk, hT, hE, hP, hK, hla⟩ := hrel
              by_cases hkz : k < 2
              · have hki : (k : Int) < 2 := by omega
                by_cases hkb : k = 0
                · have hne : ((k : Int) != 0) = false := by simp; omega
                  have hP2 : Hid (Ph 2 0 I (k + 1) a) := by rw [hkb]; exact Ph.skip (by have := hP.out; rwa [hkb] at this)
                  clear hP
                  go_wp2
                  go_roundw
                  case rel => exact ⟨k + 1, X, a, K, T, by go_num, by omega, by omega, hE.out.mono (by omega), hP2, hK, hla⟩
                  case measure => simp [intOf]; omega
                · have hne : ((k : Int) != 0) = true := by simp; omega
                  have hP2 : Hid (Ph 2 0 I (k + 1) (a.came k)) := hP.out.step hE.out.ta (by omega) hkz hkb
                  obtain ⟨sn, hsn⟩ : ∃ sn : Int, sn = 1 + (I : Int) * 2 + (k : Int) := ⟨_, rfl⟩
                  have hokf : okF 5 1 sn 0 = true := by unfold okF; simp; omega
                  go_wp2_with (fail)
                  rw [← hsn]
                  refine (frame_none 5 1 sn hokf wr).mono ?_
                  rintro e w6 ⟨vb, rfl, hvb, hm6, _⟩
                  have HC := (hE.out.keep hm6).comes (by omega) hkz hvb (by omega) (by omega) hK.out
                  clear hE hvb hm6 hP
                  go_wp2_with (fail)
                  refine HC.mono ?_
                  rintro e w7 ⟨X2, K2, rfl, hE7, hK7⟩
                  have HE7 : Hid (E1 w w7 t X2 (a.came k) K2 (2 * I + k + 1) 2) := hE7
                  have HK7 : Hid (Kf K2 sn) := hK7
                  clear HC hE7 hK7 hK
                  go_wp2
                  go_roundw
                  case rel => exact ⟨k + 1, X2, a.came k, K2, sn, by go_num, by omega, by omega, HE7, hP2, HK7, hla⟩
                  case measure => simp [intOf]; omega
              · have hki : ¬ (k : Int) < 2 := by omega
                have hkz' : k = 2 := by omega
                have hP2 : Hid (Ph 2 0 ((I + 1 : Nat) : Int) 0 a) := by
                  have := hP.out
                  rw [hkz'] at this
                  exact this.next (by omega)
                clear hP
                go_wp2
                go_roundw
                case rel => exact ⟨I + 1, X, a, K, T, by go_num, by omega, by omega, hE.out.mono (by omega), hP2, hK, hla⟩
                case measure => simp [intOf]; omega
          · have hIi : ¬ (I : Int) < 11 := by omega
            have hI' : I = 11 := by omega
            subst hI'
            have hdone : on a.f true 2 = 1 := Ph.done hP.out (by omega) (by omega)
            have HF : ∀ q, Calls Try.prog 27 #[.pointer (some ⟨t, 0, none⟩)] (wr.drewN q) fun e w' => e = .returned (.int .i64 1) ∧ w' = wr.drewN q := fun q => by
              have := (hE.out.keep ((Mod.refl _ wr).drewN q)).faulty
              rw [hdone] at this
              exact this
            have hsh : Hid (∀ q, E1 w (wr.drewN q) t X a K 22 2) := fun q => hE.out.keep ((Mod.refl _ wr).drewN q)
            clear hE hP hdone hT
            go_upto_region 17 with (fail)
            go_quiet (first | (go_at_call 27; exact (HF _).mono fun e w' h => ⟨h.1, _, h.2⟩))
            try generalize hwq : wr.drewN _ = wq
            have HEq : Hid (E1 w wq t X a K 22 2) := by subst hwq; exact hsh.out _
            have HMY : Hid (My a (m3 0 0 0)) := My.start3 2 hla.out
            clear hwq hsh HF hK hla
            go_wp2
            obtain ⟨wq', hwq⟩ : ∃ W, W = wq.alloc (.cells #[.int .i64 0, .int .i64 0, .int .i64 0] 61) := ⟨_, rfl⟩
            obtain ⟨mb, hmb⟩ : ∃ mb, mb = wq.heap.size := ⟨_, rfl⟩
            have HM0 : Hid (EM w wq' t mb X a K 22 2 #[.int .i64 0, .int .i64 0, .int .i64 0]) := by rw [hwq, hmb]; exact EM.new HEq.out _
            try rw [← hwq]
            try rw [← hmb]
            clear hwq hmb HEq
            go_loopw [12] (fun i wr => ∃ (I : Nat) (a : Tn) (M0 M1 M2 : Int), i = .int .i64 (I : Int) ∧ I ≤ 301 ∧ Hid (EM w wr t mb X a K (22 + I) 2 #[.int .i64 M0, .int .i64 M1, .int .i64 M2]) ∧ Hid (My a (m3 M0 M1 M2)) ∧ Hid ((0 ≤ M0 ∧ M0 ≤ I) ∧ (0 ≤ M1 ∧ M1 ≤ I) ∧ (0 ≤ M2 ∧ M2 ≤ I))) (fun i _ => 301 - (intOf i).toNat)
            case atStart => exact ⟨0, a, 0, 0, 0, rfl, by omega, HM0, HMY, by refine ⟨?_, ?_, ?_⟩ <;> omega⟩
            case round =>
              obtain ⟨I, a1, M0, M1, M2, rfl, hI, hE, hMy, hRg⟩ := hrel
              clear HM0 HMY
              go_wp2_with (fail)
              refine (HBN.out wr).mono ?_
              rintro e w4 ⟨rfl, hw4⟩
              rw [hw4]
              clear hw4
              by_cases hIn : I < Nc
              · have hIi : (I : Int) < (Nc : Int) := by omega
                have HW := hE.out.wrap (by omega)
                obtain ⟨hx1, hx2⟩ := nx_well hE.out.e.ta
                have hsz := hE.out.e.sz
                have hstep := wrap_My hE.out.e.ac (hMy.out.step hE.out.e.ta)
                have hfe := wrap_f hE.out.e.ac
                have hr := hRg.out
                generalize hnx : a1.nx = p at HW hx1 hx2 hstep
                rw [hsz] at hx1
                clear hnx hsz
                obtain rfl | rfl : p = 0 ∨ p = 1 := by omega
                · have HW1 : Hid (Calls Try.prog 21 #[.pointer (some ⟨t, 0, none⟩), .slice none 0 0] wr fun e w' => ∃ v', e = .returned (.tuple #[v', .int .i64 1, .int .i64 0]) ∧ EM w w' t mb X a1.wrap K (22 + I + 1) 2 #[.int .i64 M0, .int .i64 M1, .int .i64 M2]) := HW
                  have hov := over_not a1.f (z := 2) (s := 0) (by omega) (by omega) hx2
                  have hov1 : bits .and .i64 1 ((on a1.f true 2 : Nat) : Int) = 0 := hov
                  have hMy' : Hid (My a1.wrap (m3 (M0 + 1) M1 M2)) := by
                    have e : (fun k => if k = 0 then m3 M0 M1 M2 k + 1 else m3 M0 M1 M2 k) = m3 (M0 + 1) M1 M2 := by
                      funext k
                      by_cases h0 : k = 0
                      · subst h0; simp [m3]
                      · by_cases h1 : k = 1
                        · subst h1; simp [m3]
                        · by_cases h2 : k = 2
                          · subst h2; simp [m3]
                          · simp [m3, h0, h1, h2]
                    rw [← e]
                    exact hstep
                  have hMp : 0 ≤ M0 ∧ M0 ≤ 301 := by omega
                  have hRg' : Hid ((0 ≤ M0 + 1 ∧ M0 + 1 ≤ ((I + 1 : Nat) : Int)) ∧ (0 ≤ M1 ∧ M1 ≤ ((I + 1 : Nat) : Int)) ∧ (0 ≤ M2 ∧ M2 ≤ ((I + 1 : Nat) : Int))) := by refine ⟨?_, ?_, ?_⟩ <;> omega
                  clear HW hov hstep hx1 hx2 hr hRg hMy
                  go_wp2_with (fail)
                  refine HW1.out.mono ?_
                  rintro e w5 ⟨vx, rfl, hE5⟩
                  have HF := hE5.e.faulty
                  rw [hfe] at HF
                  have HEs := hE5.store 0 (.int .i64 (M0 + 1))
                  have cp : w5.cell? ⟨mb, 0, none⟩ = some (.int .i64 M0) := hE5.blk.cellv (j := 0) rfl
                  have fp : w5.frozen? ⟨mb, 0, none⟩ = false := hE5.blk.frz 0
                  have HE5 : Hid (EM w (w5.setCell ⟨mb, 0, none⟩ (.int .i64 (M0 + 1))) t mb X a1.wrap K (22 + I + 1) 2 #[.int .i64 (M0 + 1), .int .i64 M1, .int .i64 M2]) := HEs
                  clear HEs hE5 HW1 hfe hE
                  generalize on a1.f true 2 = F1 at *
                  go_wp2_with (fail)
                  refine HF.mono ?_
                  rintro e w6 ⟨rfl, hw6⟩
                  rw [hw6]
                  clear hw6 HF
                  go_wp2
                  go_roundw
                  case rel => exact ⟨I + 1, a1.wrap, _, _, _, by go_num, by omega, HE5, hMy', hRg'⟩
                  case measure => simp [intOf]; omega
                · have HW1 : Hid (Calls Try.prog 21 #[.pointer (some ⟨t, 0, none⟩), .slice none 0 0] wr fun e w' => ∃ v', e = .returned (.tuple #[v', .int .i64 2, .int .i64 0]) ∧ EM w w' t mb X a1.wrap K (22 + I + 1) 2 #[.int .i64 M0, .int .i64 M1, .int .i64 M2]) := HW
                  have hov := over_not a1.f (z := 2) (s := 1) (by omega) (by omega) hx2
                  have hov1 : bits .and .i64 2 ((on a1.f true 2 : Nat) : Int) = 0 := hov
                  have hMy' : Hid (My a1.wrap (m3 M0 (M1 + 1) M2)) := by
                    have e : (fun k => if k = 1 then m3 M0 M1 M2 k + 1 else m3 M0 M1 M2 k) = m3 M0 (M1 + 1) M2 := by
                      funext k
                      by_cases h0 : k = 0
                      · subst h0; simp [m3]
                      · by_cases h1 : k = 1
                        · subst h1; simp [m3]
                        · by_cases h2 : k = 2
                          · subst h2; simp [m3]
                          · simp [m3, h0, h1, h2]
                    rw [← e]
                    exact hstep
                  have hMp : 0 ≤ M1 ∧ M1 ≤ 301 := by omega
                  have hRg' : Hid ((0 ≤ M0 ∧ M0 ≤ ((I + 1 : Nat) : Int)) ∧ (0 ≤ M1 + 1 ∧ M1 + 1 ≤ ((I + 1 : Nat) : Int)) ∧ (0 ≤ M2 ∧ M2 ≤ ((I + 1 : Nat) : Int))) := by refine ⟨?_, ?_, ?_⟩ <;> omega
                  clear HW hov hstep hx1 hx2 hr hRg hMy
                  go_wp2_with (fail)
                  refine HW1.out.mono ?_
                  rintro e w5 ⟨vx, rfl, hE5⟩
                  have HF := hE5.e.faulty
                  rw [hfe] at HF
                  have HEs := hE5.store 1 (.int .i64 (M1 + 1))
                  have cp : w5.cell? ⟨mb, 1, none⟩ = some (.int .i64 M1) := hE5.blk.cellv (j := 1) rfl
                  have fp : w5.frozen? ⟨mb, 1, none⟩ = false := hE5.blk.frz 1
                  have HE5 : Hid (EM w (w5.setCell ⟨mb, 1, none⟩ (.int .i64 (M1 + 1))) t mb X a1.wrap K (22 + I + 1) 2 #[.int .i64 M0, .int .i64 (M1 + 1), .int .i64 M2]) := HEs
                  clear HEs hE5 HW1 hfe hE
                  generalize on a1.f true 2 = F1 at *
                  go_wp2_with (fail)
                  refine HF.mono ?_
                  rintro e w6 ⟨rfl, hw6⟩
                  rw [hw6]
                  clear hw6 HF
                  go_wp2
                  go_roundw
                  case rel => exact ⟨I + 1, a1.wrap, _, _, _, by go_num, by omega, HE5, hMy', hRg'⟩
                  case measure => simp [intOf]; omega
              · have hIi : ¬ (I : Int) < (Nc : Int) := by omega
                obtain ⟨q, hq1, hq2, hnear⟩ := hMy.out.near hE.out.e.ta (fun k hk => by
                  have hr := hRg.out
                  unfold m3
                  split
                  · omega
                  · split
                    · omega
                    · split <;> omega)
                rw [hE.out.e.sz] at hnear
                have HNR : Hid (∀ k, k < 2 → a1.f k = false → q ≤ m3 M0 M1 M2 k ∧ m3 M0 M1 M2 k ≤ q + 1) := hnear
                have HR3 : Hid (∀ k, k < 3 → 0 ≤ m3 M0 M1 M2 k ∧ m3 M0 M1 M2 k ≤ 301) := fun k hk => by
                  have hr := hRg.out
                  unfold m3
                  split
                  · omega
                  · split
                    · omega
                    · split <;> omega
                have HC3 : Hid (∀ k, k < 3 → wr.cell? ⟨mb, k, none⟩ = some (.int .i64 (m3 M0 M1 M2 k))) := fun k hk => m3_cell hE.out.blk k hk
                have HF3 : Hid (Calls Try.prog 27 #[.pointer (some ⟨t, 0, none⟩)] wr fun e w' => e = .returned (.int .i64 (on a1.f true 2 : Nat)) ∧ w' = wr) := hE.out.e.faulty
                have HBT : Hid (∀ k, k < 2 → (bits .and .i64 (((on a1.f true 2 : Nat) : Int) / 2 ^ k) 1 == 0) = !a1.f k) := fun k hk => faulty_bit a1.f (by omega) hk
                have HMM : Hid (Mod (fun _ => False) w wr) := hE.out.e.m
                clear hnear hMy hE hRg
                generalize on a1.f true 2 = F1 at *
                generalize m3 M0 M1 M2 = mm at *
                generalize a1.f = ff at *
                go_wp2
                go_loopw [16, 17, 18] (fun lv mv kv wz => ∃ (k : Nat) (l m : Int), lv = .int .i64 l ∧ mv = .int .i64 m ∧ kv = .int .i64 (k : Int) ∧ k ≤ 2 ∧ wz = wr ∧ 0 ≤ l ∧ q ≤ l ∧ l ≤ 1073741824 ∧ 0 ≤ m ∧ m ≤ q + 1) (fun _ _ kv _ => 2 - (intOf kv).toNat)
                case atStart => exact ⟨0, 1073741824, 0, rfl, rfl, rfl, by omega, rfl, by omega, by omega, by omega, by omega, by omega⟩
                case round =>
                  obtain ⟨k, l, m, rfl, rfl, rfl, hk, rfl, hl0, hlq, hl1, hm0, hmq⟩ := hrel
                  by_cases hkz : k < 2
                  · have hki : (k : Int) < 2 := by omega
                    have hbt := HBT.out k hkz
                    have hc := HC3.out k (by omega)
                    obtain ⟨hr0, hr1⟩ := HR3.out k (by omega)
                    have hnr := HNR.out k hkz
                    go_wp2_with (fail)
                    refine HF3.out.mono ?_
                    rintro e w6 ⟨rfl, hw6⟩
                    rw [hw6]
                    clear hw6
                    generalize mm k = mk at hc hr0 hr1 hnr
                    cases hfk : ff k with
                    | true =>
                      rw [hfk] at hbt
                      simp only [Bool.not_true] at hbt
                      clear hnr hc
                      go_wp2
                      go_roundw
                      case rel => exact ⟨k + 1, l, m, rfl, rfl, by go_num, by omega, by first | trivial | rfl, hl0, hlq, hl1, hm0, hmq⟩
                      case measure => simp [intOf]; omega
                    | false =>
                      rw [hfk] at hbt
                      simp only [Bool.not_false] at hbt
                      obtain ⟨hn1, hn2⟩ := hnr hfk
                      clear hnr
                      go_wp2
                      go_roundw
                      case rel => exact ⟨k + 1, min l mk, max m mk, by first | rfl | (congr 1; omega), by first | rfl | (congr 1; omega), by go_num, by omega, by first | trivial | rfl, by omega, by omega, by omega, by omega, by omega⟩
                      case measure => simp [intOf]; omega
                  · have hki : ¬ (k : Int) < 2 := by omega
                    have hml : m - l ≤ 1 := by omega
                    go_wp2
                    go_ret
                    exact ⟨by first | rfl | simp [hml], HMM.out⟩
      · go_wp2
        go_loopw [9] (fun i wr => ∃ (I : Nat) (X : Nat → Prop) (a : Tn) (K : Int → Option Kw) (T : Int), i = .int .i64 (I : Int) ∧ I ≤ 11 ∧ T ≤ 2 * I ∧ Hid (E1 w wr t X a K (2 * I) 2) ∧ Hid (Ph 2 1 I 0 a) ∧ Hid (Kf K T) ∧ Hid (a.la + 1 = a.sz)) (fun i _ => 11 - (intOf i).toNat)
        case atStart => exact ⟨0, _, _, _, 0, rfl, by omega, by omega, HE0, Ph.start, .inl ⟨rfl, rfl⟩, HLA⟩
        case round =>
          obtain ⟨I, X, a, K, T, rfl, hI, hT, hE, hP, hK, hla⟩ := hrel
          clear HE0 HLA
          by_cases hI11 : I < 11
          · have hIi : (I : Int) < 11 := by omega
            go_wp2
            go_loopw [10] (fun kv wr => ∃ (k : Nat) (X : Nat → Prop) (a : Tn) (K : Int → Option Kw) (T : Int), kv = .int .i64 (k : Int) ∧ k ≤ 2 ∧ T ≤ 2 * I + k ∧ Hid (E1 w wr t X a K (2 * I + k) 2) ∧ Hid (Ph 2 1 I k a) ∧ Hid (Kf K T) ∧ Hid (a.la + 1 = a.sz)) (fun kv _ => 2 - (intOf kv).toNat)
            case atStart => exact ⟨0, X, a, K, T, rfl, by omega, by omega, hE, hP, hK, hla⟩
            case round =>
              clear hE hP hK hla hT
              obtain ⟨k, X, a, K, T, rfl, hk, hT, hE, hP, hK, hla⟩ := hrel
              by_cases hkz : k < 2
              · have hki : (k : Int) < 2 := by omega
                by_cases hkb : k = 1
                · have hne : ((k : Int) != 1) = false := by simp; omega
                  have hP2 : Hid (Ph 2 1 I (k + 1) a) := by rw [hkb]; exact Ph.skip (by have := hP.out; rwa [hkb] at this)
                  clear hP
                  go_wp2
                  go_roundw
                  case rel => exact ⟨k + 1, X, a, K, T, by go_num, by omega, by omega, hE.out.mono (by omega), hP2, hK, hla⟩
                  case measure => simp [intOf]; omega
                · have hne : ((k : Int) != 1) = true := by simp; omega
                  have hP2 : Hid (Ph 2 1 I (k + 1) (a.came k)) := hP.out.step hE.out.ta (by omega) hkz hkb
                  obtain ⟨sn, hsn⟩ : ∃ sn : Int, sn = 1 + (I : Int) * 2 + (k : Int) := ⟨_, rfl⟩
                  have hokf : okF 5 1 sn 0 = true := by unfold okF; simp; omega
                  go_wp2_with (fail)
                  rw [← hsn]
                  refine (frame_none 5 1 sn hokf wr).mono ?_
                  rintro e w6 ⟨vb, rfl, hvb, hm6, _⟩
                  have HC := (hE.out.keep hm6).comes (by omega) hkz hvb (by omega) (by omega) hK.out
                  clear hE hvb hm6 hP
                  go_wp2_with (fail)
                  refine HC.mono ?_
                  rintro e w7 ⟨X2, K2, rfl, hE7, hK7⟩
                  have HE7 : Hid (E1 w w7 t X2 (a.came k) K2 (2 * I + k + 1) 2) := hE7
                  have HK7 : Hid (Kf K2 sn) := hK7
                  clear HC hE7 hK7 hK
                  go_wp2
                  go_roundw
                  case rel => exact ⟨k + 1, X2, a.came k, K2, sn, by go_num, by omega, by omega, HE7, hP2, HK7, hla⟩
                  case measure => simp [intOf]; omega
              · have hki : ¬ (k : Int) < 2 := by omega
                have hkz' : k = 2 := by omega
                have hP2 : Hid (Ph 2 1 ((I + 1 : Nat) : Int) 0 a) := by
                  have := hP.out
                  rw [hkz'] at this
                  exact this.next (by omega)
                clear hP
                go_wp2
                go_roundw
                case rel => exact ⟨I + 1, X, a, K, T, by go_num, by omega, by omega, hE.out.mono (by omega), hP2, hK, hla⟩
                case measure => simp [intOf]; omega
          · have hIi : ¬ (I : Int) < 11 := by omega
            have hI' : I = 11 := by omega
            subst hI'
            have hdone : on a.f true 2 = 2 := Ph.done hP.out (by omega) (by omega)
            have HF : ∀ q, Calls Try.prog 27 #[.pointer (some ⟨t, 0, none⟩)] (wr.drewN q) fun e w' => e = .returned (.int .i64 2) ∧ w' = wr.drewN q := fun q => by
              have := (hE.out.keep ((Mod.refl _ wr).drewN q)).faulty
              rw [hdone] at this
              exact this
            have hsh : Hid (∀ q, E1 w (wr.drewN q) t X a K 22 2) := fun q => hE.out.keep ((Mod.refl _ wr).drewN q)
            clear hE hP hdone hT
            go_upto_region 17 with (fail)
            go_quiet (first | (go_at_call 27; exact (HF _).mono fun e w' h => ⟨h.1, _, h.2⟩))
            try generalize hwq : wr.drewN _ = wq
            have HEq : Hid (E1 w wq t X a K 22 2) := by subst hwq; exact hsh.out _
            have HMY : Hid (My a (m3 0 0 0)) := My.start3 2 hla.out
            clear hwq hsh HF hK hla
            go_wp2
            obtain ⟨wq', hwq⟩ : ∃ W, W = wq.alloc (.cells #[.int .i64 0, .int .i64 0, .int .i64 0] 61) := ⟨_, rfl⟩
            obtain ⟨mb, hmb⟩ : ∃ mb, mb = wq.heap.size := ⟨_, rfl⟩
            have HM0 : Hid (EM w wq' t mb X a K 22 2 #[.int .i64 0, .int .i64 0, .int .i64 0]) := by rw [hwq, hmb]; exact EM.new HEq.out _
            try rw [← hwq]
            try rw [← hmb]
            clear hwq hmb HEq
            go_loopw [12] (fun i wr => ∃ (I : Nat) (a : Tn) (M0 M1 M2 : Int), i = .int .i64 (I : Int) ∧ I ≤ 301 ∧ Hid (EM w wr t mb X a K (22 + I) 2 #[.int .i64 M0, .int .i64 M1, .int .i64 M2]) ∧ Hid (My a (m3 M0 M1 M2)) ∧ Hid ((0 ≤ M0 ∧ M0 ≤ I) ∧ (0 ≤ M1 ∧ M1 ≤ I) ∧ (0 ≤ M2 ∧ M2 ≤ I))) (fun i _ => 301 - (intOf i).toNat)
            case atStart => exact ⟨0, a, 0, 0, 0, rfl, by omega, HM0, HMY, by refine ⟨?_, ?_, ?_⟩ <;> omega⟩
            case round =>
              obtain ⟨I, a1, M0, M1, M2, rfl, hI, hE, hMy, hRg⟩ := hrel
              clear HM0 HMY
              go_wp2_with (fail)
              refine (HBN.out wr).mono ?_
              rintro e w4 ⟨rfl, hw4⟩
              rw [hw4]
              clear hw4
              by_cases hIn : I < Nc
              · have hIi : (I : Int) < (Nc : Int) := by omega
                have HW := hE.out.wrap (by omega)
                obtain ⟨hx1, hx2⟩ := nx_well hE.out.e.ta
                have hsz := hE.out.e.sz
                have hstep := wrap_My hE.out.e.ac (hMy.out.step hE.out.e.ta)
                have hfe := wrap_f hE.out.e.ac
                have hr := hRg.out
                generalize hnx : a1.nx = p at HW hx1 hx2 hstep
                rw [hsz] at hx1
                clear hnx hsz
                obtain rfl | rfl : p = 0 ∨ p = 1 := by omega
                · have HW1 : Hid (Calls Try.prog 21 #[.pointer (some ⟨t, 0, none⟩), .slice none 0 0] wr fun e w' => ∃ v', e = .returned (.tuple #[v', .int .i64 1, .int .i64 0]) ∧ EM w w' t mb X a1.wrap K (22 + I + 1) 2 #[.int .i64 M0, .int .i64 M1, .int .i64 M2]) := HW
                  have hov := over_not a1.f (z := 2) (s := 0) (by omega) (by omega) hx2
                  have hov1 : bits .and .i64 1 ((on a1.f true 2 : Nat) : Int) = 0 := hov
                  have hMy' : Hid (My a1.wrap (m3 (M0 + 1) M1 M2)) := by
                    have e : (fun k => if k = 0 then m3 M0 M1 M2 k + 1 else m3 M0 M1 M2 k) = m3 (M0 + 1) M1 M2 := by
                      funext k
                      by_cases h0 : k = 0
                      · subst h0; simp [m3]
                      · by_cases h1 : k = 1
                        · subst h1; simp [m3]
                        · by_cases h2 : k = 2
                          · subst h2; simp [m3]
                          · simp [m3, h0, h1, h2]
                    rw [← e]
                    exact hstep
                  have hMp : 0 ≤ M0 ∧ M0 ≤ 301 := by omega
                  have hRg' : Hid ((0 ≤ M0 + 1 ∧ M0 + 1 ≤ ((I + 1 : Nat) : Int)) ∧ (0 ≤ M1 ∧ M1 ≤ ((I + 1 : Nat) : Int)) ∧ (0 ≤ M2 ∧ M2 ≤ ((I + 1 : Nat) : Int))) := by refine ⟨?_, ?_, ?_⟩ <;> omega
                  clear HW hov hstep hx1 hx2 hr hRg hMy
                  go_wp2_with (fail)
                  refine HW1.out.mono ?_
                  rintro e w5 ⟨vx, rfl, hE5⟩
                  have HF := hE5.e.faulty
                  rw [hfe] at HF
                  have HEs := hE5.store 0 (.int .i64 (M0 + 1))
                  have cp : w5.cell? ⟨mb, 0, none⟩ = some (.int .i64 M0) := hE5.blk.cellv (j := 0) rfl
                  have fp : w5.frozen? ⟨mb, 0, none⟩ = false := hE5.blk.frz 0
                  have HE5 : Hid (EM w (w5.setCell ⟨mb, 0, none⟩ (.int .i64 (M0 + 1))) t mb X a1.wrap K (22 + I + 1) 2 #[.int .i64 (M0 + 1), .int .i64 M1, .int .i64 M2]) := HEs
                  clear HEs hE5 HW1 hfe hE
                  generalize on a1.f true 2 = F1 at *
                  go_wp2_with (fail)
                  refine HF.mono ?_
                  rintro e w6 ⟨rfl, hw6⟩
                  rw [hw6]
                  clear hw6 HF
                  go_wp2
                  go_roundw
                  case rel => exact ⟨I + 1, a1.wrap, _, _, _, by go_num, by omega, HE5, hMy', hRg'⟩
                  case measure => simp [intOf]; omega
                · have HW1 : Hid (Calls Try.prog 21 #[.pointer (some ⟨t, 0, none⟩), .slice none 0 0] wr fun e w' => ∃ v', e = .returned (.tuple #[v', .int .i64 2, .int .i64 0]) ∧ EM w w' t mb X a1.wrap K (22 + I + 1) 2 #[.int .i64 M0, .int .i64 M1, .int .i64 M2]) := HW
                  have hov := over_not a1.f (z := 2) (s := 1) (by omega) (by omega) hx2
                  have hov1 : bits .and .i64 2 ((on a1.f true 2 : Nat) : Int) = 0 := hov
                  have hMy' : Hid (My a1.wrap (m3 M0 (M1 + 1) M2)) := by
                    have e : (fun k => if k = 1 then m3 M0 M1 M2 k + 1 else m3 M0 M1 M2 k) = m3 M0 (M1 + 1) M2 := by
                      funext k
                      by_cases h0 : k = 0
                      · subst h0; simp [m3]
                      · by_cases h1 : k = 1
                        · subst h1; simp [m3]
                        · by_cases h2 : k = 2
                          · subst h2; simp [m3]
                          · simp [m3, h0, h1, h2]
                    rw [← e]
                    exact hstep
                  have hMp : 0 ≤ M1 ∧ M1 ≤ 301 := by omega
                  have hRg' : Hid ((0 ≤ M0 ∧ M0 ≤ ((I + 1 : Nat) : Int)) ∧ (0 ≤ M1 + 1 ∧ M1 + 1 ≤ ((I + 1 : Nat) : Int)) ∧ (0 ≤ M2 ∧ M2 ≤ ((I + 1 : Nat) : Int))) := by refine ⟨?_, ?_, ?_⟩ <;> omega
                  clear HW hov hstep hx1 hx2 hr hRg hMy
                  go_wp2_with (fail)
                  refine HW1.out.mono ?_
                  rintro e w5 ⟨vx, rfl, hE5⟩
                  have HF := hE5.e.faulty
                  rw [hfe] at HF
                  have HEs := hE5.store 1 (.int .i64 (M1 + 1))
                  have cp : w5.cell? ⟨mb, 1, none⟩ = some (.int .i64 M1) := hE5.blk.cellv (j := 1) rfl
                  have fp : w5.frozen? ⟨mb, 1, none⟩ = false := hE5.blk.frz 1
                  have HE5 : Hid (EM w (w5.setCell ⟨mb, 1, none⟩ (.int .i64 (M1 + 1))) t mb X a1.wrap K (22 + I + 1) 2 #[.int .i64 M0, .int .i64 (M1 + 1), .int .i64 M2]) := HEs
                  clear HEs hE5 HW1 hfe hE
                  generalize on a1.f true 2 = F1 at *
                  go_wp2_with (fail)
                  refine HF.mono ?_
                  rintro e w6 ⟨rfl, hw6⟩
                  rw [hw6]
                  clear hw6 HF
                  go_wp2
                  go_roundw
                  case rel => exact ⟨I + 1, a1.wrap, _, _, _, by go_num, by omega, HE5, hMy', hRg'⟩
                  case measure => simp [intOf]; omega
              · have hIi : ¬ (I : Int) < (Nc : Int) := by omega
                obtain ⟨q, hq1, hq2, hnear⟩ := hMy.out.near hE.out.e.ta (fun k hk => by
                  have hr := hRg.out
                  unfold m3
                  split
                  · omega
                  · split
                    · omega
                    · split <;> omega)
                rw [hE.out.e.sz] at hnear
                have HNR : Hid (∀ k, k < 2 → a1.f k = false → q ≤ m3 M0 M1 M2 k ∧ m3 M0 M1 M2 k ≤ q + 1) := hnear
                have HR3 : Hid (∀ k, k < 3 → 0 ≤ m3 M0 M1 M2 k ∧ m3 M0 M1 M2 k ≤ 301) := fun k hk => by
                  have hr := hRg.out
                  unfold m3
                  split
                  · omega
                  · split
                    · omega
                    · split <;> omega
                have HC3 : Hid (∀ k, k < 3 → wr.cell? ⟨mb, k, none⟩ = some (.int .i64 (m3 M0 M1 M2 k))) := fun k hk => m3_cell hE.out.blk k hk
                have HF3 : Hid (Calls Try.prog 27 #[.pointer (some ⟨t, 0, none⟩)] wr fun e w' => e = .returned (.int .i64 (on a1.f true 2 : Nat)) ∧ w' = wr) := hE.out.e.faulty
                have HBT : Hid (∀ k, k < 2 → (bits .and .i64 (((on a1.f true 2 : Nat) : Int) / 2 ^ k) 1 == 0) = !a1.f k) := fun k hk => faulty_bit a1.f (by omega) hk
                have HMM : Hid (Mod (fun _ => False) w wr) := hE.out.e.m
                clear hnear hMy hE hRg
                generalize on a1.f true 2 = F1 at *
                generalize m3 M0 M1 M2 = mm at *
                generalize a1.f = ff at *
                go_wp2
                go_loopw [16, 17, 18] (fun lv mv kv wz => ∃ (k : Nat) (l m : Int), lv = .int .i64 l ∧ mv = .int .i64 m ∧ kv = .int .i64 (k : Int) ∧ k ≤ 2 ∧ wz = wr ∧ 0 ≤ l ∧ q ≤ l ∧ l ≤ 1073741824 ∧ 0 ≤ m ∧ m ≤ q + 1) (fun _ _ kv _ => 2 - (intOf kv).toNat)
                case atStart => exact ⟨0, 1073741824, 0, rfl, rfl, rfl, by omega, rfl, by omega, by omega, by omega, by omega, by omega⟩
                case round =>
                  obtain ⟨k, l, m, rfl, rfl, rfl, hk, rfl, hl0, hlq, hl1, hm0, hmq⟩ := hrel
                  by_cases hkz : k < 2
                  · have hki : (k : Int) < 2 := by omega
                    have hbt := HBT.out k hkz
                    have hc := HC3.out k (by omega)
                    obtain ⟨hr0, hr1⟩ := HR3.out k (by omega)
                    have hnr := HNR.out k hkz
                    go_wp2_with (fail)
                    refine HF3.out.mono ?_
                    rintro e w6 ⟨rfl, hw6⟩
                    rw [hw6]
                    clear hw6
                    generalize mm k = mk at hc hr0 hr1 hnr
                    cases hfk : ff k with
                    | true =>
                      rw [hfk] at hbt
                      simp only [Bool.not_true] at hbt
                      clear hnr hc
                      go_wp2
                      go_roundw
                      case rel => exact ⟨k + 1, l, m, rfl, rfl, by go_num, by omega, by first | trivial | rfl, hl0, hlq, hl1, hm0, hmq⟩
                      case measure => simp [intOf]; omega
                    | false =>
                      rw [hfk] at hbt
                      simp only [Bool.not_false] at hbt
                      obtain ⟨hn1, hn2⟩ := hnr hfk
                      clear hnr
                      go_wp2
                      go_roundw
                      case rel => exact ⟨k + 1, min l mk, max m mk, by first | rfl | (congr 1; omega), by first | rfl | (congr 1; omega), by go_num, by omega, by first | trivial | rfl, by omega, by omega, by omega, by omega, by omega⟩
                      case measure => simp [intOf]; omega
                  · have hki : ¬ (k : Int) < 2 := by omega
                    have hml : m - l ≤ 1 := by omega
                    go_wp2
                    go_ret
                    exact ⟨by first | rfl | simp [hml], HMM.out⟩
  · have HBL : Calls Try.prog 20 #[.int .i64 x0, .int .i64 3] w1 fun e w' => e = .returned (.int .i64 2) ∧ w' = w1 := HB3 w1
    clear HB3
    go_wp2_with (fail)
    refine HBL.mono ?_
    rintro e w2 ⟨rfl, hw2⟩
    rw [hw2]
    clear hw2 HBL
    go_wp2_with (fail)
    refine (tNew_ok 3 1 3 false w1 rfl ⟨by omega, by omega⟩).mono ?_
    rintro e w2 ⟨t, X, rfl, hT, hm2, hX⟩
    have HE0 : Hid (E1 w w2 t X (tn0 3 1 3 false) (fun _ => none) 0 3) := ⟨hm1.and hm2, hT, ok0 false rfl ⟨by omega, by omega⟩, fun i hi => Nat.le_trans hm1.size (hX i hi), rfl, rfl⟩
    have HLA : Hid ((tn0 3 1 3 false).la + 1 = (tn0 3 1 3 false).sz) := rfl
    clear hm1 hm2 hT hX
    go_wp2_with (fail)
    refine (HBC.out w2).mono ?_
    rintro e w3 ⟨rfl, hw3⟩
    rw [hw3]
    clear hw3 HBA HBB HBC
    by_cases hbz : 3 ≤ B6
    · have hbi : ¬ (B6 : Int) < 3 := by omega
      have HEq : Hid (E1 w w2 t X (tn0 3 1 3 false) (fun _ => none) 0 3) := HE0
      have HMY : Hid (My (tn0 3 1 3 false) (m3 0 0 0)) := My.start3 3 HLA.out
      obtain ⟨a, ha⟩ : ∃ a, a = tn0 3 1 3 false := ⟨_, rfl⟩
      obtain ⟨K, hK0⟩ : ∃ K : Int → Option Kw, K = fun _ => none := ⟨_, rfl⟩
      rw [← ha, ← hK0] at HEq
      rw [← ha] at HMY
      clear ha hK0 HE0 HLA
      obtain ⟨wq, hwq⟩ : ∃ W, W = w2 := ⟨_, rfl⟩
      rw [← hwq] at HEq ⊢
      clear hwq
      go_wp2
      obtain ⟨wq', hwq⟩ : ∃ W, W = wq.alloc (.cells #[.int .i64 0, .int .i64 0, .int .i64 0] 61) := ⟨_, rfl⟩
      obtain ⟨mb, hmb⟩ : ∃ mb, mb = wq.heap.size := ⟨_, rfl⟩
      have HM0 : Hid (EM w wq' t mb X a K 0 3 #[.int .i64 0, .int .i64 0, .int .i64 0]) := by rw [hwq, hmb]; exact EM.new HEq.out _
      try rw [← hwq]
      try rw [← hmb]
      clear hwq hmb HEq
      go_loopw [12] (fun i wr => ∃ (I : Nat) (a : Tn) (M0 M1 M2 : Int), i = .int .i64 (I : Int) ∧ I ≤ 301 ∧ Hid (EM w wr t mb X a K (0 + I) 3 #[.int .i64 M0, .int .i64 M1, .int .i64 M2]) ∧ Hid (My a (m3 M0 M1 M2)) ∧ Hid ((0 ≤ M0 ∧ M0 ≤ I) ∧ (0 ≤ M1 ∧ M1 ≤ I) ∧ (0 ≤ M2 ∧ M2 ≤ I))) (fun i _ => 301 - (intOf i).toNat)
      case atStart => exact ⟨0, a, 0, 0, 0, rfl, by omega, HM0, HMY, by refine ⟨?_, ?_, ?_⟩ <;> omega⟩
      case round =>
        obtain ⟨I, a1, M0, M1, M2, rfl, hI, hE, hMy, hRg⟩ := hrel
        clear HM0 HMY
        go_wp2_with (fail)
        refine (HBN.out wr).mono ?_
        rintro e w4 ⟨rfl, hw4⟩
        rw [hw4]
        clear hw4
        by_cases hIn : I < Nc
        · have hIi : (I : Int) < (Nc : Int) := by omega
          have HW := hE.out.wrap (by omega)
          obtain ⟨hx1, hx2⟩ := nx_well hE.out.e.ta
          have hsz := hE.out.e.sz
          have hstep := wrap_My hE.out.e.ac (hMy.out.step hE.out.e.ta)
          have hfe := wrap_f hE.out.e.ac
          have hr := hRg.out
          generalize hnx : a1.nx = p at HW hx1 hx2 hstep
          rw [hsz] at hx1
          clear hnx hsz
          obtain rfl | rfl | rfl : p = 0 ∨ p = 1 ∨ p = 2 := by omega
          · have HW1 : Hid (Calls Try.prog 21 #[.pointer (some ⟨t, 0, none⟩), .slice none 0 0] wr fun e w' => ∃ v', e = .returned (.tuple #[v', .int .i64 1, .int .i64 0]) ∧ EM w w' t mb X a1.wrap K (0 + I + 1) 3 #[.int .i64 M0, .int .i64 M1, .int .i64 M2]) := HW
            have hov := over_not a1.f (z := 3) (s := 0) (by omega) (by omega) hx2
            have hov1 : bits .and .i64 1 ((on a1.f true 3 : Nat) : Int) = 0 := hov
            have hMy' : Hid (My a1.wrap (m3 (M0 + 1) M1 M2)) := by
              have e : (fun k => if k = 0 then m3 M0 M1 M2 k + 1 else m3 M0 M1 M2 k) = m3 (M0 + 1) M1 M2 := by
                funext k
                by_cases h0 : k = 0
                · subst h0; simp [m3]
                · by_cases h1 : k = 1
                  · subst h1; simp [m3]
                  · by_cases h2 : k = 2
                    · subst h2; simp [m3]
                    · simp [m3, h0, h1, h2]
              rw [← e]
              exact hstep
            have hMp : 0 ≤ M0 ∧ M0 ≤ 301 := by omega
            have hRg' : Hid ((0 ≤ M0 + 1 ∧ M0 + 1 ≤ ((I + 1 : Nat) : Int)) ∧ (0 ≤ M1 ∧ M1 ≤ ((I + 1 : Nat) : Int)) ∧ (0 ≤ M2 ∧ M2 ≤ ((I + 1 : Nat) : Int))) := by refine ⟨?_, ?_, ?_⟩ <;> omega
            clear HW hov hstep hx1 hx2 hr hRg hMy
            go_wp2_with (fail)
            refine HW1.out.mono ?_
            rintro e w5 ⟨vx, rfl, hE5⟩
            have HF := hE5.e.faulty
            rw [hfe] at HF
            have HEs := hE5.store 0 (.int .i64 (M0 + 1))
            have cp : w5.cell? ⟨mb, 0, none⟩ = some (.int .i64 M0) := hE5.blk.cellv (j := 0) rfl
            have fp : w5.frozen? ⟨mb, 0, none⟩ = false := hE5.blk.frz 0
            have HE5 : Hid (EM w (w5.setCell ⟨mb, 0, none⟩ (.int .i64 (M0 + 1))) t mb X a1.wrap K (0 + I + 1) 3 #[.int .i64 (M0 + 1), .int .i64 M1, .int .i64 M2]) := HEs
            clear HEs hE5 HW1 hfe hE
            generalize on a1.f true 3 = F1 at *
            go_wp2_with (fail)
            refine HF.mono ?_
            rintro e w6 ⟨rfl, hw6⟩
            rw [hw6]
            clear hw6 HF
            go_wp2
            go_roundw
            case rel => exact ⟨I + 1, a1.wrap, _, _, _, by go_num, by omega, HE5, hMy', hRg'⟩
            case measure => simp [intOf]; omega
          · have HW1 : Hid (Calls Try.prog 21 #[.pointer (some ⟨t, 0, none⟩), .slice none 0 0] wr fun e w' => ∃ v', e = .returned (.tuple #[v', .int .i64 2, .int .i64 0]) ∧ EM w w' t mb X a1.wrap K (0 + I + 1) 3 #[.int .i64 M0, .int .i64 M1, .int .i64 M2]) := HW
            have hov := over_not a1.f (z := 3) (s := 1) (by omega) (by omega) hx2
            have hov1 : bits .and .i64 2 ((on a1.f true 3 : Nat) : Int) = 0 := hov
            have hMy' : Hid (My a1.wrap (m3 M0 (M1 + 1) M2)) := by
              have e : (fun k => if k = 1 then m3 M0 M1 M2 k + 1 else m3 M0 M1 M2 k) = m3 M0 (M1 + 1) M2 := by
                funext k
                by_cases h0 : k = 0
                · subst h0; simp [m3]
                · by_cases h1 : k = 1
                  · subst h1; simp [m3]
                  · by_cases h2 : k = 2
                    · subst h2; simp [m3]
                    · simp [m3, h0, h1, h2]
              rw [← e]
              exact hstep
            have hMp : 0 ≤ M1 ∧ M1 ≤ 301 := by omega
            have hRg' : Hid ((0 ≤ M0 ∧ M0 ≤ ((I + 1 : Nat) : Int)) ∧ (0 ≤ M1 + 1 ∧ M1 + 1 ≤ ((I + 1 : Nat) : Int)) ∧ (0 ≤ M2 ∧ M2 ≤ ((I + 1 : Nat) : Int))) := by refine ⟨?_, ?_, ?_⟩ <;> omega
            clear HW hov hstep hx1 hx2 hr hRg hMy
            go_wp2_with (fail)
            refine HW1.out.mono ?_
            rintro e w5 ⟨vx, rfl, hE5⟩
            have HF := hE5.e.faulty
            rw [hfe] at HF
            have HEs := hE5.store 1 (.int .i64 (M1 + 1))
            have cp : w5.cell? ⟨mb, 1, none⟩ = some (.int .i64 M1) := hE5.blk.cellv (j := 1) rfl
            have fp : w5.frozen? ⟨mb, 1, none⟩ = false := hE5.blk.frz 1
            have HE5 : Hid (EM w (w5.setCell ⟨mb, 1, none⟩ (.int .i64 (M1 + 1))) t mb X a1.wrap K (0 + I + 1) 3 #[.int .i64 M0, .int .i64 (M1 + 1), .int .i64 M2]) := HEs
            clear HEs hE5 HW1 hfe hE
            generalize on a1.f true 3 = F1 at *
            go_wp2_with (fail)
            refine HF.mono ?_
            rintro e w6 ⟨rfl, hw6⟩
            rw [hw6]
            clear hw6 HF
            go_wp2
            go_roundw
            case rel => exact ⟨I + 1, a1.wrap, _, _, _, by go_num, by omega, HE5, hMy', hRg'⟩
            case measure => simp [intOf]; omega
          · have HW1 : Hid (Calls Try.prog 21 #[.pointer (some ⟨t, 0, none⟩), .slice none 0 0] wr fun e w' => ∃ v', e = .returned (.tuple #[v', .int .i64 4, .int .i64 0]) ∧ EM w w' t mb X a1.wrap K (0 + I + 1) 3 #[.int .i64 M0, .int .i64 M1, .int .i64 M2]) := HW
            have hov := over_not a1.f (z := 3) (s := 2) (by omega) (by omega) hx2
            have hov1 : bits .and .i64 4 ((on a1.f true 3 : Nat) : Int) = 0 := hov
            have hMy' : Hid (My a1.wrap (m3 M0 M1 (M2 + 1))) := by
              have e : (fun k => if k = 2 then m3 M0 M1 M2 k + 1 else m3 M0 M1 M2 k) = m3 M0 M1 (M2 + 1) := by
                funext k
                by_cases h0 : k = 0
                · subst h0; simp [m3]
                · by_cases h1 : k = 1
                  · subst h1; simp [m3]
                  · by_cases h2 : k = 2
                    · subst h2; simp [m3]
                    · simp [m3, h0, h1, h2]
              rw [← e]
              exact hstep
            have hMp : 0 ≤ M2 ∧ M2 ≤ 301 := by omega
            have hRg' : Hid ((0 ≤ M0 ∧ M0 ≤ ((I + 1 : Nat) : Int)) ∧ (0 ≤ M1 ∧ M1 ≤ ((I + 1 : Nat) : Int)) ∧ (0 ≤ M2 + 1 ∧ M2 + 1 ≤ ((I + 1 : Nat) : Int))) := by refine ⟨?_, ?_, ?_⟩ <;> omega
            clear HW hov hstep hx1 hx2 hr hRg hMy
            go_wp2_with (fail)
            refine HW1.out.mono ?_
            rintro e w5 ⟨vx, rfl, hE5⟩
            have HF := hE5.e.faulty
            rw [hfe] at HF
            have HEs := hE5.store 2 (.int .i64 (M2 + 1))
            have cp : w5.cell? ⟨mb, 2, none⟩ = some (.int .i64 M2) := hE5.blk.cellv (j := 2) rfl
            have fp : w5.frozen? ⟨mb, 2, none⟩ = false := hE5.blk.frz 2
            have HE5 : Hid (EM w (w5.setCell ⟨mb, 2, none⟩ (.int .i64 (M2 + 1))) t mb X a1.wrap K (0 + I + 1) 3 #[.int .i64 M0, .int .i64 M1, .int .i64 (M2 + 1)]) := HEs
            clear HEs hE5 HW1 hfe hE
            generalize on a1.f true 3 = F1 at *
            go_wp2_with (fail)
            refine HF.mono ?_
            rintro e w6 ⟨rfl, hw6⟩
            rw [hw6]
            clear hw6 HF
            go_wp2
            go_roundw
            case rel => exact ⟨I + 1, a1.wrap, _, _, _, by go_num, by omega, HE5, hMy', hRg'⟩
            case measure => simp [intOf]; omega
        · have hIi : ¬ (I : Int) < (Nc : Int) := by omega
          obtain ⟨q, hq1, hq2, hnear⟩ := hMy.out.near hE.out.e.ta (fun k hk => by
            have hr := hRg.out
            unfold m3
            split
            · omega
            · split
              · omega
              · split <;> omega)
          rw [hE.out.e.sz] at hnear
          have HNR : Hid (∀ k, k < 3 → a1.f k = false → q ≤ m3 M0 M1 M2 k ∧ m3 M0 M1 M2 k ≤ q + 1) := hnear
          have HR3 : Hid (∀ k, k < 3 → 0 ≤ m3 M0 M1 M2 k ∧ m3 M0 M1 M2 k ≤ 301) := fun k hk => by
            have hr := hRg.out
            unfold m3
            split
            · omega
            · split
              · omega
              · split <;> omega
          have HC3 : Hid (∀ k, k < 3 → wr.cell? ⟨mb, k, none⟩ = some (.int .i64 (m3 M0 M1 M2 k))) := fun k hk => m3_cell hE.out.blk k hk
          have HF3 : Hid (Calls Try.prog 27 #[.pointer (some ⟨t, 0, none⟩)] wr fun e w' => e = .returned (.int .i64 (on a1.f true 3 : Nat)) ∧ w' = wr) := hE.out.e.faulty
          have HBT : Hid (∀ k, k < 3 → (bits .and .i64 (((on a1.f true 3 : Nat) : Int) / 2 ^ k) 1 == 0) = !a1.f k) := fun k hk => faulty_bit a1.f (by omega) hk
          have HMM : Hid (Mod (fun _ => False) w wr) := hE.out.e.m
          clear hnear hMy hE hRg
          generalize on a1.f true 3 = F1 at *
          generalize m3 M0 M1 M2 = mm at *
          generalize a1.f = ff at *
          go_wp2
          go_loopw [16, 17, 18] (fun lv mv kv wz => ∃ (k : Nat) (l m : Int), lv = .int .i64 l ∧ mv = .int .i64 m ∧ kv = .int .i64 (k : Int) ∧ k ≤ 3 ∧ wz = wr ∧ 0 ≤ l ∧ q ≤ l ∧ l ≤ 1073741824 ∧ 0 ≤ m ∧ m ≤ q + 1) (fun _ _ kv _ => 3 - (intOf kv).toNat)
          case atStart => exact ⟨0, 1073741824, 0, rfl, rfl, rfl, by omega, rfl, by omega, by omega, by omega, by omega, by omega⟩
          case round =>
            obtain ⟨k, l, m, rfl, rfl, rfl, hk, rfl, hl0, hlq, hl1, hm0, hmq⟩ := hrel
            by_cases hkz : k < 3
            · have hki : (k : Int) < 3 := by omega
              have hbt := HBT.out k hkz
              have hc := HC3.out k (by omega)
              obtain ⟨hr0, hr1⟩ := HR3.out k (by omega)
              have hnr := HNR.out k hkz
              go_wp2_with (fail)
              refine HF3.out.mono ?_
              rintro e w6 ⟨rfl, hw6⟩
              rw [hw6]
              clear hw6
              generalize mm k = mk at hc hr0 hr1 hnr
              cases hfk : ff k with
              | true =>
                rw [hfk] at hbt
                simp only [Bool.not_true] at hbt
                clear hnr hc
                go_wp2
                go_roundw
                case rel => exact ⟨k + 1, l, m, rfl, rfl, by go_num, by omega, by first | trivial | rfl, hl0, hlq, hl1, hm0, hmq⟩
                case measure => simp [intOf]; omega
              | false =>
                rw [hfk] at hbt
                simp only [Bool.not_false] at hbt
                obtain ⟨hn1, hn2⟩ := hnr hfk
                clear hnr
                go_wp2
                go_roundw
                case rel => exact ⟨k + 1, min l mk, max m mk, by first | rfl | (congr 1; omega), by first | rfl | (congr 1; omega), by go_num, by omega, by first | trivial | rfl, by omega, by omega, by omega, by omega, by omega⟩
                case measure => simp [intOf]; omega
            · have hki : ¬ (k : Int) < 3 := by omega
              have hml : m - l ≤ 1 := by omega
              go_wp2
              go_ret
              exact ⟨by first | rfl | simp [hml], HMM.out⟩
    · obtain rfl | rfl | rfl : B6 = 0 ∨ B6 = 1 ∨ B6 = 2 := by omega
      · go_wp2
        go_loopw [9] (fun i wr => ∃ (I : Nat) (X : Nat → Prop) (a : Tn) (K : Int → Option Kw) (T : Int), i = .int .i64 (I : Int) ∧ I ≤ 11 ∧ T ≤ 3 * I ∧ Hid (E1 w wr t X a K (3 * I) 3) ∧ Hid (Ph 3 0 I 0 a) ∧ Hid (Kf K T) ∧ Hid (a.la + 1 = a.sz)) (fun i _ => 11 - (intOf i).toNat)
        case atStart => exact ⟨0, _, _, _, 0, rfl, by omega, by omega, HE0, Ph.start, .inl ⟨rfl, rfl⟩, HLA⟩
        case round =>
          obtain ⟨I, X, a, K, T, rfl, hI, hT, hE, hP, hK, hla⟩ := hrel
          clear HE0 HLA
          by_cases hI11 : I < 11
          · have hIi : (I : Int) < 11 := by omega
            go_wp2
            go_loopw [10] (fun kv wr => ∃ (k : Nat) (X : Nat → Prop) (a : Tn) (K : Int → Option Kw) (T : Int), kv = .int .i64 (k : Int) ∧ k ≤ 3 ∧ T ≤ 3 * I + k ∧ Hid (E1 w wr t X a K (3 * I + k) 3) ∧ Hid (Ph 3 0 I k a) ∧ Hid (Kf K T) ∧ Hid (a.la + 1 = a.sz)) (fun kv _ => 3 - (intOf kv).toNat)
            case atStart => exact ⟨0, X, a, K, T, rfl, by omega, by omega, hE, hP, hK, hla⟩
            case round =>
              clear hE hP hK hla hT
              obtain ⟨k, X, a, K, T, rfl, hk, hT, hE, hP, hK, hla⟩ := hrel
              by_cases hkz : k < 3
              · have hki : (k : Int) < 3 := by omega
                by_cases hkb : k = 0
                · have hne : ((k : Int) != 0) = false := by simp; omega
                  have hP2 : Hid (Ph 3 0 I (k + 1) a) := by rw [hkb]; exact Ph.skip (by have := hP.out; rwa [hkb] at this)
                  clear hP
                  go_wp2
                  go_roundw
                  case rel => exact ⟨k + 1, X, a, K, T, by go_num, by omega, by omega, hE.out.mono (by omega), hP2, hK, hla⟩
                  case measure => simp [intOf]; omega
                · have hne : ((k : Int) != 0) = true := by simp; omega
                  have hP2 : Hid (Ph 3 0 I (k + 1) (a.came k)) := hP.out.step hE.out.ta (by omega) hkz hkb
                  obtain ⟨sn, hsn⟩ : ∃ sn : Int, sn = 1 + (I : Int) * 3 + (k : Int) := ⟨_, rfl⟩
                  have hokf : okF 5 1 sn 0 = true := by unfold okF; simp; omega
                  go_wp2_with (fail)
                  rw [← hsn]
                  refine (frame_none 5 1 sn hokf wr).mono ?_
                  rintro e w6 ⟨vb, rfl, hvb, hm6, _⟩
                  have HC := (hE.out.keep hm6).comes (by omega) hkz hvb (by omega) (by omega) hK.out
                  clear hE hvb hm6 hP
                  go_wp2_with (fail)
                  refine HC.mono ?_
                  rintro e w7 ⟨X2, K2, rfl, hE7, hK7⟩
                  have HE7 : Hid (E1 w w7 t X2 (a.came k) K2 (3 * I + k + 1) 3) := hE7
                  have HK7 : Hid (Kf K2 sn) := hK7
                  clear HC hE7 hK7 hK
                  go_wp2
                  go_roundw
                  case rel => exact ⟨k + 1, X2, a.came k, K2, sn, by go_num, by omega, by omega, HE7, hP2, HK7, hla⟩
                  case measure => simp [intOf]; omega
              · have hki : ¬ (k : Int) < 3 := by omega
                have hkz' : k = 3 := by omega
                have hP2 : Hid (Ph 3 0 ((I + 1 : Nat) : Int) 0 a) := by
                  have := hP.out
                  rw [hkz'] at this
                  exact this.next (by omega)
                clear hP
                go_wp2
                go_roundw
                case rel => exact ⟨I + 1, X, a, K, T, by go_num, by omega, by omega, hE.out.mono (by omega), hP2, hK, hla⟩
                case measure => simp [intOf]; omega
          · have hIi : ¬ (I : Int) < 11 := by omega
            have hI' : I = 11 := by omega
            subst hI'
            have hdone : on a.f true 3 = 1 := Ph.done hP.out (by omega) (by omega)
            have HF : ∀ q, Calls Try.prog 27 #[.pointer (some ⟨t, 0, none⟩)] (wr.drewN q) fun e w' => e = .returned (.int .i64 1) ∧ w' = wr.drewN q := fun q => by
              have := (hE.out.keep ((Mod.refl _ wr).drewN q)).faulty
              rw [hdone] at this
              exact this
            have hsh : Hid (∀ q, E1 w (wr.drewN q) t X a K 33 3) := fun q => hE.out.keep ((Mod.refl _ wr).drewN q)
            clear hE hP hdone hT
            go_upto_region 17 with (fail)
            go_quiet (first | (go_at_call 27; exact (HF _).mono fun e w' h => ⟨h.1, _, h.2⟩))
            try generalize hwq : wr.drewN _ = wq
            have HEq : Hid (E1 w wq t X a K 33 3) := by subst hwq; exact hsh.out _
            have HMY : Hid (My a (m3 0 0 0)) := My.start3 3 hla.out
            clear hwq hsh HF hK hla
            go_wp2
            obtain ⟨wq', hwq⟩ : ∃ W, W = wq.alloc (.cells #[.int .i64 0, .int .i64 0, .int .i64 0] 61) := ⟨_, rfl⟩
            obtain ⟨mb, hmb⟩ : ∃ mb, mb = wq.heap.size := ⟨_, rfl⟩
            have HM0 : Hid (EM w wq' t mb X a K 33 3 #[.int .i64 0, .int .i64 0, .int .i64 0]) := by rw [hwq, hmb]; exact EM.new HEq.out _
            try rw [← hwq]
            try rw [← hmb]
            clear hwq hmb HEq
            go_loopw [12] (fun i wr => ∃ (I : Nat) (a : Tn) (M0 M1 M2 : Int), i = .int .i64 (I : Int) ∧ I ≤ 301 ∧ Hid (EM w wr t mb X a K (33 + I) 3 #[.int .i64 M0, .int .i64 M1, .int .i64 M2]) ∧ Hid (My a (m3 M0 M1 M2)) ∧ Hid ((0 ≤ M0 ∧ M0 ≤ I) ∧ (0 ≤ M1 ∧ M1 ≤ I) ∧ (0 ≤ M2 ∧ M2 ≤ I))) (fun i _ => 301 - (intOf i).toNat)
            case atStart => exact ⟨0, a, 0, 0, 0, rfl, by omega, HM0, HMY, by refine ⟨?_, ?_, ?_⟩ <;> omega⟩
            case round =>
              obtain ⟨I, a1, M0, M1, M2, rfl, hI, hE, hMy, hRg⟩ := hrel
              clear HM0 HMY
              go_wp2_with (fail)
              refine (HBN.out wr).mono ?_
              rintro e w4 ⟨rfl, hw4⟩
              rw [hw4]
              clear hw4
              by_cases hIn : I < Nc
              · have hIi : (I : Int) < (Nc : Int) := by omega
                have HW := hE.out.wrap (by omega)
                obtain ⟨hx1, hx2⟩ := nx_well hE.out.e.ta
                have hsz := hE.out.e.sz
                have hstep := wrap_My hE.out.e.ac (hMy.out.step hE.out.e.ta)
                have hfe := wrap_f hE.out.e.ac
                have hr := hRg.out
                generalize hnx : a1.nx = p at HW hx1 hx2 hstep
                rw [hsz] at hx1
                clear hnx hsz
                obtain rfl | rfl | rfl : p = 0 ∨ p = 1 ∨ p = 2 := by omega
                · have HW1 : Hid (Calls Try.prog 21 #[.pointer (some ⟨t, 0, none⟩), .slice none 0 0] wr fun e w' => ∃ v', e = .returned (.tuple #[v', .int .i64 1, .int .i64 0]) ∧ EM w w' t mb X a1.wrap K (33 + I + 1) 3 #[.int .i64 M0, .int .i64 M1, .int .i64 M2]) := HW
                  have hov := over_not a1.f (z := 3) (s := 0) (by omega) (by omega) hx2
                  have hov1 : bits .and .i64 1 ((on a1.f true 3 : Nat) : Int) = 0 := hov
                  have hMy' : Hid (My a1.wrap (m3 (M0 + 1) M1 M2)) := by
                    have e : (fun k => if k = 0 then m3 M0 M1 M2 k + 1 else m3 M0 M1 M2 k) = m3 (M0 + 1) M1 M2 := by
                      funext k
                      by_cases h0 : k = 0
                      · subst h0; simp [m3]
                      · by_cases h1 : k = 1
                        · subst h1; simp [m3]
                        · by_cases h2 : k = 2
                          · subst h2; simp [m3]
                          · simp [m3, h0, h1, h2]
                    rw [← e]
                    exact hstep
                  have hMp : 0 ≤ M0 ∧ M0 ≤ 301 := by omega
                  have hRg' : Hid ((0 ≤ M0 + 1 ∧ M0 + 1 ≤ ((I + 1 : Nat) : Int)) ∧ (0 ≤ M1 ∧ M1 ≤ ((I + 1 : Nat) : Int)) ∧ (0 ≤ M2 ∧ M2 ≤ ((I + 1 : Nat) : Int))) := by refine ⟨?_, ?_, ?_⟩ <;> omega
                  clear HW hov hstep hx1 hx2 hr hRg hMy
                  go_wp2_with (fail)
                  refine HW1.out.mono ?_
                  rintro e w5 ⟨vx, rfl, hE5⟩
                  have HF := hE5.e.faulty
                  rw [hfe] at HF
                  have HEs := hE5.store 0 (.int .i64 (M0 + 1))
                  have cp : w5.cell? ⟨mb, 0, none⟩ = some (.int .i64 M0) := hE5.blk.cellv (j := 0) rfl
                  have fp : w5.frozen? ⟨mb, 0, none⟩ = false := hE5.blk.frz 0
                  have HE5 : Hid (EM w (w5.setCell ⟨mb, 0, none⟩ (.int .i64 (M0 + 1))) t mb X a1.wrap K (33 + I + 1) 3 #[.int .i64 (M0 + 1), .int .i64 M1, .int .i64 M2]) := HEs
                  clear HEs hE5 HW1 hfe hE
                  generalize on a1.f true 3 = F1 at *
                  go_wp2_with (fail)
                  refine HF.mono ?_
                  rintro e w6 ⟨rfl, hw6⟩
                  rw [hw6]
                  clear hw6 HF
                  go_wp2
                  go_roundw
                  case rel => exact ⟨I + 1, a1.wrap, _, _, _, by go_num, by omega, HE5, hMy', hRg'⟩
                  case measure => simp [intOf]; omega
                · have HW1 : Hid (Calls Try.prog 21 #[.pointer (some ⟨t, 0, none⟩), .slice none 0 0] wr fun e w' => ∃ v', e = .returned (.tuple #[v', .int .i64 2, .int .i64 0]) ∧ EM w w' t mb X a1.wrap K (33 + I + 1) 3 #[.int .i64 M0, .int .i64 M1, .int .i64 M2]) := HW
                  have hov := over_not a1.f (z := 3) (s := 1) (by omega) (by omega) hx2
                  have hov1 : bits .and .i64 2 ((on a1.f true 3 : Nat) : Int) = 0 := hov
                  have hMy' : Hid (My a1.wrap (m3 M0 (M1 + 1) M2)) := by
                    have e : (fun k => if k = 1 then m3 M0 M1 M2 k + 1 else m3 M0 M1 M2 k) = m3 M0 (M1 + 1) M2 := by
                      funext k
                      by_cases h0 : k = 0
                      · subst h0; simp [m3]
                      · by_cases h1 : k = 1
                        · subst h1; simp [m3]
                        · by_cases h2 : k = 2
                          · subst h2; simp [m3]
                          · simp [m3, h0, h1, h2]
                    rw [← e]
                    exact hstep
                  have hMp : 0 ≤ M1 ∧ M1 ≤ 301 := by omega
                  have hRg' : Hid ((0 ≤ M0 ∧ M0 ≤ ((I + 1 : Nat) : Int)) ∧ (0 ≤ M1 + 1 ∧ M1 + 1 ≤ ((I + 1 : Nat) : Int)) ∧ (0 ≤ M2 ∧ M2 ≤ ((I + 1 : Nat) : Int))) := by refine ⟨?_, ?_, ?_⟩ <;> omega
                  clear HW hov hstep hx1 hx2 hr hRg hMy
                  go_wp2_with (fail)
                  refine HW1.out.mono ?_
                  rintro e w5 ⟨vx, rfl, hE5⟩
                  have HF := hE5.e.faulty
                  rw [hfe] at HF
                  have HEs := hE5.store 1 (.int .i64 (M1 + 1))
                  have cp : w5.cell? ⟨mb, 1, none⟩ = some (.int .i64 M1) := hE5.blk.cellv (j := 1) rfl
                  have fp : w5.frozen? ⟨mb, 1, none⟩ = false := hE5.blk.frz 1
                  have HE5 : Hid (EM w (w5.setCell ⟨mb, 1, none⟩ (.int .i64 (M1 + 1))) t mb X a1.wrap K (33 + I + 1) 3 #[.int .i64 M0, .int .i64 (M1 + 1), .int .i64 M2]) := HEs
                  clear HEs hE5 HW1 hfe hE
                  generalize on a1.f true 3 = F1 at *
                  go_wp2_with (fail)
                  refine HF.mono ?_
                  rintro e w6 ⟨rfl, hw6⟩
                  rw [hw6]
                  clear hw6 HF
                  go_wp2
                  go_roundw
                  case rel => exact ⟨I + 1, a1.wrap, _, _, _, by go_num, by omega, HE5, hMy', hRg'⟩
                  case measure => simp [intOf]; omega
                · have HW1 : Hid (Calls Try.prog 21 #[.pointer (some ⟨t, 0, none⟩), .slice none 0 0] wr fun e w' => ∃ v', e = .returned (.tuple #[v', .int .i64 4, .int .i64 0]) ∧ EM w w' t mb X a1.wrap K (33 + I + 1) 3 #[.int .i64 M0, .int .i64 M1, .int .i64 M2]) := HW
                  have hov := over_not a1.f (z := 3) (s := 2) (by omega) (by omega) hx2
                  have hov1 : bits .and .i64 4 ((on a1.f true 3 : Nat) : Int) = 0 := hov
                  have hMy' : Hid (My a1.wrap (m3 M0 M1 (M2 + 1))) := by
                    have e : (fun k => if k = 2 then m3 M0 M1 M2 k + 1 else m3 M0 M1 M2 k) = m3 M0 M1 (M2 + 1) := by
                      funext k
                      by_cases h0 : k = 0
                      · subst h0; simp [m3]
                      · by_cases h1 : k = 1
                        · subst h1; simp [m3]
                        · by_cases h2 : k = 2
                          · subst h2; simp [m3]
                          · simp [m3, h0, h1, h2]
                    rw [← e]
                    exact hstep
                  have hMp : 0 ≤ M2 ∧ M2 ≤ 301 := by omega
                  have hRg' : Hid ((0 ≤ M0 ∧ M0 ≤ ((I + 1 : Nat) : Int)) ∧ (0 ≤ M1 ∧ M1 ≤ ((I + 1 : Nat) : Int)) ∧ (0 ≤ M2 + 1 ∧ M2 + 1 ≤ ((I + 1 : Nat) : Int))) := by refine ⟨?_, ?_, ?_⟩ <;> omega
                  clear HW hov hstep hx1 hx2 hr hRg hMy
                  go_wp2_with (fail)
                  refine HW1.out.mono ?_
                  rintro e w5 ⟨vx, rfl, hE5⟩
                  have HF := hE5.e.faulty
                  rw [hfe] at HF
                  have HEs := hE5.store 2 (.int .i64 (M2 + 1))
                  have cp : w5.cell? ⟨mb, 2, none⟩ = some (.int .i64 M2) := hE5.blk.cellv (j := 2) rfl
                  have fp : w5.frozen? ⟨mb, 2, none⟩ = false := hE5.blk.frz 2
                  have HE5 : Hid (EM w (w5.setCell ⟨mb, 2, none⟩ (.int .i64 (M2 + 1))) t mb X a1.wrap K (33 + I + 1) 3 #[.int .i64 M0, .int .i64 M1, .int .i64 (M2 + 1)]) := HEs
                  clear HEs hE5 HW1 hfe hE
                  generalize on a1.f true 3 = F1 at *
                  go_wp2_with (fail)
                  refine HF.mono ?_
                  rintro e w6 ⟨rfl, hw6⟩
                  rw [hw6]
                  clear hw6 HF
                  go_wp2
                  go_roundw
                  case rel => exact ⟨I + 1, a1.wrap, _, _, _, by go_num, by omega, HE5, hMy', hRg'⟩
                  case measure => simp [intOf]; omega
              · have hIi : ¬ (I : Int) < (Nc : Int) := by omega
                obtain ⟨q, hq1, hq2, hnear⟩ := hMy.out.near hE.out.e.ta (fun k hk => by
                  have hr := hRg.out
                  unfold m3
                  split
                  · omega
                  · split
                    · omega
                    · split <;> omega)
                rw [hE.out.e.sz] at hnear
                have HNR : Hid (∀ k, k < 3 → a1.f k = false → q ≤ m3 M0 M1 M2 k ∧ m3 M0 M1 M2 k ≤ q + 1) := hnear
                have HR3 : Hid (∀ k, k < 3 → 0 ≤ m3 M0 M1 M2 k ∧ m3 M0 M1 M2 k ≤ 301) := fun k hk => by
                  have hr := hRg.out
                  unfold m3
                  split
                  · omega
                  · split
                    · omega
                    · split <;> omega
                have HC3 : Hid (∀ k, k < 3 → wr.cell? ⟨mb, k, none⟩ = some (.int .i64 (m3 M0 M1 M2 k))) := fun k hk => m3_cell hE.out.blk k hk
                have HF3 : Hid (Calls Try.prog 27 #[.pointer (some ⟨t, 0, none⟩)] wr fun e w' => e = .returned (.int .i64 (on a1.f true 3 : Nat)) ∧ w' = wr) := hE.out.e.faulty
                have HBT : Hid (∀ k, k < 3 → (bits .and .i64 (((on a1.f true 3 : Nat) : Int) / 2 ^ k) 1 == 0) = !a1.f k) := fun k hk => faulty_bit a1.f (by omega) hk
                have HMM : Hid (Mod (fun _ => False) w wr) := hE.out.e.m
                clear hnear hMy hE hRg
                generalize on a1.f true 3 = F1 at *
                generalize m3 M0 M1 M2 = mm at *
                generalize a1.f = ff at *
                go_wp2
                go_loopw [16, 17, 18] (fun lv mv kv wz => ∃ (k : Nat) (l m : Int), lv = .int .i64 l ∧ mv = .int .i64 m ∧ kv = .int .i64 (k : Int) ∧ k ≤ 3 ∧ wz = wr ∧ 0 ≤ l ∧ q ≤ l ∧ l ≤ 1073741824 ∧ 0 ≤ m ∧ m ≤ q + 1) (fun _ _ kv _ => 3 - (intOf kv).toNat)
                case atStart => exact ⟨0, 1073741824, 0, rfl, rfl, rfl, by omega, rfl, by omega, by omega, by omega, by omega, by omega⟩
                case round =>
                  obtain ⟨k, l, m, rfl, rfl, rfl, hk, rfl, hl0, hlq, hl1, hm0, hmq⟩ := hrel
                  by_cases hkz : k < 3
                  · have hki : (k : Int) < 3 := by omega
                    have hbt := HBT.out k hkz
                    have hc := HC3.out k (by omega)
                    obtain ⟨hr0, hr1⟩ := HR3.out k (by omega)
                    have hnr := HNR.out k hkz
                    go_wp2_with (fail)
                    refine HF3.out.mono ?_
                    rintro e w6 ⟨rfl, hw6⟩
                    rw [hw6]
                    clear hw6
                    generalize mm k = mk at hc hr0 hr1 hnr
                    cases hfk : ff k with
                    | true =>
                      rw [hfk] at hbt
                      simp only [Bool.not_true] at hbt
                      clear hnr hc
                      go_wp2
                      go_roundw
                      case rel => exact ⟨k + 1, l, m, rfl, rfl, by go_num, by omega, by first | trivial | rfl, hl0, hlq, hl1, hm0, hmq⟩
                      case measure => simp [intOf]; omega
                    | false =>
                      rw [hfk] at hbt
                      simp only [Bool.not_false] at hbt
                      obtain ⟨hn1, hn2⟩ := hnr hfk
                      clear hnr
                      go_wp2
                      go_roundw
                      case rel => exact ⟨k + 1, min l mk, max m mk, by first | rfl | (congr 1; omega), by first | rfl | (congr 1; omega), by go_num, by omega, by first | trivial | rfl, by omega, by omega, by omega, by omega, by omega⟩
                      case measure => simp [intOf]; omega
                  · have hki : ¬ (k : Int) < 3 := by omega
                    have hml : m - l ≤ 1 := by omega
                    go_wp2
                    go_ret
                    exact ⟨by first | rfl | simp [hml], HMM.out⟩
      · go_wp2
        go_loopw [9] (fun i wr => ∃ (I : Nat) (X : Nat → Prop) (a : Tn) (K : Int → Option Kw) (T : Int), i = .int .i64 (I : Int) ∧ I ≤ 11 ∧ T ≤ 3 * I ∧ Hid (E1 w wr t X a K (3 * I) 3) ∧ Hid (Ph 3 1 I 0 a) ∧ Hid (Kf K T) ∧ Hid (a.la + 1 = a.sz)) (fun i _ => 11 - (intOf i).toNat)
        case atStart => exact ⟨0, _, _, _, 0, rfl, by omega, by omega, HE0, Ph.start, .inl ⟨rfl, rfl⟩, HLA⟩
        case round =>
          obtain ⟨I, X, a, K, T, rfl, hI, hT, hE, hP, hK, hla⟩ := hrel
          clear HE0 HLA
          by_cases hI11 : I < 11
          · have hIi : (I : Int) < 11 := by omega
            go_wp2
            go_loopw [10] (fun kv wr => ∃ (k : Nat) (X : Nat → Prop) (a : Tn) (K : Int → Option Kw) (T : Int), kv = .int .i64 (k : Int) ∧ k ≤ 3 ∧ T ≤ 3 * I + k ∧ Hid (E1 w wr t X a K (3 * I + k) 3) ∧ Hid (Ph 3 1 I k a) ∧ Hid (Kf K T) ∧ Hid (a.la + 1 = a.sz)) (fun kv _ => 3 - (intOf kv).toNat)
            case atStart => exact ⟨0, X, a, K, T, rfl, by omega, by omega, hE, hP, hK, hla⟩
            case round =>
              clear hE hP hK hla hT
              obtain ⟨k, X, a, K, T, rfl, hk, hT, hE, hP, hK, hla⟩ := hrel
              by_cases hkz : k < 3
              · have hki : (k : Int) < 3 := by omega
                by_cases hkb : k = 1
                · have hne : ((k : Int) != 1) = false := by simp; omega
                  have hP2 : Hid (Ph 3 1 I (k + 1) a) := by rw [hkb]; exact Ph.skip (by have := hP.out; rwa [hkb] at this)
                  clear hP
                  go_wp2
                  go_roundw
                  case rel => exact ⟨k + 1, X, a, K, T, by go_num, by omega, by omega, hE.out.mono (by omega), hP2, hK, hla⟩
                  case measure => simp [intOf]; omega
                · have hne : ((k : Int) != 1) = true := by simp; omega
                  have hP2 : Hid (Ph 3 1 I (k + 1) (a.came k)) := hP.out.step hE.out.ta (by omega) hkz hkb
                  obtain ⟨sn, hsn⟩ : ∃ sn : Int, sn = 1 + (I : Int) * 3 + (k : Int) := ⟨_, rfl⟩
                  have hokf : okF 5 1 sn 0 = true := by unfold okF; simp; omega
                  go_wp2_with (fail)
                  rw [← hsn]
                  refine (frame_none 5 1 sn hokf wr).mono ?_
                  rintro e w6 ⟨vb, rfl, hvb, hm6, _⟩
                  have HC := (hE.out.keep hm6).comes (by omega) hkz hvb (by omega) (by omega) hK.out
                  clear hE hvb hm6 hP
                  go_wp2_with (fail)
                  refine HC.mono ?_
                  rintro e w7 ⟨X2, K2, rfl, hE7, hK7⟩
                  have HE7 : Hid (E1 w w7 t X2 (a.came k) K2 (3 * I + k + 1) 3) := hE7
                  have HK7 : Hid (Kf K2 sn) := hK7
                  clear HC hE7 hK7 hK
                  go_wp2
                  go_roundw
                  case rel => exact ⟨k + 1, X2, a.came k, K2, sn, by go_num, by omega, by omega, HE7, hP2, HK7, hla⟩
                  case measure => simp [intOf]; omega
              · have hki : ¬ (k : Int) < 3 := by omega
                have hkz' : k = 3 := by omega
                have hP2 : Hid (Ph 3 1 ((I + 1 : Nat) : Int) 0 a) := by
                  have := hP.out
                  rw [hkz'] at this
                  exact this.next (by omega)
                clear hP
                go_wp2
                go_roundw
                case rel => exact ⟨I + 1, X, a, K, T, by go_num, by omega, by omega, hE.out.mono (by omega), hP2, hK, hla⟩
                case measure => simp [intOf]; omega
          · have hIi : ¬ (I : Int) < 11 := by omega
            have hI' : I = 11 := by omega
            subst hI'
            have hdone : on a.f true 3 = 2 := Ph.done hP.out (by omega) (by omega)
            have HF : ∀ q, Calls Try.prog 27 #[.pointer (some ⟨t, 0, none⟩)] (wr.drewN q) fun e w' => e = .returned (.int .i64 2) ∧ w' = wr.drewN q := fun q => by
              have := (hE.out.keep ((Mod.refl _ wr).drewN q)).faulty
              rw [hdone] at this
              exact this
            have hsh : Hid (∀ q, E1 w (wr.drewN q) t X a K 33 3) := fun q => hE.out.keep ((Mod.refl _ wr).drewN q)
            clear hE hP hdone hT
            go_upto_region 17 with (fail)
            go_quiet (first | (go_at_call 27; exact (HF _).mono fun e w' h => ⟨h.1, _, h.2⟩))
            try generalize hwq : wr.drewN _ = wq
            have HEq : Hid (E1 w wq t X a K 33 3) := by subst hwq; exact hsh.out _
            have HMY : Hid (My a (m3 0 0 0)) := My.start3 3 hla.out
            clear hwq hsh HF hK hla
            go_wp2
            obtain ⟨wq', hwq⟩ : ∃ W, W = wq.alloc (.cells #[.int .i64 0, .int .i64 0, .int .i64 0] 61) := ⟨_, rfl⟩
            obtain ⟨mb, hmb⟩ : ∃ mb, mb = wq.heap.size := ⟨_, rfl⟩
            have HM0 : Hid (EM w wq' t mb X a K 33 3 #[.int .i64 0, .int .i64 0, .int .i64 0]) := by rw [hwq, hmb]; exact EM.new HEq.out _
            try rw [← hwq]
            try rw [← hmb]
            clear hwq hmb HEq
            go_loopw [12] (fun i wr => ∃ (I : Nat) (a : Tn) (M0 M1 M2 : Int), i = .int .i64 (I : Int) ∧ I ≤ 301 ∧ Hid (EM w wr t mb X a K (33 + I) 3 #[.int .i64 M0, .int .i64 M1, .int .i64 M2]) ∧ Hid (My a (m3 M0 M1 M2)) ∧ Hid ((0 ≤ M0 ∧ M0 ≤ I) ∧ (0 ≤ M1 ∧ M1 ≤ I) ∧ (0 ≤ M2 ∧ M2 ≤ I))) (fun i _ => 301 - (intOf i).toNat)
            case atStart => exact ⟨0, a, 0, 0, 0, rfl, by omega, HM0, HMY, by refine ⟨?_, ?_, ?_⟩ <;> omega⟩
            case round =>
              obtain ⟨I, a1, M0, M1, M2, rfl, hI, hE, hMy, hRg⟩ := hrel
              clear HM0 HMY
              go_wp2_with (fail)
              refine (HBN.out wr).mono ?_
              rintro e w4 ⟨rfl, hw4⟩
              rw [hw4]
              clear hw4
              by_cases hIn : I < Nc
              · have hIi : (I : Int) < (Nc : Int) := by omega
                have HW := hE.out.wrap (by omega)
                obtain ⟨hx1, hx2⟩ := nx_well hE.out.e.ta
                have hsz := hE.out.e.sz
                have hstep := wrap_My hE.out.e.ac (hMy.out.step hE.out.e.ta)
                have hfe := wrap_f hE.out.e.ac
                have hr := hRg.out
                generalize hnx : a1.nx = p at HW hx1 hx2 hstep
                rw [hsz] at hx1
                clear hnx hsz
                obtain rfl | rfl | rfl : p = 0 ∨ p = 1 ∨ p = 2 := by omega
                · have HW1 : Hid (Calls Try.prog 21 #[.pointer (some ⟨t, 0, none⟩), .slice none 0 0] wr fun e w' => ∃ v', e = .returned (.tuple #[v', .int .i64 1, .int .i64 0]) ∧ EM w w' t mb X a1.wrap K (33 + I + 1) 3 #[.int .i64 M0, .int .i64 M1, .int .i64 M2]) := HW
                  have hov := over_not a1.f (z := 3) (s := 0) (by omega) (by omega) hx2
                  have hov1 : bits .and .i64 1 ((on a1.f true 3 : Nat) : Int) = 0 := hov
                  have hMy' : Hid (My a1.wrap (m3 (M0 + 1) M1 M2)) := by
                    have e : (fun k => if k = 0 then m3 M0 M1 M2 k + 1 else m3 M0 M1 M2 k) = m3 (M0 + 1) M1 M2 := by
                      funext k
                      by_cases h0 : k = 0
                      · subst h0; simp [m3]
                      · by_cases h1 : k = 1
                        · subst h1; simp [m3]
                        · by_cases h2 : k = 2
                          · subst h2; simp [m3]
                          · simp [m3, h0, h1, h2]
                    rw [← e]
                    exact hstep
                  have hMp : 0 ≤ M0 ∧ M0 ≤ 301 := by omega
                  have hRg' : Hid ((0 ≤ M0 + 1 ∧ M0 + 1 ≤ ((I + 1 : Nat) : Int)) ∧ (0 ≤ M1 ∧ M1 ≤ ((I + 1 : Nat) : Int)) ∧ (0 ≤ M2 ∧ M2 ≤ ((I + 1 : Nat) : Int))) := by refine ⟨?_, ?_, ?_⟩ <;> omega
                  clear HW hov hstep hx1 hx2 hr hRg hMy
                  go_wp2_with (fail)
                  refine HW1.out.mono ?_
                  rintro e w5 ⟨vx, rfl, hE5⟩
                  have HF := hE5.e.faulty
                  rw [hfe] at HF
                  have HEs := hE5.store 0 (.int .i64 (M0 + 1))
                  have cp : w5.cell? ⟨mb, 0, none⟩ = some (.int .i64 M0) := hE5.blk.cellv (j := 0) rfl
                  have fp : w5.frozen? ⟨mb, 0, none⟩ = false := hE5.blk.frz 0
                  have HE5 : Hid (EM w (w5.setCell ⟨mb, 0, none⟩ (.int .i64 (M0 + 1))) t mb X a1.wrap K (33 + I + 1) 3 #[.int .i64 (M0 + 1), .int .i64 M1, .int .i64 M2]) := HEs
                  clear HEs hE5 HW1 hfe hE
                  generalize on a1.f true 3 = F1 at *
                  go_wp2_with (fail)
                  refine HF.mono ?_
                  rintro e w6 ⟨rfl, hw6⟩
                  rw [hw6]
                  clear hw6 HF
                  go_wp2
                  go_roundw
                  case rel => exact ⟨I + 1, a1.wrap, _, _, _, by go_num, by omega, HE5, hMy', hRg'⟩
                  case measure => simp [intOf]; omega
                · have HW1 : Hid (Calls Try.prog 21 #[.pointer (some ⟨t, 0, none⟩), .slice none 0 0] wr fun e w' => ∃ v', e = .returned (.tuple #[v', .int .i64 2, .int .i64 0]) ∧ EM w w' t mb X a1.wrap K (33 + I + 1) 3 #[.int .i64 M0, .int .i64 M1, .int .i64 M2]) := HW
                  have hov := over_not a1.f (z := 3) (s := 1) (by omega) (by omega) hx2
                  have hov1 : bits .and .i64 2 ((on a1.f true 3 : Nat) : Int) = 0 := hov
                  have hMy' : Hid (My a1.wrap (m3 M0 (M1 + 1) M2)) := by
                    have e : (fun k => if k = 1 then m3 M0 M1 M2 k + 1 else m3 M0 M1 M2 k) = m3 M0 (M1 + 1) M2 := by
                      funext k
                      by_cases h0 : k = 0
                      · subst h0; simp [m3]
                      · by_cases h1 : k = 1
                        · subst h1; simp [m3]
                        · by_cases h2 : k = 2
                          · subst h2; simp [m3]
                          · simp [m3, h0, h1, h2]
                    rw [← e]
                    exact hstep
                  have hMp : 0 ≤ M1 ∧ M1 ≤ 301 := by omega
                  have hRg' : Hid ((0 ≤ M0 ∧ M0 ≤ ((I + 1 : Nat) : Int)) ∧ (0 ≤ M1 + 1 ∧ M1 + 1 ≤ ((I + 1 : Nat) : Int)) ∧ (0 ≤ M2 ∧ M2 ≤ ((I + 1 : Nat) : Int))) := by refine ⟨?_, ?_, ?_⟩ <;> omega
                  clear HW hov hstep hx1 hx2 hr hRg hMy
                  go_wp2_with (fail)
                  refine HW1.out.mono ?_
                  rintro e w5 ⟨vx, rfl, hE5⟩
                  have HF := hE5.e.faulty
                  rw [hfe] at HF
                  have HEs := hE5.store 1 (.int .i64 (M1 + 1))
                  have cp : w5.cell? ⟨mb, 1, none⟩ = some (.int .i64 M1) := hE5.blk.cellv (j := 1) rfl
                  have fp : w5.frozen? ⟨mb, 1, none⟩ = false := hE5.blk.frz 1
                  have HE5 : Hid (EM w (w5.setCell ⟨mb, 1, none⟩ (.int .i64 (M1 + 1))) t mb X a1.wrap K (33 + I + 1) 3 #[.int .i64 M0, .int .i64 (M1 + 1), .int .i64 M2]) := HEs
                  clear HEs hE5 HW1 hfe hE
                  generalize on a1.f true 3 = F1 at *
                  go_wp2_with (fail)
                  refine HF.mono ?_
                  rintro e w6 ⟨rfl, hw6⟩
                  rw [hw6]
                  clear hw6 HF
                  go_wp2
                  go_roundw
                  case rel => exact ⟨I + 1, a1.wrap, _, _, _, by go_num, by omega, HE5, hMy', hRg'⟩
                  case measure => simp [intOf]; omega
                · have HW1 : Hid (Calls Try.prog 21 #[.pointer (some ⟨t, 0, none⟩), .slice none 0 0] wr fun e w' => ∃ v', e = .returned (.tuple #[v', .int .i64 4, .int .i64 0]) ∧ EM w w' t mb X a1.wrap K (33 + I + 1) 3 #[.int .i64 M0, .int .i64 M1, .int .i64 M2]) := HW
                  have hov := over_not a1.f (z := 3) (s := 2) (by omega) (by omega) hx2
                  have hov1 : bits .and .i64 4 ((on a1.f true 3 : Nat) : Int) = 0 := hov
                  have hMy' : Hid (My a1.wrap (m3 M0 M1 (M2 + 1))) := by
                    have e : (fun k => if k = 2 then m3 M0 M1 M2 k + 1 else m3 M0 M1 M2 k) = m3 M0 M1 (M2 + 1) := by
                      funext k
                      by_cases h0 : k = 0
                      · subst h0; simp [m3]
                      · by_cases h1 : k = 1
                        · subst h1; simp [m3]
                        · by_cases h2 : k = 2
                          · subst h2; simp [m3]
                          · simp [m3, h0, h1, h2]
                    rw [← e]
                    exact hstep
                  have hMp : 0 ≤ M2 ∧ M2 ≤ 301 := by omega
                  have hRg' : Hid ((0 ≤ M0 ∧ M0 ≤ ((I + 1 : Nat) : Int)) ∧ (0 ≤ M1 ∧ M1 ≤ ((I + 1 : Nat) : Int)) ∧ (0 ≤ M2 + 1 ∧ M2 + 1 ≤ ((I + 1 : Nat) : Int))) := by refine ⟨?_, ?_, ?_⟩ <;> omega
                  clear HW hov hstep hx1 hx2 hr hRg hMy
                  go_wp2_with (fail)
                  refine HW1.out.mono ?_
                  rintro e w5 ⟨vx, rfl, hE5⟩
                  have HF := hE5.e.faulty
                  rw [hfe] at HF
                  have HEs := hE5.store 2 (.int .i64 (M2 + 1))
                  have cp : w5.cell? ⟨mb, 2, none⟩ = some (.int .i64 M2) := hE5.blk.cellv (j := 2) rfl
                  have fp : w5.frozen? ⟨mb, 2, none⟩ = false := hE5.blk.frz 2
                  have HE5 : Hid (EM w (w5.setCell ⟨mb, 2, none⟩ (.int .i64 (M2 + 1))) t mb X a1.wrap K (33 + I + 1) 3 #[.int .i64 M0, .int .i64 M1, .int .i64 (M2 + 1)]) := HEs
                  clear HEs hE5 HW1 hfe hE
                  generalize on a1.f true 3 = F1 at *
                  go_wp2_with (fail)
                  refine HF.mono ?_
                  rintro e w6 ⟨rfl, hw6⟩
                  rw [hw6]
                  clear hw6 HF
                  go_wp2
                  go_roundw
                  case rel => exact ⟨I + 1, a1.wrap, _, _, _, by go_num, by omega, HE5, hMy', hRg'⟩
                  case measure => simp [intOf]; omega
              · have hIi : ¬ (I : Int) < (Nc : Int) := by omega
                obtain ⟨q, hq1, hq2, hnear⟩ := hMy.out.near hE.out.e.ta (fun k hk => by
                  have hr := hRg.out
                  unfold m3
                  split
                  · omega
                  · split
                    · omega
                    · split <;> omega)
                rw [hE.out.e.sz] at hnear
                have HNR : Hid (∀ k, k < 3 → a1.f k = false → q ≤ m3 M0 M1 M2 k ∧ m3 M0 M1 M2 k ≤ q + 1) := hnear
                have HR3 : Hid (∀ k, k < 3 → 0 ≤ m3 M0 M1 M2 k ∧ m3 M0 M1 M2 k ≤ 301) := fun k hk => by
                  have hr := hRg.out
                  unfold m3
                  split
                  · omega
                  · split
                    · omega
                    · split <;> omega
                have HC3 : Hid (∀ k, k < 3 → wr.cell? ⟨mb, k, none⟩ = some (.int .i64 (m3 M0 M1 M2 k))) := fun k hk => m3_cell hE.out.blk k hk
                have HF3 : Hid (Calls Try.prog 27 #[.pointer (some ⟨t, 0, none⟩)] wr fun e w' => e = .returned (.int .i64 (on a1.f true 3 : Nat)) ∧ w' = wr) := hE.out.e.faulty
                have HBT : Hid (∀ k, k < 3 → (bits .and .i64 (((on a1.f true 3 : Nat) : Int) / 2 ^ k) 1 == 0) = !a1.f k) := fun k hk => faulty_bit a1.f (by omega) hk
                have HMM : Hid (Mod (fun _ => False) w wr) := hE.out.e.m
                clear hnear hMy hE hRg
                generalize on a1.f true 3 = F1 at *
                generalize m3 M0 M1 M2 = mm at *
                generalize a1.f = ff at *
                go_wp2
                go_loopw [16, 17, 18] (fun lv mv kv wz => ∃ (k : Nat) (l m : Int), lv = .int .i64 l ∧ mv = .int .i64 m ∧ kv = .int .i64 (k : Int) ∧ k ≤ 3 ∧ wz = wr ∧ 0 ≤ l ∧ q ≤ l ∧ l ≤ 1073741824 ∧ 0 ≤ m ∧ m ≤ q + 1) (fun _ _ kv _ => 3 - (intOf kv).toNat)
                case atStart => exact ⟨0, 1073741824, 0, rfl, rfl, rfl, by omega, rfl, by omega, by omega, by omega, by omega, by omega⟩
                case round =>
                  obtain ⟨k, l, m, rfl, rfl, rfl, hk, rfl, hl0, hlq, hl1, hm0, hmq⟩ := hrel
                  by_cases hkz : k < 3
                  · have hki : (k : Int) < 3 := by omega
                    have hbt := HBT.out k hkz
                    have hc := HC3.out k (by omega)
                    obtain ⟨hr0, hr1⟩ := HR3.out k (by omega)
                    have hnr := HNR.out k hkz
                    go_wp2_with (fail)
                    refine HF3.out.mono ?_
                    rintro e w6 ⟨rfl, hw6⟩
                    rw [hw6]
                    clear hw6
                    generalize mm k = mk at hc hr0 hr1 hnr
                    cases hfk : ff k with
                    | true =>
                      rw [hfk] at hbt
                      simp only [Bool.not_true] at hbt
                      clear hnr hc
                      go_wp2
                      go_roundw
                      case rel => exact ⟨k + 1, l, m, rfl, rfl, by go_num, by omega, by first | trivial | rfl, hl0, hlq, hl1, hm0, hmq⟩
                      case measure => simp [intOf]; omega
                    | false =>
                      rw [hfk] at hbt
                      simp only [Bool.not_false] at hbt
                      obtain ⟨hn1, hn2⟩ := hnr hfk
                      clear hnr
                      go_wp2
                      go_roundw
                      case rel => exact ⟨k + 1, min l mk, max m mk, by first | rfl | (congr 1; omega), by first | rfl | (congr 1; omega), by go_num, by omega, by first | trivial | rfl, by omega, by omega, by omega, by omega, by omega⟩
                      case measure => simp [intOf]; omega
                  · have hki : ¬ (k : Int) < 3 := by omega
                    have hml : m - l ≤ 1 := by omega
                    go_wp2
                    go_ret
                    exact ⟨by first | rfl | simp [hml], HMM.out⟩
      · go_wp2
        go_loopw [9] (fun i wr => ∃ (I : Nat) (X : Nat → Prop) (a : Tn) (K : Int → Option Kw) (T : Int), i = .int .i64 (I : Int) ∧ I ≤ 11 ∧ T ≤ 3 * I ∧ Hid (E1 w wr t X a K (3 * I) 3) ∧ Hid (Ph 3 2 I 0 a) ∧ Hid (Kf K T) ∧ Hid (a.la + 1 = a.sz)) (fun i _ => 11 - (intOf i).toNat)
        case atStart => exact ⟨0, _, _, _, 0, rfl, by omega, by omega, HE0, Ph.start, .inl ⟨rfl, rfl⟩, HLA⟩
        case round =>
          obtain ⟨I, X, a, K, T, rfl, hI, hT, hE, hP, hK, hla⟩ := hrel
          clear HE0 HLA
          by_cases hI11 : I < 11
          · have hIi : (I : Int) < 11 := by omega
            go_wp2
            go_loopw [10] (fun kv wr => ∃ (k : Nat) (X : Nat → Prop) (a : Tn) (K : Int → Option Kw) (T : Int), kv = .int .i64 (k : Int) ∧ k ≤ 3 ∧ T ≤ 3 * I + k ∧ Hid (E1 w wr t X a K (3 * I + k) 3) ∧ Hid (Ph 3 2 I k a) ∧ Hid (Kf K T) ∧ Hid (a.la + 1 = a.sz)) (fun kv _ => 3 - (intOf kv).toNat)
            case atStart => exact ⟨0, X, a, K, T, rfl, by omega, by omega, hE, hP, hK, hla⟩
            case round =>
              clear hE hP hK hla hT
              obtain ⟨k, X, a, K, T, rfl, hk, hT, hE, hP, hK, hla⟩ := hrel
              by_cases hkz : k < 3
              · have hki : (k : Int) < 3 := by omega
                by_cases hkb : k = 2
                · have hne : ((k : Int) != 2) = false := by simp; omega
                  have hP2 : Hid (Ph 3 2 I (k + 1) a) := by rw [hkb]; exact Ph.skip (by have := hP.out; rwa [hkb] at this)
                  clear hP
                  go_wp2
                  go_roundw
                  case rel => exact ⟨k + 1, X, a, K, T, by go_num, by omega, by omega, hE.out.mono (by omega), hP2, hK, hla⟩
                  case measure => simp [intOf]; omega
                · have hne : ((k : Int) != 2) = true := by simp; omega
                  have hP2 : Hid (Ph 3 2 I (k + 1) (a.came k)) := hP.out.step hE.out.ta (by omega) hkz hkb
                  obtain ⟨sn, hsn⟩ : ∃ sn : Int, sn = 1 + (I : Int) * 3 + (k : Int) := ⟨_, rfl⟩
                  have hokf : okF 5 1 sn 0 = true := by unfold okF; simp; omega
                  go_wp2_with (fail)
                  rw [← hsn]
                  refine (frame_none 5 1 sn hokf wr).mono ?_
                  rintro e w6 ⟨vb, rfl, hvb, hm6, _⟩
                  have HC := (hE.out.keep hm6).comes (by omega) hkz hvb (by omega) (by omega) hK.out
                  clear hE hvb hm6 hP
                  go_wp2_with (fail)
                  refine HC.mono ?_
                  rintro e w7 ⟨X2, K2, rfl, hE7, hK7⟩
                  have HE7 : Hid (E1 w w7 t X2 (a.came k) K2 (3 * I + k + 1) 3) := hE7
                  have HK7 : Hid (Kf K2 sn) := hK7
                  clear HC hE7 hK7 hK
                  go_wp2
                  go_roundw
                  case rel => exact ⟨k + 1, X2, a.came k, K2, sn, by go_num, by omega, by omega, HE7, hP2, HK7, hla⟩
                  case measure => simp [intOf]; omega
              · have hki : ¬ (k : Int) < 3 := by omega
                have hkz' : k = 3 := by omega
                have hP2 : Hid (Ph 3 2 ((I + 1 : Nat) : Int) 0 a) := by
                  have := hP.out
                  rw [hkz'] at this
                  exact this.next (by omega)
                clear hP
                go_wp2
                go_roundw
                case rel => exact ⟨I + 1, X, a, K, T, by go_num, by omega, by omega, hE.out.mono (by omega), hP2, hK, hla⟩
                case measure => simp [intOf]; omega
          · have hIi : ¬ (I : Int) < 11 := by omega
            have hI' : I = 11 := by omega
            subst hI'
            have hdone : on a.f true 3 = 4 := Ph.done hP.out (by omega) (by omega)
            have HF : ∀ q, Calls Try.prog 27 #[.pointer (some ⟨t, 0, none⟩)] (wr.drewN q) fun e w' => e = .returned (.int .i64 4) ∧ w' = wr.drewN q := fun q => by
              have := (hE.out.keep ((Mod.refl _ wr).drewN q)).faulty
              rw [hdone] at this
              exact this
            have hsh : Hid (∀ q, E1 w (wr.drewN q) t X a K 33 3) := fun q => hE.out.keep ((Mod.refl _ wr).drewN q)
            clear hE hP hdone hT
            go_upto_region 17 with (fail)
            go_quiet (first | (go_at_call 27; exact (HF _).mono fun e w' h => ⟨h.1, _, h.2⟩))
            try generalize hwq : wr.drewN _ = wq
            have HEq : Hid (E1 w wq t X a K 33 3) := by subst hwq; exact hsh.out _
            have HMY : Hid (My a (m3 0 0 0)) := My.start3 3 hla.out
            clear hwq hsh HF hK hla
            go_wp2
            obtain ⟨wq', hwq⟩ : ∃ W, W = wq.alloc (.cells #[.int .i64 0, .int .i64 0, .int .i64 0] 61) := ⟨_, rfl⟩
            obtain ⟨mb, hmb⟩ : ∃ mb, mb = wq.heap.size := ⟨_, rfl⟩
            have HM0 : Hid (EM w wq' t mb X a K 33 3 #[.int .i64 0, .int .i64 0, .int .i64 0]) := by rw [hwq, hmb]; exact EM.new HEq.out _
            try rw [← hwq]
            try rw [← hmb]
            clear hwq hmb HEq
            go_loopw [12] (fun i wr => ∃ (I : Nat) (a : Tn) (M0 M1 M2 : Int), i = .int .i64 (I : Int) ∧ I ≤ 301 ∧ Hid (EM w wr t mb X a K (33 + I) 3 #[.int .i64 M0, .int .i64 M1, .int .i64 M2]) ∧ Hid (My a (m3 M0 M1 M2)) ∧ Hid ((0 ≤ M0 ∧ M0 ≤ I) ∧ (0 ≤ M1 ∧ M1 ≤ I) ∧ (0 ≤ M2 ∧ M2 ≤ I))) (fun i _ => 301 - (intOf i).toNat)
            case atStart => exact ⟨0, a, 0, 0, 0, rfl, by omega, HM0, HMY, by refine ⟨?_, ?_, ?_⟩ <;> omega⟩
            case round =>
              obtain ⟨I, a1, M0, M1, M2, rfl, hI, hE, hMy, hRg⟩ := hrel
              clear HM0 HMY
              go_wp2_with (fail)
              refine (HBN.out wr).mono ?_
              rintro e w4 ⟨rfl, hw4⟩
              rw [hw4]
              clear hw4
              by_cases hIn : I < Nc
              · have hIi : (I : Int) < (Nc : Int) := by omega
                have HW := hE.out.wrap (by omega)
                obtain ⟨hx1, hx2⟩ := nx_well hE.out.e.ta
                have hsz := hE.out.e.sz
                have hstep := wrap_My hE.out.e.ac (hMy.out.step hE.out.e.ta)
                have hfe := wrap_f hE.out.e.ac
                have hr := hRg.out
                generalize hnx : a1.nx = p at HW hx1 hx2 hstep
                rw [hsz] at hx1
                clear hnx hsz
                obtain rfl | rfl | rfl : p = 0 ∨ p = 1 ∨ p = 2 := by omega
                · have HW1 : Hid (Calls Try.prog 21 #[.pointer (some ⟨t, 0, none⟩), .slice none 0 0] wr fun e w' => ∃ v', e = .returned (.tuple #[v', .int .i64 1, .int .i64 0]) ∧ EM w w' t mb X a1.wrap K (33 + I + 1) 3 #[.int .i64 M0, .int .i64 M1, .int .i64 M2]) := HW
                  have hov := over_not a1.f (z := 3) (s := 0) (by omega) (by omega) hx2
                  have hov1 : bits .and .i64 1 ((on a1.f true 3 : Nat) : Int) = 0 := hov
                  have hMy' : Hid (My a1.wrap (m3 (M0 + 1) M1 M2)) := by
                    have e : (fun k => if k = 0 then m3 M0 M1 M2 k + 1 else m3 M0 M1 M2 k) = m3 (M0 + 1) M1 M2 := by
                      funext k
                      by_cases h0 : k = 0
                      · subst h0; simp [m3]
                      · by_cases h1 : k = 1
                        · subst h1; simp [m3]
                        · by_cases h2 : k = 2
                          · subst h2; simp [m3]
                          · simp [m3, h0, h1, h2]
                    rw [← e]
                    exact hstep
                  have hMp : 0 ≤ M0 ∧ M0 ≤ 301 := by omega
                  have hRg' : Hid ((0 ≤ M0 + 1 ∧ M0 + 1 ≤ ((I + 1 : Nat) : Int)) ∧ (0 ≤ M1 ∧ M1 ≤ ((I + 1 : Nat) : Int)) ∧ (0 ≤ M2 ∧ M2 ≤ ((I + 1 : Nat) : Int))) := by refine ⟨?_, ?_, ?_⟩ <;> omega
                  clear HW hov hstep hx1 hx2 hr hRg hMy
                  go_wp2_with (fail)
                  refine HW1.out.mono ?_
                  rintro e w5 ⟨vx, rfl, hE5⟩
                  have HF := hE5.e.faulty
                  rw [hfe] at HF
                  have HEs := hE5.store 0 (.int .i64 (M0 + 1))
                  have cp : w5.cell? ⟨mb, 0, none⟩ = some (.int .i64 M0) := hE5.blk.cellv (j := 0) rfl
                  have fp : w5.frozen? ⟨mb, 0, none⟩ = false := hE5.blk.frz 0
                  have HE5 : Hid (EM w (w5.setCell ⟨mb, 0, none⟩ (.int .i64 (M0 + 1))) t mb X a1.wrap K (33 + I + 1) 3 #[.int .i64 (M0 + 1), .int .i64 M1, .int .i64 M2]) := HEs
                  clear HEs hE5 HW1 hfe hE
                  generalize on a1.f true 3 = F1 at *
                  go_wp2_with (fail)
                  refine HF.mono ?_
                  rintro e w6 ⟨rfl, hw6⟩
                  rw [hw6]
                  clear hw6 HF
                  go_wp2
                  go_roundw
                  case rel => exact ⟨I + 1, a1.wrap, _, _, _, by go_num, by omega, HE5, hMy', hRg'⟩
                  case measure => simp [intOf]; omega
                · have HW1 : Hid (Calls Try.prog 21 #[.pointer (some ⟨t, 0, none⟩), .slice none 0 0] wr fun e w' => ∃ v', e = .returned (.tuple #[v', .int .i64 2, .int .i64 0]) ∧ EM w w' t mb X a1.wrap K (33 + I + 1) 3 #[.int .i64 M0, .int .i64 M1, .int .i64 M2]) := HW
                  have hov := over_not a1.f (z := 3) (s := 1) (by omega) (by omega) hx2
                  have hov1 : bits .and .i64 2 ((on a1.f true 3 : Nat) : Int) = 0 := hov
                  have hMy' : Hid (My a1.wrap (m3 M0 (M1 + 1) M2)) := by
                    have e : (fun k => if k = 1 then m3 M0 M1 M2 k + 1 else m3 M0 M1 M2 k) = m3 M0 (M1 + 1) M2 := by
                      funext k
                      by_cases h0 : k = 0
                      · subst h0; simp [m3]
                      · by_cases h1 : k = 1
                        · subst h1; simp [m3]
                        · by_cases h2 : k = 2
                          · subst h2; simp [m3]
                          · simp [m3, h0, h1, h2]
                    rw [← e]
                    exact hstep
                  have hMp : 0 ≤ M1 ∧ M1 ≤ 301 := by omega
                  have hRg' : Hid ((0 ≤ M0 ∧ M0 ≤ ((I + 1 : Nat) : Int)) ∧ (0 ≤ M1 + 1 ∧ M1 + 1 ≤ ((I + 1 : Nat) : Int)) ∧ (0 ≤ M2 ∧ M2 ≤ ((I + 1 : Nat) : Int))) := by refine ⟨?_, ?_, ?_⟩ <;> omega
                  clear HW hov hstep hx1 hx2 hr hRg hMy
                  go_wp2_with (fail)
                  refine HW1.out.mono ?_
                  rintro e w5 ⟨vx, rfl, hE5⟩
                  have HF := hE5.e.faulty
                  rw [hfe] at HF
                  have HEs := hE5.store 1 (.int .i64 (M1 + 1))
                  have cp : w5.cell? ⟨mb, 1, none⟩ = some (.int .i64 M1) := hE5.blk.cellv (j := 1) rfl
                  have fp : w5.frozen? ⟨mb, 1, none⟩ = false := hE5.blk.frz 1
                  have HE5 : Hid (EM w (w5.setCell ⟨mb, 1, none⟩ (.int .i64 (M1 + 1))) t mb X a1.wrap K (33 + I + 1) 3 #[.int .i64 M0, .int .i64 (M1 + 1), .int .i64 M2]) := HEs
                  clear HEs hE5 HW1 hfe hE
                  generalize on a1.f true 3 = F1 at *
                  go_wp2_with (fail)
                  refine HF.mono ?_
                  rintro e w6 ⟨rfl, hw6⟩
                  rw [hw6]
                  clear hw6 HF
                  go_wp2
                  go_roundw
                  case rel => exact ⟨I + 1, a1.wrap, _, _, _, by go_num, by omega, HE5, hMy', hRg'⟩
                  case measure => simp [intOf]; omega
                · have HW1 : Hid (Calls Try.prog 21 #[.pointer (some ⟨t, 0, none⟩), .slice none 0 0] wr fun e w' => ∃ v', e = .returned (.tuple #[v', .int .i64 4, .int .i64 0]) ∧ EM w w' t mb X a1.wrap K (33 + I + 1) 3 #[.int .i64 M0, .int .i64 M1, .int .i64 M2]) := HW
                  have hov := over_not a1.f (z := 3) (s := 2) (by omega) (by omega) hx2
                  have hov1 : bits .and .i64 4 ((on a1.f true 3 : Nat) : Int) = 0 := hov
                  have hMy' : Hid (My a1.wrap (m3 M0 M1 (M2 + 1))) := by
                    have e : (fun k => if k = 2 then m3 M0 M1 M2 k + 1 else m3 M0 M1 M2 k) = m3 M0 M1 (M2 + 1) := by
                      funext k
                      by_cases h0 : k = 0
                      · subst h0; simp [m3]
                      · by_cases h1 : k = 1
                        · subst h1; simp [m3]
                        · by_cases h2 : k = 2
                          · subst h2; simp [m3]
                          · simp [m3, h0, h1, h2]
                    rw [← e]
                    exact hstep
                  have hMp : 0 ≤ M2 ∧ M2 ≤ 301 := by omega
                  have hRg' : Hid ((0 ≤ M0 ∧ M0 ≤ ((I + 1 : Nat) : Int)) ∧ (0 ≤ M1 ∧ M1 ≤ ((I + 1 : Nat) : Int)) ∧ (0 ≤ M2 + 1 ∧ M2 + 1 ≤ ((I + 1 : Nat) : Int))) := by refine ⟨?_, ?_, ?_⟩ <;> omega
                  clear HW hov hstep hx1 hx2 hr hRg hMy
                  go_wp2_with (fail)
                  refine HW1.out.mono ?_
                  rintro e w5 ⟨vx, rfl, hE5⟩
                  have HF := hE5.e.faulty
                  rw [hfe] at HF
                  have HEs := hE5.store 2 (.int .i64 (M2 + 1))
                  have cp : w5.cell? ⟨mb, 2, none⟩ = some (.int .i64 M2) := hE5.blk.cellv (j := 2) rfl
                  have fp : w5.frozen? ⟨mb, 2, none⟩ = false := hE5.blk.frz 2
                  have HE5 : Hid (EM w (w5.setCell ⟨mb, 2, none⟩ (.int .i64 (M2 + 1))) t mb X a1.wrap K (33 + I + 1) 3 #[.int .i64 M0, .int .i64 M1, .int .i64 (M2 + 1)]) := HEs
                  clear HEs hE5 HW1 hfe hE
                  generalize on a1.f true 3 = F1 at *
                  go_wp2_with (fail)
                  refine HF.mono ?_
                  rintro e w6 ⟨rfl, hw6⟩
                  rw [hw6]
                  clear hw6 HF
                  go_wp2
                  go_roundw
                  case rel => exact ⟨I + 1, a1.wrap, _, _, _, by go_num, by omega, HE5, hMy', hRg'⟩
                  case measure => simp [intOf]; omega
              · have hIi : ¬ (I : Int) < (Nc : Int) := by omega
                obtain ⟨q, hq1, hq2, hnear⟩ := hMy.out.near hE.out.e.ta (fun k hk => by
                  have hr := hRg.out
                  unfold m3
                  split
                  · omega
                  · split
                    · omega
                    · split <;> omega)
                rw [hE.out.e.sz] at hnear
                have HNR : Hid (∀ k, k < 3 → a1.f k = false → q ≤ m3 M0 M1 M2 k ∧ m3 M0 M1 M2 k ≤ q + 1) := hnear
                have HR3 : Hid (∀ k, k < 3 → 0 ≤ m3 M0 M1 M2 k ∧ m3 M0 M1 M2 k ≤ 301) := fun k hk => by
                  have hr := hRg.out
                  unfold m3
                  split
                  · omega
                  · split
                    · omega
                    · split <;> omega
                have HC3 : Hid (∀ k, k < 3 → wr.cell? ⟨mb, k, none⟩ = some (.int .i64 (m3 M0 M1 M2 k))) := fun k hk => m3_cell hE.out.blk k hk
                have HF3 : Hid (Calls Try.prog 27 #[.pointer (some ⟨t, 0, none⟩)] wr fun e w' => e = .returned (.int .i64 (on a1.f true 3 : Nat)) ∧ w' = wr) := hE.out.e.faulty
                have HBT : Hid (∀ k, k < 3 → (bits .and .i64 (((on a1.f true 3 : Nat) : Int) / 2 ^ k) 1 == 0) = !a1.f k) := fun k hk => faulty_bit a1.f (by omega) hk
                have HMM : Hid (Mod (fun _ => False) w wr) := hE.out.e.m
                clear hnear hMy hE hRg
                generalize on a1.f true 3 = F1 at *
                generalize m3 M0 M1 M2 = mm at *
                generalize a1.f = ff at *
                go_wp2
                go_loopw [16, 17, 18] (fun lv mv kv wz => ∃ (k : Nat) (l m : Int), lv = .int .i64 l ∧ mv = .int .i64 m ∧ kv = .int .i64 (k : Int) ∧ k ≤ 3 ∧ wz = wr ∧ 0 ≤ l ∧ q ≤ l ∧ l ≤ 1073741824 ∧ 0 ≤ m ∧ m ≤ q + 1) (fun _ _ kv _ => 3 - (intOf kv).toNat)
                case atStart => exact ⟨0, 1073741824, 0, rfl, rfl, rfl, by omega, rfl, by omega, by omega, by omega, by omega, by omega⟩
                case round =>
                  obtain ⟨k, l, m, rfl, rfl, rfl, hk, rfl, hl0, hlq, hl1, hm0, hmq⟩ := hrel
                  by_cases hkz : k < 3
                  · have hki : (k : Int) < 3 := by omega
                    have hbt := HBT.out k hkz
                    have hc := HC3.out k (by omega)
                    obtain ⟨hr0, hr1⟩ := HR3.out k (by omega)
                    have hnr := HNR.out k hkz
                    go_wp2_with (fail)
                    refine HF3.out.mono ?_
                    rintro e w6 ⟨rfl, hw6⟩
                    rw [hw6]
                    clear hw6
                    generalize mm k = mk at hc hr0 hr1 hnr
                    cases hfk : ff k with
                    | true =>
                      rw [hfk] at hbt
                      simp only [Bool.not_true] at hbt
                      clear hnr hc
                      go_wp2
                      go_roundw
                      case rel => exact ⟨k + 1, l, m, rfl, rfl, by go_num, by omega, by first | trivial | rfl, hl0, hlq, hl1, hm0, hmq⟩
                      case measure => simp [intOf]; omega
                    | false =>
                      rw [hfk] at hbt
                      simp only [Bool.not_false] at hbt
                      obtain ⟨hn1, hn2⟩ := hnr hfk
                      clear hnr
                      go_wp2
                      go_roundw
                      case rel => exact ⟨k + 1, min l mk, max m mk, by first | rfl | (congr 1; omega), by first | rfl | (congr 1; omega), by go_num, by omega, by first | trivial | rfl, by omega, by omega, by omega, by omega, by omega⟩
                      case measure => simp [intOf]; omega
                  · have hki : ¬ (k : Int) < 3 := by omega
                    have hml : m - l ≤ 1 := by omega
                    go_wp2
                    go_ret
                    exact ⟨by first | rfl | simp [hml], HMM.out⟩
namespace twinTurns
open Go.ChangeShapes Go.WideShapes Go.ChangeAt Go.RowKit
set_option maxRecDepth 100000 in
theorem lifted (os : Os) (started : os.Started) (H : Type) (enc : TypeId × Value → H) :
    ReturnsInHanded {} Try.checked os 8 .any (Rows.twinTurnsSpec.pre6 enc Try.prog Try.f8 Rows.twinTurnsRow.domain false) (Rows.twinTurnsSpec.post enc Try.prog Try.f8 false true false false) := by
  refine returnsInHanded_of_change_sized (C := Try.checked) own started (by kernel_rfl) Try.func8
    (ChangeSpec.witness6 (enc := enc) (C := Try.checked) false ⟨#[], #[.int .i64 0, .int .i64 0, .int .i64 0], []⟩ 8 (by kernel_rfl) (by kernel_rfl) (by kernel_rfl) (by kernel_rfl)) ?_
  intro W base args ds gs before hval0 hW hcnd hsz0 _
  have hval : ∀ (j : Nat) t v, Try.f8.params[j]? = some t → args[j]? = some v → Value.okWide Try.prog W .any base t v := hval0
  have hsz : (DataW.weightsEach Try.prog (Try.f8.params.toList ++ Rows.twinTurnsSpec.plain.varTypes Try.prog) (ds ++ gs)).all (· ≤ reachBytes) = true := hsz0
  have hW' := hW
  obtain ⟨p, q, hA0, hV, rfl, hfz, hnd⟩ := hW
  have hA : DataW.TrodAll enc Try.prog W 0 (fun _ => true) true Try.f8.params.toList args.toList ds p := hA0
  rw [Try.params8] at hA hval hsz
  obtain ⟨v0, vs0, d0, ds0, p0, q0, hargs, rfl, rfl, h0, r0⟩ := trodAll_cons hA
  obtain ⟨v1, vs1, d1, ds1, p1, q1, rfl, rfl, rfl, h1, r1⟩ := trodAll_cons r0
  obtain ⟨v2, vs2, d2, ds2, p2, q2, rfl, rfl, rfl, h2, r2⟩ := trodAll_cons r1
  obtain ⟨rfl, rfl, rfl⟩ := trodAll_nil r2
  obtain rfl : args = #[v0, v1, v2] := by cases args; simp_all
  obtain ⟨rfl, rfl⟩ := trodVars_none hV
  obtain ⟨a0, rfl, rfl, rfl, w0⟩ := open_int Try.underlying3 (hval 0 3 v0 rfl rfl) h0
  obtain ⟨a1, rfl, rfl, rfl, w1⟩ := open_int Try.underlying3 (hval 1 3 v1 rfl rfl) h1
  obtain ⟨a2, rfl, rfl, rfl, w2⟩ := open_int Try.underlying3 (hval 2 3 v2 rfl rfl) h2
  clear hA0 hval0
  refine (turns_walk a0 a1 a2 W (i64_of_wf w0) (i64_of_wf w1) (i64_of_wf w2)).mono fun e W' ⟨he, hm⟩ => ?_
  subst he
  have bel : Below W.heap.size W W' := hm.below _ (Nat.le_refl _) (fun _ h => h.elim)
  exact ⟨_, rfl, _, _, _, [], _, [], hW', trodAll_mk1 (shut_bool Try.underlying4 _), (trodAll_cons_mk (shut_int Try.underlying3 w0) (trodAll_cons_mk (shut_int Try.underlying3 w1) (trodAll_cons_mk (shut_int Try.underlying3 w2) trodAll_mk0))), rfl, bel.frame _, fun h => by cases h⟩

theorem over : Rows.twinTurnsRow.holds Try.pinned (OpenSpec.ofChange Rows.twinTurnsSpec) :=
  OpenClaim.holds_of_wide 8 Try.f8 rfl rfl rfl rfl rfl rfl rfl ⟨rfl, rfl, rfl, rfl, rfl⟩ rfl rfl rfl rfl rfl (by kernel_rfl) Try.func8 (by kernel_rfl)
    (of_decide_eq_true (by kernel_rfl)) (by unfold Func.isWrapper; first | (rw [if_pos (by decide +kernel)]; kernel_rfl) | (rw [if_neg (by decide +kernel)]; exact ⟨rfl, rfl⟩))
    (fun os started H enc _ => lifted os started H enc)
end twinTurns
theorem twinTurns_holds : Rows.TwinTurnsSaid := twinTurns.over
end Go.Proofs.Ytlkkbfcedjedoaa
