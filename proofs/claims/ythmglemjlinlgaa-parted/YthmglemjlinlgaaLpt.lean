/- LaneParted: who reaches whom parts the nodes. No conditions. -/
import Derived.Test.YthmglemjlinlgaaLj
import Derived.Deep.RegionWith
namespace Go.Proofs.Ythmglemjlinlgaa
open Go.RowKit
theorem rc_symm (s a b : Int) : rc s a b = rc s b a := by
  unfold rc
  rw [Bool.and_comm (nd a), BEq.comm]
theorem nd_of {a : Nat} (h1 : 1 ≤ a) (h2 : a ≤ 8) : nd (a : Int) = true := by
  unfold nd
  simp only [decide_eq_true_eq]
  omega
theorem rc_self (s : Int) {a : Nat} (h1 : 1 ≤ a) (h2 : a ≤ 8) : rc s a a = true := by simp [rc, nd_of h1 h2]
theorem rc_node (s : Int) {a b : Nat} (h1 : 1 ≤ a) (h2 : a ≤ 8) (h3 : 1 ≤ b) (h4 : b ≤ 8) : rc s a b = (bt s a == bt s b) := by simp [rc, nd_of h1 h2, nd_of h3 h4]
theorem rc_not (s : Int) {a b : Nat} (h1 : 1 ≤ a) (h2 : a ≤ 8) (h3 : 1 ≤ b) (h4 : b ≤ 8) : rc (-1 - s) a b = rc s a b := by
  rw [rc_node _ h1 h2 h3 h4, rc_node _ h1 h2 h3 h4, bt_not s a h2, bt_not s b h4, Bool.eq_iff_iff]
  simp only [beq_iff_eq]
  omega
theorem rc_trans (s a b c : Int) (h1 : rc s a b = true) (h2 : rc s b c = true) : rc s a c = true := by
  unfold rc at *
  simp only [Bool.and_eq_true, beq_iff_eq] at *
  exact ⟨⟨h1.1.1, h2.1.2⟩, h1.2.trans h2.2⟩
theorem rc_zero {a b : Nat} (h1 : 1 ≤ a) (h2 : a ≤ 8) (h3 : 1 ≤ b) (h4 : b ≤ 8) : rc 0 a b = true := by
  rw [rc_node _ h1 h2 h3 h4, bt_eq 0 a h2, bt_eq 0 b h4]
  simp
theorem rc_all {a b : Nat} (h1 : 1 ≤ a) (h2 : a ≤ 8) (h3 : 1 ≤ b) (h4 : b ≤ 8) : rc (-1) a b = true := by
  have := rc_not 0 h1 h2 h3 h4
  rw [rc_zero h1 h2 h3 h4] at this
  exact this
theorem not_i64 (s : Int) (h : -9223372036854775808 ≤ s ∧ s ≤ 9223372036854775807) : bits .xor .i64 (-1) s = -1 - s := by
  have e : BitVec.ofInt 64 (-1) ^^^ BitVec.ofInt 64 s = ~~~ (BitVec.ofInt 64 s) := by
    rw [show BitVec.ofInt 64 (-1) = BitVec.allOnes 64 from by decide, BitVec.allOnes_xor]
  show IntKind.i64.wrap ((BitVec.ofInt 64 (-1) ^^^ BitVec.ofInt 64 s).toNat : Nat) = _
  rw [e, BitVec.toNat_not, BitVec.toNat_ofInt, IntKind.wrap_i64]
  omega
/-- Two lanes that were not there. -/
structure Two (w0 w : World) (p q : Nat) (s t : Int) (F G : Nat → Prop) : Prop where
  x : La w p [] s F
  y : La w q [] t G
  far : ∀ k, F k → ¬ G k
  nx : ∀ k, F k → w0.heap.size ≤ k
  ny : ∀ k, G k → w0.heap.size ≤ k
  mod : Mod (fun _ => False) w0 w
theorem Two.quiet {w0 w w' : World} {p q : Nat} {s t : Int} {F G : Nat → Prop} (h : Two w0 w p q s t F G) (hm : Mod (fun _ => False) w w') : Two w0 w' p q s t F G :=
  ⟨h.x.mod hm (fun _ _ h => h), h.y.mod hm (fun _ _ h => h), h.far, h.nx, h.ny, h.mod.and hm⟩
theorem Two.cutx {w0 w w' : World} {p q : Nat} {s t s' : Int} {F G : Nat → Prop} (h : Two w0 w p q s t F G) (hx : La w' p [] s' F) (hm : Mod F w w') : Two w0 w' p q s' t F G :=
  ⟨hx, h.y.mod hm (fun k hk hF => h.far k hF hk), h.far, h.nx, h.ny, h.mod.trans hm (fun _ _ h => h) (fun k hk hF => by have := h.nx k hF; omega)⟩
theorem Two.cuty {w0 w w' : World} {p q : Nat} {s t t' : Int} {F G : Nat → Prop} (h : Two w0 w p q s t F G) (hy : La w' q [] t' G) (hm : Mod G w w') : Two w0 w' p q s t' F G :=
  ⟨h.x.mod hm (fun k hk hG => h.far k hk hG), hy, h.far, h.nx, h.ny, h.mod.trans hm (fun _ _ h => h) (fun k hk hG => by have := h.ny k hG; omega)⟩
set_option maxRecDepth 100000 in
set_option maxHeartbeats 4000000 in
theorem parted_walk (s o : Int) (w : World) (hs : -9223372036854775808 ≤ s ∧ s ≤ 9223372036854775807) : Calls Try.prog 5 #[.int .i64 s, .int .i64 o] w fun e w' => e = .returned (.bool true) ∧ Mod (fun _ => False) w w' := by
  have HN : Hid (bits .xor .i64 (-1) s = -1 - s) := not_i64 s hs
  clear hs
  go_enter Try.func5, Try.ntmps5
  go_wp2_with (fail)
  refine (works w).mono ?_
  rintro e w1 ⟨rfl, hm1⟩
  go_wp2_with (fail)
  refine (New_any w1).mono ?_
  rintro e w2 ⟨p, F, rfl, hL2, hm2, hn2⟩
  go_wp2_with (fail)
  refine (New_any w2).mono ?_
  rintro e w3 ⟨q, G, rfl, hL3, hm3, hn3⟩
  have T3 : Two w w3 p q 0 0 F G := ⟨hL2.mod hm3 (fun _ _ h => h), hL3, fun k hF hG => by have := hL2.lt hF; have := hn3 k hG; omega, fun k hk => Nat.le_trans hm1.size (hn2 k hk), fun k hk => Nat.le_trans (Nat.le_trans hm1.size hm2.size) (hn3 k hk), (hm1.and hm2).and hm3⟩
  clear hL2 hm1 hm2 hn2 hL3 hm3 hn3
  go_wp2_with (fail)
  refine (Cut_any T3.x o).mono ?_
  rintro e w4 ⟨rfl, hL4, hm4⟩
  have T4 := T3.cutx hL4 hm4
  clear T3 hL4 hm4
  go_wp2_with (fail)
  refine (Cut_any T4.x s).mono ?_
  rintro e w5 ⟨rfl, hL5, hm5⟩
  have T5 := T4.cutx hL5 hm5
  clear T4 hL5 hm5
  go_wp2_with (fail)
  rw [HN.out]
  refine (Cut_any T5.y (-1 - s)).mono ?_
  rintro e w6 ⟨rfl, hL6, hm6⟩
  have T6 := T5.cuty hL6 hm6
  clear T5 hL6 hm6 HN
  go_wp2_with (fail)
  go_loopw [7] (fun i wr => ∃ (a : Nat), i = .int .i64 a ∧ 1 ≤ a ∧ a ≤ 9 ∧ Hid (Two w wr p q s (-1 - s) F G)) (fun i _ => 9 - (intOf i).toNat)
  case atStart => exact ⟨1, rfl, by omega, by omega, T6⟩
  case round =>
    obtain ⟨a, rfl, ha1, ha2, TA⟩ := hrel
    clear T6
    by_cases hlt : a < 9
    · have hi : (a : Int) ≤ 8 := by omega
      go_wp2_with (fail)
      go_loopw [8] (fun i wr => ∃ (b : Nat), i = .int .i64 b ∧ 1 ≤ b ∧ b ≤ 9 ∧ Hid (Two w wr p q s (-1 - s) F G)) (fun i _ => 9 - (intOf i).toNat)
      case atStart => exact ⟨1, rfl, by omega, by omega, TA⟩
      case round =>
        obtain ⟨b, rfl, hb1, hb2, TB⟩ := hrel
        clear TA
        by_cases hlt2 : b < 9
        · have hi2 : (b : Int) ≤ 8 := by omega
          have r1 := rc_symm s b a
          have r2 : a = b → rc s a b = true := fun e => by subst e; exact rc_self s ha1 (by omega)
          have r3 := rc_node s ha1 (show a ≤ 8 by omega) hb1 (show b ≤ 8 by omega)
          have r4 := rc_not s ha1 (show a ≤ 8 by omega) hb1 (show b ≤ 8 by omega)
          have r5 := rc_trans s a b
          have HX := fun W (hW : La W p [] s F) => Reaches_any hW (a : Int) (b : Int)
          go_wp2_with (fail)
          refine (HX _ TB.out.x).mono ?_
          rintro e wb ⟨rfl, hmb⟩
          have TC := TB.out.quiet hmb
          clear TB HX
          have h3 : (bits .and .i64 (s / 2 ^ a) 1 == bits .and .i64 (s / 2 ^ b) 1) = rc s a b := by rw [r3]; unfold bt; rw [Int.toNat_natCast, Int.toNat_natCast, Nat.min_eq_left (Nat.le_trans (Nat.le_of_lt_succ hlt) (by decide)), Nat.min_eq_left (Nat.le_trans (Nat.le_of_lt_succ hlt2) (by decide))]
          obtain ⟨A, hA⟩ : ∃ A, bits .and .i64 (s / 2 ^ a) 1 = A := ⟨_, rfl⟩
          obtain ⟨B, hB⟩ : ∃ B, bits .and .i64 (s / 2 ^ b) 1 = B := ⟨_, rfl⟩
          rw [hA, hB] at h3
          have HBA := fun W (hW : La W p [] s F) => Reaches_q hW (b : Int) (a : Int)
          have HY := fun W (hW : La W q [] (-1 - s) G) => Reaches_q hW (a : Int) (b : Int)
          have HBC := fun (c : Nat) W (hW : La W p [] s F) => Reaches_q hW (b : Int) (c : Int)
          have HAC := fun (c : Nat) W (hW : La W p [] s F) => Reaches_q hW (a : Int) (c : Int)
          rw [r1] at HBA
          rw [r4] at HY
          clear r1 r3 r4
          generalize rc s a b = r at *
          have hT : ∀ n, Two w (wb.drewN n) p q s (-1 - s) F G := fun n => TC.quiet ((Mod.refl (fun _ => False) wb).drewN n)
          cases r with
          | false =>
            have hne : ((a : Int) == (b : Int)) = false := by
              rw [beq_eq_false_iff_ne]
              intro e
              have := r2 (Int.ofNat_inj.1 e)
              cases this
            clear r2 r5
            go_wp2
            go_quiet (first | (go_at_call_of 24 p; exact Calls.quiet_of (HBA _ (hT _).x)) | (go_at_call_of 24 q; exact Calls.quiet_of (HY _ (hT _).y)))
            have TQ := TC.quiet ((Mod.refl (fun _ => False) wb).drewN nq)
            clear HBA HY hT TC h3 hA hB
            go_wp2_with (fail)
            go_loopw [10] (fun i wr => ∃ (c : Nat), i = .int .i64 c ∧ 1 ≤ c ∧ c ≤ 9 ∧ Hid (Two w wr p q s (-1 - s) F G)) (fun i _ => 9 - (intOf i).toNat)
            case atStart => exact ⟨1, rfl, by omega, by omega, TQ⟩
            case round =>
              obtain ⟨c, rfl, hc1, hc2, TD⟩ := hrel
              clear TQ HBC HAC
              by_cases hlt3 : c < 9
              · have hi3 : (c : Int) ≤ 8 := by omega
                go_wp2
                go_roundw
                case rel => exact ⟨c + 1, by go_num, by omega, by omega, TD⟩
                case measure => simp [intOf]; omega
              · obtain rfl : c = 9 := by omega
                go_wp2
                go_roundw
                case rel => exact ⟨b + 1, by go_num, by omega, by omega, TD⟩
                case measure => simp [intOf]; omega
          | true =>
            have r5' := fun c : Nat => r5 c rfl
            clear r2 r5
            cases hab : ((a : Int) == (b : Int)) with
            | true =>
              go_wp2
              go_quiet (first | (go_at_call_of 24 p; exact Calls.quiet_of (HBA _ (hT _).x)) | (go_at_call_of 24 q; exact Calls.quiet_of (HY _ (hT _).y)))
              have TQ := TC.quiet ((Mod.refl (fun _ => False) wb).drewN nq)
              clear HBA HY hT TC h3 hA hB
              go_wp2_with (fail)
              go_loopw [10] (fun i wr => ∃ (c : Nat), i = .int .i64 c ∧ 1 ≤ c ∧ c ≤ 9 ∧ Hid (Two w wr p q s (-1 - s) F G)) (fun i _ => 9 - (intOf i).toNat)
              case atStart => exact ⟨1, rfl, by omega, by omega, TQ⟩
              case round =>
                obtain ⟨c, rfl, hc1, hc2, TD⟩ := hrel
                clear TQ
                by_cases hlt3 : c < 9
                · have hi3 : (c : Int) ≤ 8 := by omega
                  have r6 := r5' c
                  have H1 := HBC c _ TD.out.x
                  have H2 := fun n => HAC c (wr.drewN n) (TD.out.quiet ((Mod.refl (fun _ => False) wr).drewN n)).x
                  clear HBC HAC
                  generalize rc s b c = r7 at *
                  generalize rc s a c = r8 at *
                  cases r7 with
                  | false =>
                    go_wp2_with (fail)
                    refine H1.mono ?_
                    rintro e w7 ⟨rfl, n7, rfl⟩
                    have TE : Hid (Two w (wr.drewN n7) p q s (-1 - s) F G) := TD.out.quiet ((Mod.refl (fun _ => False) wr).drewN n7)
                    clear H1 H2 r6
                    go_wp2
                    go_roundw
                    case rel => exact ⟨c + 1, by go_num, by omega, by omega, TE⟩
                    case measure => simp [intOf]; omega
                  | true =>
                    obtain rfl := r6 rfl
                    go_wp2_with (fail)
                    refine H1.mono ?_
                    rintro e w7 ⟨rfl, n7, rfl⟩
                    go_wp2_with (fail)
                    refine (H2 n7).mono ?_
                    rintro e w8 ⟨rfl, n8, rfl⟩
                    have TE : Hid (Two w ((wr.drewN n7).drewN n8) p q s (-1 - s) F G) := (TD.out.quiet ((Mod.refl (fun _ => False) wr).drewN n7)).quiet ((Mod.refl (fun _ => False) _).drewN n8)
                    clear H1 H2
                    go_wp2
                    go_roundw
                    case rel => exact ⟨c + 1, by go_num, by omega, by omega, by simpa using TE⟩
                    case measure => simp [intOf]; omega
                · obtain rfl : c = 9 := by omega
                  go_wp2
                  go_roundw
                  case rel => exact ⟨b + 1, by go_num, by omega, by omega, TD⟩
                  case measure => simp [intOf]; omega
            | false =>
              go_wp2
              go_quiet (first | (go_at_call_of 24 p; exact Calls.quiet_of (HBA _ (hT _).x)) | (go_at_call_of 24 q; exact Calls.quiet_of (HY _ (hT _).y)))
              have TQ := TC.quiet ((Mod.refl (fun _ => False) wb).drewN nq)
              clear HBA HY hT TC h3 hA hB
              go_wp2_with (fail)
              go_loopw [10] (fun i wr => ∃ (c : Nat), i = .int .i64 c ∧ 1 ≤ c ∧ c ≤ 9 ∧ Hid (Two w wr p q s (-1 - s) F G)) (fun i _ => 9 - (intOf i).toNat)
              case atStart => exact ⟨1, rfl, by omega, by omega, TQ⟩
              case round =>
                obtain ⟨c, rfl, hc1, hc2, TD⟩ := hrel
                clear TQ
                by_cases hlt3 : c < 9
                · have hi3 : (c : Int) ≤ 8 := by omega
                  have r6 := r5' c
                  have H1 := HBC c _ TD.out.x
                  have H2 := fun n => HAC c (wr.drewN n) (TD.out.quiet ((Mod.refl (fun _ => False) wr).drewN n)).x
                  clear HBC HAC
                  generalize rc s b c = r7 at *
                  generalize rc s a c = r8 at *
                  cases r7 with
                  | false =>
                    go_wp2_with (fail)
                    refine H1.mono ?_
                    rintro e w7 ⟨rfl, n7, rfl⟩
                    have TE : Hid (Two w (wr.drewN n7) p q s (-1 - s) F G) := TD.out.quiet ((Mod.refl (fun _ => False) wr).drewN n7)
                    clear H1 H2 r6
                    go_wp2
                    go_roundw
                    case rel => exact ⟨c + 1, by go_num, by omega, by omega, TE⟩
                    case measure => simp [intOf]; omega
                  | true =>
                    obtain rfl := r6 rfl
                    go_wp2_with (fail)
                    refine H1.mono ?_
                    rintro e w7 ⟨rfl, n7, rfl⟩
                    go_wp2_with (fail)
                    refine (H2 n7).mono ?_
                    rintro e w8 ⟨rfl, n8, rfl⟩
                    have TE : Hid (Two w ((wr.drewN n7).drewN n8) p q s (-1 - s) F G) := (TD.out.quiet ((Mod.refl (fun _ => False) wr).drewN n7)).quiet ((Mod.refl (fun _ => False) _).drewN n8)
                    clear H1 H2
                    go_wp2
                    go_roundw
                    case rel => exact ⟨c + 1, by go_num, by omega, by omega, by simpa using TE⟩
                    case measure => simp [intOf]; omega
                · obtain rfl : c = 9 := by omega
                  go_wp2
                  go_roundw
                  case rel => exact ⟨b + 1, by go_num, by omega, by omega, TD⟩
                  case measure => simp [intOf]; omega
        · obtain rfl : b = 9 := by omega
          go_wp2
          go_roundw
          case rel => exact ⟨a + 1, by go_num, by omega, by omega, TB⟩
          case measure => simp [intOf]; omega
    · obtain rfl : a = 9 := by omega
      go_wp2_with (fail)
      refine (Cut_any TA.out.x 0).mono ?_
      rintro e w7 ⟨rfl, hL7, hm7⟩
      have T7 := TA.out.cutx hL7 hm7
      clear TA hL7 hm7
      go_wp2_with (fail)
      refine (Cut_any T7.y (-1)).mono ?_
      rintro e w8 ⟨rfl, hL8, hm8⟩
      have T8 := T7.cuty hL8 hm8
      clear T7 hL8 hm8
      go_wp2_with (fail)
      go_loopw [11] (fun i wr => ∃ (k : Nat), i = .int .i64 k ∧ k ≤ 64 ∧ Hid (Two w wr p q 0 (-1) F G)) (fun i _ => 64 - (intOf i).toNat)
      case atStart => exact ⟨0, rfl, by omega, T8⟩
      case round =>
        obtain ⟨k, rfl, hk, TK⟩ := hrel
        clear T8
        by_cases hlt4 : k < 64
        · have hi4 : (k : Int) < 64 := by omega
          have g1 : (k : Int).tdiv 8 = ((k / 8 : Nat) : Int) := by rw [Int.tdiv_eq_ediv_of_nonneg (by omega)]; omega
          have g2 : (k : Int).tmod 8 = ((k % 8 : Nat) : Int) := by rw [Int.tmod_eq_emod_of_nonneg (by omega)]; omega
          obtain ⟨x, hx⟩ : ∃ x, x = k / 8 + 1 := ⟨_, rfl⟩
          obtain ⟨y, hy⟩ : ∃ y, y = k % 8 + 1 := ⟨_, rfl⟩
          have H1 := Reaches_any TK.out.x (1 + ((k / 8 : Nat) : Int)) (1 + ((k % 8 : Nat) : Int))
          have H2 := fun W (hW : La W q [] (-1) G) => Reaches_any hW (1 + ((k / 8 : Nat) : Int)) (1 + ((k % 8 : Nat) : Int))
          have z1 := rc_zero (a := x) (b := y) (by omega) (by omega) (by omega) (by omega)
          have z2 := rc_all (a := x) (b := y) (by omega) (by omega) (by omega) (by omega)
          rw [show (x : Int) = 1 + ((k / 8 : Nat) : Int) by omega, show (y : Int) = 1 + ((k % 8 : Nat) : Int) by omega] at z1 z2
          rw [z1] at H1
          rw [z2] at H2
          have b1 : k / 8 < 8 := by omega
          have b2 : k % 8 < 8 := by omega
          clear hx hy z1 z2
          generalize k / 8 = K at *
          generalize k % 8 = J at *
          go_wp2_with (fail)
          refine H1.mono ?_
          rintro e w9 ⟨rfl, hm9⟩
          have T9 := TK.out.quiet hm9
          clear TK H1 hm9
          go_wp2_with (fail)
          refine (H2 _ T9.y).mono ?_
          rintro e w10 ⟨rfl, hm10⟩
          have T10 : Hid (Two w w10 p q 0 (-1) F G) := T9.quiet hm10
          clear T9 H2 hm10 g1 g2
          go_wp2
          go_roundw
          case rel => exact ⟨k + 1, by go_num, by omega, T10⟩
          case measure => simp [intOf]; omega
        · have e1 : rc 0 0 1 = false := rfl
          have e2 : rc 0 1 9 = false := rfl
          go_wp2_with (fail)
          have H := Reaches_any TK.out.x 0 1
          rw [e1] at H
          refine H.mono ?_
          rintro e w9 ⟨rfl, hm9⟩
          have T9 := TK.out.quiet hm9
          clear TK H hm9
          go_wp2_with (fail)
          have H := Reaches_any T9.x 1 9
          rw [e2] at H
          refine H.mono ?_
          rintro e w10 ⟨rfl, hm10⟩
          have T10 := T9.quiet hm10
          clear T9 H hm10
          go_wp2
          go_ret
          exact ⟨rfl, T10.mod⟩
namespace laneParted
open Go.ChangeShapes Go.WideShapes Go.ChangeAt Go.RowKit
set_option maxRecDepth 100000 in
theorem lifted (os : Os) (started : os.Started) (H : Type) (enc : TypeId × Value → H) :
    ReturnsInHanded {} Try.checked os 5 .any (Rows.lanePartedSpec.pre6 enc Try.prog Try.f5 Rows.lanePartedRow.domain false) (Rows.lanePartedSpec.post enc Try.prog Try.f5 false true false false) := by
  refine returnsInHanded_of_change_sized (C := Try.checked) own started (by kernel_rfl) Try.func5
    (ChangeSpec.witness6 (enc := enc) (C := Try.checked) false ⟨#[], #[.int .i64 0, .int .i64 0], []⟩ 8 (by kernel_rfl) (by kernel_rfl) (by kernel_rfl) (by kernel_rfl)) ?_
  intro W base args ds gs before hval0 hW hcnd hsz0 _
  have hval : ∀ (j : Nat) t v, Try.f5.params[j]? = some t → args[j]? = some v → Value.okWide Try.prog W .any base t v := hval0
  have hW' := hW
  obtain ⟨p, q, hA0, hV, rfl, hfz, hnd⟩ := hW
  have hA : DataW.TrodAll enc Try.prog W 0 (fun _ => true) true Try.f5.params.toList args.toList ds p := hA0
  rw [Try.params5] at hA hval
  obtain ⟨v0, vs0, d0, ds0, p0, q0, hargs, rfl, rfl, h0, r0⟩ := trodAll_cons hA
  obtain ⟨v1, vs1, d1, ds1, p1, q1, rfl, rfl, rfl, h1, r1⟩ := trodAll_cons r0
  obtain ⟨rfl, rfl, rfl⟩ := trodAll_nil r1
  obtain rfl : args = #[v0, v1] := by cases args; simp_all
  obtain ⟨rfl, rfl⟩ := trodVars_none hV
  obtain ⟨a0, rfl, rfl, rfl, w0⟩ := open_int Try.underlying3 (hval 0 3 v0 rfl rfl) h0
  obtain ⟨a1, rfl, rfl, rfl, w1⟩ := open_int Try.underlying3 (hval 1 3 v1 rfl rfl) h1
  clear hA0 hval0
  refine (parted_walk a0 a1 W (i64_of_wf w0)).mono fun e W' ⟨he, hm⟩ => ?_
  subst he
  have bel : Below W.heap.size W W' := hm.below _ (Nat.le_refl _) (fun _ h => h.elim)
  exact ⟨_, rfl, _, _, _, [], _, [], hW', trodAll_mk1 (shut_bool Try.underlying4 _), (trodAll_cons_mk (shut_int Try.underlying3 w0) (trodAll_cons_mk (shut_int Try.underlying3 w1) trodAll_mk0)), rfl, bel.frame _, fun h => by cases h⟩

theorem over : Rows.lanePartedRow.holds Try.pinned (OpenSpec.ofChange Rows.lanePartedSpec) :=
  OpenClaim.holds_of_wide 5 Try.f5 rfl rfl rfl rfl rfl rfl rfl ⟨rfl, rfl, rfl, rfl, rfl⟩ rfl rfl rfl rfl rfl (by kernel_rfl) Try.func5 (by kernel_rfl)
    (of_decide_eq_true (by kernel_rfl)) (by unfold Func.isWrapper; first | (rw [if_pos (by decide +kernel)]; kernel_rfl) | (rw [if_neg (by decide +kernel)]; exact ⟨rfl, rfl⟩))
    (fun os started H enc _ => lifted os started H enc)
end laneParted
theorem laneParted_holds : Rows.LanePartedSaid := laneParted.over
end Go.Proofs.Ythmglemjlinlgaa
