/- LaneKnown: the chapter's examples, both ends, lanes that are none. No conditions. -/
import Derived.Test.YthmglemjlinlgaaLj
import Derived.Test.YthmglemjlinlgaaLnn
namespace Go.Proofs.Ythmglemjlinlgaa
open Go.RowKit
abbrev d88 : Dg := ⟨8, 8, []⟩
theorem LL0 : LL 0 = [d88] := rfl
theorem fl7 : fE (LL 4095) 4095 7 = 0 ∧ fL (LL 4095) 4095 7 = LL 4094 ++ [⟨1, 1, [127]⟩] := by
  have hl := LL_len 4095
  have e : LL 4095 = LL 4094 ++ [eg 4095] := LL_succ 4094
  have hl4 := LL_len 4094
  have g : (LL 4095).getD (Int.toNat 4095) ⟨0, 0, []⟩ = eg 4095 := by
    rw [e, show Int.toNat 4095 = (LL 4094).length by rw [hl4]; rfl, get_last]
  have n : ¬ (((4095 : Int) < 0 ∨ ((LL 4095).length : Int) ≤ 4095) ∨ (7 : Int) < 0 ∨ (((LL 4095).getD (Int.toNat 4095) ⟨0, 0, []⟩).b.length : Int) ≤ 7 / 8) := by
    rw [g, hl]
    simp [eg]
  unfold fE fL
  rw [if_neg n, if_neg n]
  refine ⟨rfl, ?_⟩
  rw [e, show Int.toNat 4095 = (LL 4094).length by rw [hl4]; rfl, mod_last]
  rfl
theorem fl8 : fE (LL 4094 ++ [⟨1, 1, [127]⟩]) 4095 8 = 9 ∧ fL (LL 4094 ++ [⟨1, 1, [127]⟩]) 4095 8 = LL 4094 ++ [⟨1, 1, [127]⟩] := by
  have hl4 := LL_len 4094
  have g : (LL 4094 ++ [(⟨1, 1, [127]⟩ : Dg)]).getD (Int.toNat 4095) ⟨0, 0, []⟩ = ⟨1, 1, [127]⟩ := by
    rw [show Int.toNat 4095 = (LL 4094).length by rw [hl4]; rfl, get_last]
  unfold fE fL
  rw [g, if_pos (.inr (.inr (by simp))), if_pos (.inr (.inr (by simp)))]
  exact ⟨rfl, rfl⟩
theorem tk4 : tE (LL 4094 ++ [⟨1, 1, [127]⟩]) 4095 = 0 ∧ tL (LL 4094 ++ [⟨1, 1, [127]⟩]) 4095 = LL 4094 ∧ tD (LL 4094 ++ [⟨1, 1, [127]⟩]) 4095 = ⟨1, 1, [127]⟩ := by
  have hl4 := LL_len 4094
  have n : ¬ ((4095 : Int) < 0 ∨ ((LL 4094 ++ [(⟨1, 1, [127]⟩ : Dg)]).length : Int) ≤ 4095) := by
    rw [List.length_append, hl4]
    simp
  unfold tE tL tD
  rw [if_neg n, if_neg n, if_neg n, show Int.toNat 4095 = (LL 4094).length by rw [hl4]; rfl, era_last, get_last]
  exact ⟨rfl, rfl, rfl⟩
theorem tk1 : tE (LL 4094) 1 = 0 ∧ (tL (LL 4094) 1).length = 4094 ∧ tD (LL 4094) 1 = ⟨1, 1, [1]⟩ := by
  have hl4 := LL_len 4094
  have n : ¬ ((1 : Int) < 0 ∨ ((LL 4094).length : Int) ≤ 1) := by
    rw [hl4]
    simp
  unfold tE tL tD
  rw [if_neg n, if_neg n, if_neg n]
  refine ⟨rfl, ?_, ?_⟩
  · rw [List.length_eraseIdx_of_lt (by rw [hl4]; decide), hl4]
  · show (LL 4094).getD 1 ⟨0, 0, []⟩ = _
    have : (LL 4094)[1]? = some (eg 1) := by
      simp [LL]
    rw [List.getD_eq_getElem?_getD, this]
    rfl
theorem full1 : pE (LL 4095) ⟨1, 1, []⟩ = 7 ∧ pL (LL 4095) ⟨1, 1, []⟩ = LL 4095 := by
  have e : (nd (1 : Int) && nd (1 : Int)) = true := rfl
  unfold pE pL aE aL
  rw [if_pos e, if_pos e, LL_len, if_pos (by decide), if_pos (by decide)]
  exact ⟨rfl, rfl⟩
theorem full2 : dE (LL 4095) 7 = 7 ∧ dL (LL 4095) 7 = LL 4095 := by
  have n : ¬ ((7 : Int) < 0 ∨ ((LL 4095).length : Int) ≤ 7) := by
    rw [LL_len]
    simp
  unfold dE dL aE aL
  rw [if_neg n, if_neg n, LL_len, if_pos (by decide), if_pos (by decide)]
  exact ⟨rfl, rfl⟩
theorem full3 : dE (LL 4095) 4096 = 9 ∧ dL (LL 4095) 4096 = LL 4095 := by
  have n : ((4096 : Int) < 0 ∨ ((LL 4095).length : Int) ≤ 4096) := by
    rw [LL_len]
    simp
  unfold dE dL
  rw [if_pos n, if_pos n]
  exact ⟨rfl, rfl⟩
theorem full4 : pE (LL 4095) ⟨0, 0, []⟩ = 2 ∧ pL (LL 4095) ⟨0, 0, []⟩ = LL 4095 := ⟨rfl, rfl⟩
theorem last0 {L : List Dg} (h : L.length = 4094) : dE L 0 = 0 := by
  unfold dE aE
  rw [h, if_neg (by simp), if_neg (by decide)]
set_option maxRecDepth 100000 in
set_option maxHeartbeats 16000000 in
theorem known_walk (w : World) : Calls Try.prog 6 #[] w fun e w' => e = .returned (.bool true) ∧ Mod (fun _ => False) w w' := by
  go_enter Try.func6, Try.ntmps6
  go_wp2_with (fail)
  refine (New_any w).mono ?_
  rintro e w0 ⟨p, F0, rfl, hL, hm, hn⟩
  have V := Lv.mk' (Mod.refl (fun _ => False) w) hL hm hn
  clear hL hm hn
  go_wp2_with (fail)
  refine (Len_any V.la).mono ?_
  rintro e w1 ⟨rfl, rfl⟩
  go_wp2_with (fail)
  have H := Reaches_any V.la 1 8
  rw [show rc 0 1 8 = true from by decide] at H
  refine H.mono ?_
  rintro e w2 ⟨rfl, hm⟩
  replace V := V.quiet hm
  clear H hm
  go_wp2_with (fail)
  have H := Reaches_any V.la 0 0
  rw [show rc 0 0 0 = false from by decide] at H
  refine H.mono ?_
  rintro e w3 ⟨rfl, hm⟩
  replace V := V.quiet hm
  clear H hm
  go_wp2_with (fail)
  have H := Reaches_any V.la 9 9
  rw [show rc 0 9 9 = false from by decide] at H
  refine H.mono ?_
  rintro e w4 ⟨rfl, hm⟩
  replace V := V.quiet hm
  clear H hm
  go_wp2_with (fail)
  have H := Put_any (d := ⟨0, 1, []⟩) V.la (sl_nil _) (by simp)
  rw [(⟨rfl, rfl⟩ : pE [] ⟨0, 1, []⟩ = 2 ∧ pL [] ⟨0, 1, []⟩ = []).1, (⟨rfl, rfl⟩ : pE [] ⟨0, 1, []⟩ = 2 ∧ pL [] ⟨0, 1, []⟩ = []).2] at H
  refine H.mono ?_
  rintro e w5 ⟨rfl, F5, hL, hG⟩
  replace V := V.on hL hG
  clear H hL hG
  go_wp2_with (fail)
  have H := Put_any (d := ⟨1, 9, []⟩) V.la (sl_nil _) (by simp)
  rw [(⟨rfl, rfl⟩ : pE [] ⟨1, 9, []⟩ = 2 ∧ pL [] ⟨1, 9, []⟩ = []).1, (⟨rfl, rfl⟩ : pE [] ⟨1, 9, []⟩ = 2 ∧ pL [] ⟨1, 9, []⟩ = []).2] at H
  refine H.mono ?_
  rintro e w6 ⟨rfl, F6, hL, hG⟩
  replace V := V.on hL hG
  clear H hL hG
  go_wp2_with (fail)
  have H := Put_any (d := ⟨(-1), 1, []⟩) V.la (sl_nil _) (by simp)
  rw [(⟨rfl, rfl⟩ : pE [] ⟨(-1), 1, []⟩ = 2 ∧ pL [] ⟨(-1), 1, []⟩ = []).1, (⟨rfl, rfl⟩ : pE [] ⟨(-1), 1, []⟩ = 2 ∧ pL [] ⟨(-1), 1, []⟩ = []).2] at H
  refine H.mono ?_
  rintro e w7 ⟨rfl, F7, hL, hG⟩
  replace V := V.on hL hG
  clear H hL hG
  go_wp2_with (fail)
  have H := Put_any (d := ⟨9, 1, []⟩) V.la (sl_nil _) (by simp)
  rw [(⟨rfl, rfl⟩ : pE [] ⟨9, 1, []⟩ = 2 ∧ pL [] ⟨9, 1, []⟩ = []).1, (⟨rfl, rfl⟩ : pE [] ⟨9, 1, []⟩ = 2 ∧ pL [] ⟨9, 1, []⟩ = []).2] at H
  refine H.mono ?_
  rintro e w8 ⟨rfl, F8, hL, hG⟩
  replace V := V.on hL hG
  clear H hL hG
  go_wp2_with (fail)
  have H := Put_any (d := d88) V.la (sl_nil _) (by simp)
  rw [(⟨rfl, rfl⟩ : pE [] d88 = 0 ∧ pL [] d88 = [d88]).1, (⟨rfl, rfl⟩ : pE [] d88 = 0 ∧ pL [] d88 = [d88]).2] at H
  refine H.mono ?_
  rintro e w9 ⟨rfl, F9, hL, hG⟩
  replace V := V.on hL hG
  clear H hL hG
  go_wp2_with (fail)
  have H := Flip_any (i := 0) (t := 0) V.la (by decide)
  rw [(⟨rfl, rfl⟩ : fE [d88] 0 0 = 9 ∧ fL [d88] 0 0 = [d88]).1, (⟨rfl, rfl⟩ : fE [d88] 0 0 = 9 ∧ fL [d88] 0 0 = [d88]).2] at H
  refine H.mono ?_
  rintro e w10 ⟨rfl, hL, hG⟩
  replace V := V.on hL (Gone.same hG)
  clear H hL hG
  go_wp2_with (fail)
  have H := Flip_any (i := 1) (t := 0) V.la (by decide)
  rw [(⟨rfl, rfl⟩ : fE [d88] 1 0 = 9 ∧ fL [d88] 1 0 = [d88]).1, (⟨rfl, rfl⟩ : fE [d88] 1 0 = 9 ∧ fL [d88] 1 0 = [d88]).2] at H
  refine H.mono ?_
  rintro e w11 ⟨rfl, hL, hG⟩
  replace V := V.on hL (Gone.same hG)
  clear H hL hG
  go_wp2_with (fail)
  have H := Flip_any (i := 0) (t := (-1)) V.la (by decide)
  rw [(⟨rfl, rfl⟩ : fE [d88] 0 (-1) = 9 ∧ fL [d88] 0 (-1) = [d88]).1, (⟨rfl, rfl⟩ : fE [d88] 0 (-1) = 9 ∧ fL [d88] 0 (-1) = [d88]).2] at H
  refine H.mono ?_
  rintro e w12 ⟨rfl, hL, hG⟩
  replace V := V.on hL (Gone.same hG)
  clear H hL hG
  go_wp2_with (fail)
  have H := Double_any (i := 1) V.la
  rw [(⟨rfl, rfl⟩ : dE [d88] 1 = 9 ∧ dL [d88] 1 = [d88]).1, (⟨rfl, rfl⟩ : dE [d88] 1 = 9 ∧ dL [d88] 1 = [d88]).2] at H
  refine H.mono ?_
  rintro e w13 ⟨rfl, F13, hL, hG⟩
  replace V := V.on hL hG
  clear H hL hG
  go_wp2_with (fail)
  have H := Double_any (i := (-1)) V.la
  rw [(⟨rfl, rfl⟩ : dE [d88] (-1) = 9 ∧ dL [d88] (-1) = [d88]).1, (⟨rfl, rfl⟩ : dE [d88] (-1) = 9 ∧ dL [d88] (-1) = [d88]).2] at H
  refine H.mono ?_
  rintro e w14 ⟨rfl, F14, hL, hG⟩
  replace V := V.on hL hG
  clear H hL hG
  go_wp2_with (fail)
  have H := Take_any (i := 1) V.la
  rw [(⟨rfl, rfl, rfl⟩ : tE [d88] 1 = 9 ∧ tL [d88] 1 = [d88] ∧ tD [d88] 1 = ⟨0, 0, []⟩).1, (⟨rfl, rfl, rfl⟩ : tE [d88] 1 = 9 ∧ tL [d88] 1 = [d88] ∧ tD [d88] 1 = ⟨0, 0, []⟩).2.1, (⟨rfl, rfl, rfl⟩ : tE [d88] 1 = 9 ∧ tL [d88] 1 = [d88] ∧ tD [d88] 1 = ⟨0, 0, []⟩).2.2] at H
  refine H.mono ?_
  rintro e w15 ⟨u15, F15, rfl, hL, hG, hT⟩
  replace V := V.on hL hG
  obtain ⟨ao15, cp15, e15⟩ := hT.own.shape
  subst e15
  clear H hL hG hT
  replace V := V.quiet ((Mod.refl (fun _ => False) w15).alloc (.cells #[.int .i64 0, .int .i64 0, .slice ao15 0 cp15] 30))
  go_wp2_with (fail)
  have H := Take_any (i := (-1)) V.la
  rw [(⟨rfl, rfl, rfl⟩ : tE [d88] (-1) = 9 ∧ tL [d88] (-1) = [d88] ∧ tD [d88] (-1) = ⟨0, 0, []⟩).1, (⟨rfl, rfl, rfl⟩ : tE [d88] (-1) = 9 ∧ tL [d88] (-1) = [d88] ∧ tD [d88] (-1) = ⟨0, 0, []⟩).2.1, (⟨rfl, rfl, rfl⟩ : tE [d88] (-1) = 9 ∧ tL [d88] (-1) = [d88] ∧ tD [d88] (-1) = ⟨0, 0, []⟩).2.2] at H
  refine H.mono ?_
  rintro e w16 ⟨u16, F16, rfl, hL, hG, hT⟩
  replace V := V.on hL hG
  obtain ⟨ao16, cp16, e16⟩ := hT.own.shape
  subst e16
  clear H hL hG hT
  replace V := V.quiet ((Mod.refl (fun _ => False) w16).alloc (.cells #[.int .i64 0, .int .i64 0, .slice ao16 0 cp16] 30))
  go_wp2_with (fail)
  go_loopw [7] (fun i wr => ∃ (n : Nat) (F : Nat → Prop), i = .int .i64 ((n + 1 : Nat) : Int) ∧ n ≤ 4095 ∧ Hid (Lv w wr p (LL n) 0 F)) (fun i _ => 4096 - (intOf i).toNat)
  case atStart => exact ⟨0, _, rfl, by omega, V⟩
  case round =>
    obtain ⟨n, F, rfl, hn, V'⟩ := hrel
    clear V
    have V := V'.out
    clear V'
    by_cases hlt : n < 4095
    · have hi : ((n + 1 : Nat) : Int) < 4096 := by omega
      have HP := LL_put hlt
      have hc : 0 ≤ ((n + 1 : Nat) : Int) % 256 ∧ ((n + 1 : Nat) : Int) % 256 ≤ 255 := by omega
      go_wp2_with (fail)
      have V1 := V.quiet ((Mod.refl (fun _ => False) wr).alloc (.cells #[.int .u8 (((n + 1 : Nat) : Int) % 256)] 5))
      have H := Put_any (d := eg (n + 1)) V1.la (lit1 wr _ hc) (by simp [eg])
      rw [HP.1, HP.2] at H
      refine H.mono ?_
      rintro e w2 ⟨rfl, F2, hL, hG⟩
      have V2 : Hid (Lv _ _ _ _ _ _) := V1.on hL hG
      clear H hL hG V1 V HP
      go_wp2
      go_roundw
      case rel => exact ⟨n + 1, F2, by go_num, by omega, V2⟩
      case measure => simp [intOf]; omega
    · obtain rfl : n = 4095 := by omega
      clear hn hlt
      go_wp2_with (fail)
      have H := Put_any (d := ⟨1, 1, []⟩) V.la (sl_nil _) (by simp)
      rw [full1.1, full1.2] at H
      refine H.mono ?_
      rintro e w17 ⟨rfl, F17, hL, hG⟩
      replace V := V.on hL hG
      clear H hL hG
      go_wp2_with (fail)
      have H := Double_any (i := 7) V.la
      rw [full2.1, full2.2] at H
      refine H.mono ?_
      rintro e w18 ⟨rfl, F18, hL, hG⟩
      replace V := V.on hL hG
      clear H hL hG
      go_wp2_with (fail)
      have H := Double_any (i := 4096) V.la
      rw [full3.1, full3.2] at H
      refine H.mono ?_
      rintro e w19 ⟨rfl, F19, hL, hG⟩
      replace V := V.on hL hG
      clear H hL hG
      go_wp2_with (fail)
      have H := Put_any (d := ⟨0, 0, []⟩) V.la (sl_nil _) (by simp)
      rw [full4.1, full4.2] at H
      refine H.mono ?_
      rintro e w20 ⟨rfl, F20, hL, hG⟩
      replace V := V.on hL hG
      clear H hL hG
      go_wp2_with (fail)
      have H := Len_any V.la
      rw [LL_len] at H
      refine H.mono ?_
      rintro e w21 ⟨rfl, rfl⟩
      clear H
      go_wp2_with (fail)
      have H := Flip_any (i := 4095) (t := 7) V.la (by decide)
      rw [fl7.1, fl7.2] at H
      refine H.mono ?_
      rintro e w22 ⟨rfl, hL, hG⟩
      replace V := V.on hL (Gone.same hG)
      clear H hL hG
      go_wp2_with (fail)
      have H := Flip_any (i := 4095) (t := 8) V.la (by decide)
      rw [fl8.1, fl8.2] at H
      refine H.mono ?_
      rintro e w23 ⟨rfl, hL, hG⟩
      replace V := V.on hL (Gone.same hG)
      clear H hL hG
      go_wp2_with (fail)
      have H := Take_any (i := 4095) V.la
      rw [tk4.1, tk4.2.1, tk4.2.2] at H
      refine H.mono ?_
      rintro e w24 ⟨u24, F24, rfl, hL, hG, hT⟩
      replace V := V.on hL hG
      have KC := hT.kp
      obtain ⟨aoc, cpc, ec⟩ := KC.own.shape
      subst ec
      clear H hL hG hT
      have BC := heap_alloc_new w24 (.cells #[.int .i64 1, .int .i64 1, .slice aoc 1 cpc] 30)
      have VX := V
      replace V := V.quiet ((Mod.refl (fun _ => False) w24).alloc (.cells #[.int .i64 1, .int .i64 1, .slice aoc 1 cpc] 30))
      replace KC := KC.quiet ((Mod.refl (fun _ => False) w24).alloc (.cells #[.int .i64 1, .int .i64 1, .slice aoc 1 cpc] 30))
      have hl1 := tk1.2.1
      go_wp2_with (fail)
      have H := Take_any (i := 1) V.la
      rw [tk1.1, tk1.2.2] at H
      generalize tL (LL 4094) 1 = L1 at H hl1
      refine H.mono ?_
      rintro e w25 ⟨ud, Fd, rfl, hL, hG, hT⟩
      have KD := hT.kp
      replace KC := KC.on hG
      replace BC := hG.1.obj BC (fun hk => by have := VX.la.lt hk; omega)
      replace V := V.on hL hG
      obtain ⟨aod, cpd, ed⟩ := KD.own.shape
      subst ed
      clear H hL hG hT VX
      have c0 : w25.cell? ⟨w24.heap.size, 0, none⟩ = some (.int .i64 1) := by simp [World.cell?, BC]
      have c1 : w25.cell? ⟨w24.heap.size, 1, none⟩ = some (.int .i64 1) := by simp [World.cell?, BC]
      have c2 : w25.cell? ⟨w24.heap.size, 2, none⟩ = some (.slice aoc 1 cpc) := by simp [World.cell?, BC]
      have l8 := lt_of_block BC
      have hne : ¬ w25.heap.size = w24.heap.size := by omega
      clear BC
      go_wp2_with (fail)
      have BD := heap_alloc_new w25 (.cells #[.int .i64 1, .int .i64 1, .slice aod 1 cpd] 30)
      have hA : Mod (fun _ => False) w25 (w25.alloc (.cells #[.int .i64 1, .int .i64 1, .slice aod 1 cpd] 30)) := (Mod.refl _ w25).alloc _
      have hs : (w25.alloc (.cells #[.int .i64 1, .int .i64 1, .slice aod 1 cpd] 30)).heap.size = w25.heap.size + 1 := by simp
      generalize w25.alloc (.cells #[.int .i64 1, .int .i64 1, .slice aod 1 cpd] 30) = W at *
      have hA2 := (Mod.refl (fun _ => False) W).alloc (.cells #[.int .u8 127] 5)
      have H := is_self (d := ⟨1, 1, [127]⟩) (((KC.quiet hA).quiet hA2).sl) (by have := lit1 W 127 (by omega); rwa [hs] at this)
      refine H.mono ?_
      rintro e v1 ⟨rfl, hm10⟩
      have hB := hA2.and hm10
      replace V := (V.quiet hA).quiet hB
      replace KD := (KD.quiet hA).quiet hB
      replace BD := hB.obj BD (fun h => h)
      have c0 : v1.cell? ⟨w25.heap.size, 0, none⟩ = some (.int .i64 1) := by simp [World.cell?, BD]
      have c1 : v1.cell? ⟨w25.heap.size, 1, none⟩ = some (.int .i64 1) := by simp [World.cell?, BD]
      have c2 : v1.cell? ⟨w25.heap.size, 2, none⟩ = some (.slice aod 1 cpd) := by simp [World.cell?, BD]
      clear H hA hA2 hm10 hB KC BD hs
      go_wp2_with (fail)
      have hA2 := (Mod.refl (fun _ => False) v1).alloc (.cells #[.int .u8 1] 5)
      have H := is_self (d := ⟨1, 1, [1]⟩) ((KD.quiet hA2).sl) (lit1 v1 1 (by omega))
      refine H.mono ?_
      rintro e v2 ⟨rfl, hm11⟩
      replace V := V.quiet (hA2.and hm11)
      clear H hA2 hm11 KD
      go_wp2_with (fail)
      have H := Len_any V.la
      rw [hl1] at H
      refine H.mono ?_
      rintro e v3 ⟨rfl, rfl⟩
      clear H
      go_wp2_with (fail)
      have H := Double_any (i := 0) V.la
      rw [last0 hl1] at H
      refine H.mono ?_
      rintro e v4 ⟨rfl, F4, hL, hG⟩
      have M : Hid (Mod (fun _ => False) w v4) := (V.on hL hG).mod
      clear H hL hG V hl1
      go_wp2_with (fail)
      go_loopw [14, 15] (fun v i wr => ∃ (j : Nat), i = .int .i64 j ∧ j ≤ 2 ∧ Hid (Nn wr v) ∧ Hid (Mod (fun _ => False) w wr)) (fun _ i _ => 2 - (intOf i).toNat)
      case atStart => exact ⟨0, rfl, by omega, Nn.nil _, M⟩
      case round =>
        obtain ⟨j, rfl, hj, hN, M'⟩ := hrel
        clear M
        by_cases hlt : j < 2
        · have hi : (j : Int) < 2 := by omega
          have N0 := hN.out
          clear hN
          go_wp2_with (fail)
          refine (nTake N0 0).mono ?_
          rintro e z1 ⟨rfl, hm⟩
          have N1 := N0.mod hm
          have M1 := M'.out.and hm
          clear N0 M' hm
          have hA := (Mod.refl (fun _ => False) z1).alloc (.cells #[.int .i64 0, .int .i64 0, .slice none 0 0] 30)
          go_wp2_with (fail)
          refine (nPut (N1.mod hA)).mono ?_
          rintro e z2 ⟨rfl, hm⟩
          have N2 := N1.mod (hA.and hm)
          have M2 := M1.and (hA.and hm)
          clear N1 M1 hm hA
          go_wp2_with (fail)
          refine (nDouble N2 0).mono ?_
          rintro e z3 ⟨rfl, rfl⟩
          go_wp2_with (fail)
          refine (nFlip N2 0 0).mono ?_
          rintro e z3 ⟨rfl, rfl⟩
          go_wp2_with (fail)
          refine (nCut N2 0).mono ?_
          rintro e z3 ⟨rfl, rfl⟩
          go_wp2_with (fail)
          refine (nLen N2).mono ?_
          rintro e z3 ⟨rfl, rfl⟩
          go_wp2_with (fail)
          refine (nReaches N2).mono ?_
          rintro e z4 ⟨rfl, hm⟩
          have M4 := M2.and hm
          clear N2 M2 hm
          have M5 : Hid (Mod (fun _ => False) w (z4.alloc (.cells #[.bool false, .slice none 0 0, .int .i64 0] 50))) := M4.alloc _
          have N5 : Hid (Nn (z4.alloc (.cells #[.bool false, .slice none 0 0, .int .i64 0] 50)) (.pointer (some ⟨z4.heap.size, 0, none⟩))) := Nn.zero (by simp)
          go_wp2
          go_roundw
          case rel => exact ⟨j + 1, by go_num, by omega, N5, M5⟩
          case measure => simp [intOf]; omega
        · go_wp2_with (fail)
          refine (works _).mono ?_
          rintro e z9 ⟨rfl, hm⟩
          have M9 := M'.out.and hm
          go_wp2
          go_ret
          exact ⟨rfl, M9⟩
namespace laneKnown
open Go.ChangeShapes Go.WideShapes Go.ChangeAt Go.RowKit
set_option maxRecDepth 100000 in
theorem lifted (os : Os) (started : os.Started) (H : Type) (enc : TypeId × Value → H) :
    ReturnsInHanded {} Try.checked os 6 .any (Rows.laneKnownSpec.pre6 enc Try.prog Try.f6 Rows.laneKnownRow.domain false) (Rows.laneKnownSpec.post enc Try.prog Try.f6 false true false false) := by
  refine returnsInHanded_of_change_sized (C := Try.checked) own started (by kernel_rfl) Try.func6
    (ChangeSpec.witness6 (enc := enc) (C := Try.checked) false ⟨#[], #[], []⟩ 8 (by kernel_rfl) (by kernel_rfl) (by kernel_rfl) (by kernel_rfl)) ?_
  intro W base args ds gs before hval0 hW hcnd hsz0 _
  have hval : ∀ (j : Nat) t v, Try.f6.params[j]? = some t → args[j]? = some v → Value.okWide Try.prog W .any base t v := hval0
  have hW' := hW
  obtain ⟨p, q, hA0, hV, rfl, hfz, hnd⟩ := hW
  have hA : DataW.TrodAll enc Try.prog W 0 (fun _ => true) true Try.f6.params.toList args.toList ds p := hA0
  rw [Try.params6] at hA hval
  obtain ⟨hargs, rfl, rfl⟩ := trodAll_nil hA
  obtain rfl : args = #[] := by cases args; simp_all
  obtain ⟨rfl, rfl⟩ := trodVars_none hV
  clear hA0 hval0
  refine (known_walk W).mono fun e W' ⟨he, hm⟩ => ?_
  subst he
  have bel : Below W.heap.size W W' := hm.below _ (Nat.le_refl _) (fun _ h => h.elim)
  exact ⟨_, rfl, _, _, _, [], _, [], hW', trodAll_mk1 (shut_bool Try.underlying4 _), trodAll_mk0, rfl, bel.frame _, fun h => by cases h⟩

theorem over : Rows.laneKnownRow.holds Try.pinned (OpenSpec.ofChange Rows.laneKnownSpec) :=
  OpenClaim.holds_of_wide 6 Try.f6 rfl rfl rfl rfl rfl rfl rfl ⟨rfl, rfl, rfl, rfl, rfl⟩ rfl rfl rfl rfl rfl (by kernel_rfl) Try.func6 (by kernel_rfl)
    (of_decide_eq_true (by kernel_rfl)) (by unfold Func.isWrapper; first | (rw [if_pos (by decide +kernel)]; kernel_rfl) | (rw [if_neg (by decide +kernel)]; exact ⟨rfl, rfl⟩))
    (fun os started H enc _ => lifted os started H enc)
end laneKnown
theorem laneKnown_holds : Rows.LaneKnownSaid := laneKnown.over
end Go.Proofs.Ythmglemjlinlgaa
