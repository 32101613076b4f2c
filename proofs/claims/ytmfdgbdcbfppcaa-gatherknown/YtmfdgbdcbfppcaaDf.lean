/- The document's Heard, Own, Agreed, Counter. Conditions: at most 300 joins. -/
import Derived.Test.YtmfdgbdcbfppcaaDe
namespace Go.Proofs.Ytmfdgbdcbfppcaa
open Go.RowKit Go.Maps Go.WideShapes
theorem hr_nodup {n c g : Int} {J : Int → Option Jo} (h : Gp n c g J) {zs : List Int} (hz : ∀ x, x ∈ zs ↔ (J x).isSome = true) : (Cr.ofx (n :: zs) : Int) = hr n J ∧ Cr.ofe (n :: zs) = 0 := by
  have := of_hr h hz
  exact ⟨by rw [this.1], this.2⟩
theorem take_map_one (l : List J3) (i : Nat) (x : J3) (h : l[i]? = some x) : (l.map J3.s).take (i + 1) = (l.map J3.s).take i ++ [x.s] := take_one _ i x.s (by simp [h])
set_option maxRecDepth 100000 in
set_option maxHeartbeats 2000000 in
theorem Heard_w {w : World} {p : Nat} {Y : Nat → Prop} {n c : Int} {l : List J3} (h : Dg w p Y n c l) (hlen : l.length ≤ 300) : Calls Try.prog 32 #[.pointer (some ⟨p, 0, none⟩)] w fun e w' => e = .returned (.int .i64 (hr n (lj l))) ∧ Mod (fun _ => False) w w' := by
  have HD : Hid (Dg w p Y n c l) := h
  obtain ⟨v, h1, h2, h3⟩ := h.blk
  have c0 : w.cell? ⟨p, 0, none⟩ = some (.int .i64 n) := h1.cellv (j := 0) rfl
  have HO1 : Hid (Cr.Own (w.alloc (.cells #[.int .i64 n] 3)) (.slice (some ⟨w.heap.size, 0, none⟩) 1 1) [n]) := Own.lit1 w n
  have HM0 : Hid (Mod (fun _ => False) w (w.alloc (.cells #[.int .i64 n] 3))) := (Mod.refl (fun _ => False) w).alloc _
  have HF := hr_nodup h.gp (zs := l.map J3.s) (fun x => (lj_some x l).symm)
  have HFH : Hid ((Cr.ofx (n :: l.map J3.s) : Int) = hr n (lj l) ∧ Cr.ofe (n :: l.map J3.s) = 0) := HF
  generalize (hr n (lj l) : Int) = RR at HFH ⊢
  clear h h1 h2 h3 HF
  go_enter Try.func32, Try.ntmps32
  go_wp2_with (fail)
  go_loopw [3, 4] (fun v i wr => ∃ k : Nat, i = .int .i64 (k : Int) ∧ k ≤ l.length ∧ Cr.Own wr v (n :: (l.map J3.s).take k) ∧ Hid (∀ g, v.ownBlock = some g → w.heap.size ≤ g) ∧ Hid (Mod (fun _ => False) w wr)) (fun _ i _ => l.length - (intOf i).toNat)
  case atStart => exact ⟨0, rfl, Nat.zero_le _, HO1.out, (show ∀ g, _ from fun g hg => by simp [Value.ownBlock] at hg; omega), HM0⟩
  case round =>
    obtain ⟨k, rfl, hk, hown, hnew, hM⟩ := hrel
    obtain ⟨v2, b1, b2, b3⟩ := (HD.out.keep hM.out).blk
    obtain ⟨ao, cap, rfl⟩ := b2.shape
    have c2 : wr.cell? ⟨p, 2, none⟩ = some (.slice ao l.length cap) := b1.cellv (j := 2) rfl
    clear c0 HO1 HM0
    by_cases hkl : k < l.length
    · have hki : (k : Int) < (l.length : Int) := by omega
      obtain ⟨x, hx⟩ : ∃ x, l[k]? = some x := ⟨_, List.getElem?_eq_getElem hkl⟩
      obtain ⟨g, cap', ev, hc⟩ := b2.has (by omega)
      cases ev
      obtain ⟨d0, d1, d2⟩ := hc k x hx
      have HT : Hid (n :: (l.map J3.s).take (k + 1) = (n :: (l.map J3.s).take k) ++ [x.s]) := (show _ = _ by rw [take_map_one l k x hx]; rfl)
      have HL : Hid ((n :: (l.map J3.s).take k).length + 1 ≤ 1000000000000) := by show _ ≤ _; simp; omega
      generalize n :: (l.map J3.s).take k = L at hown HT HL
      clear b1 b2 b3 hc hx d1 d2
      go_wp2_with (first | (at_builtin; refine wpList_app1 rfl _ _ rfl _ L x.s wr.heap.size rfl rfl (hown.mod ((Mod.refl (fun _ => False) wr).alloc _) (fun _ _ h => h)) (Bk.new wr #[.int .i64 x.s] 3).cellz HL.out ?_; intro v4 w4 ho4 hm4 hf4) | go_in)
      have HN4 : Hid (∀ g, v4.ownBlock = some g → w.heap.size ≤ g) := fun g hg => by
        rcases hf4 g hg with h1 | h1
        · exact hnew.out g h1
        · have := hM.out.size; simp at h1; omega
      have HM4 : Hid (Mod (fun _ => False) w w4) := (hM.out.alloc _).trans hm4 (fun _ _ h => h) (fun g hg e => by have := hnew.out g e; omega)
      clear hf4 hm4
      go_roundw
      case rel => exact ⟨k + 1, by go_num, by omega, by rw [HT.out]; exact ho4, HN4, HM4⟩
      case measure => simp [intOf]; omega
    · have HK := Cr.ROf _ _ wr hown.sl
      rw [List.take_of_length_le (by simp; omega), HFH.out.1, HFH.out.2] at HK
      have hki : ¬ (k : Int) < (l.length : Int) := by omega
      clear b1 b2 b3 hown
      go_wp2_with (go_at_call 37; refine HK.mono ?_; rintro e w5 ⟨rfl, rfl⟩)
      go_ret
      exact ⟨rfl, hM.out⟩
set_option maxRecDepth 100000 in
set_option maxHeartbeats 4000000 in
theorem dOwn_w {w : World} {p : Nat} {Y : Nat → Prop} {n c : Int} {l : List J3} (hw : Dg w p Y n c l) (hlen : l.length ≤ 300) : Calls Try.prog 14 #[.pointer (some ⟨p, 0, none⟩)] w fun e w' => e = .returned (jv n (hr n (lj l)) c) ∧ Mod (fun _ => False) w w' := by
  obtain ⟨v, h1, h2, h3⟩ := hw.blk
  have hA := (Mod.refl (fun _ => False) w).alloc (.cells #[.int .i64 0, .int .i64 0, .int .i64 0] 34)
  have c0 : w.cell? ⟨p, 0, none⟩ = some (.int .i64 n) := h1.cellv (j := 0) rfl
  have c1 : w.cell? ⟨p, 1, none⟩ = some (.int .i64 c) := h1.cellv (j := 1) rfl
  have d0 := hA.cell c0 (fun h => h)
  have d1 := hA.cell c1 (fun h => h)
  have HA : Hid (Mod (fun _ => False) w _) := hA
  have HH := fun W (hm : Mod (fun _ => False) w W) => Calls.st (Heard_w (hw.keep hm) hlen)
  have HB : Hid (Bk _ _ _ _) := Bk.new w #[.int .i64 0, .int .i64 0, .int .i64 0] 34
  generalize (hr n (lj l) : Int) = R at HH ⊢
  have hM := hA.drew
  clear h1 h2 h3 hw c0 c1 hA
  unfold jv
  go_enter Try.func14, Try.ntmps14
  go_wp2_with (fail)
  go_region_law (refine step_c1 (fun args w => by simp [go_sem]) (by rfl) _ (by rfl) (by rfl) _ (by rfl) _ (HH _ ?_) ?_; exact hM; rintro r w6 ⟨rfl, hm6⟩; have hB6 := (HB.out.mod ((Mod.refl (fun _ => False) _).drew) (fun h => h)).mod hm6 (fun h => h); have z0 := hB6.cellv (j := 0) rfl; have z1 := hB6.cellv (j := 1) rfl; have z2 := hB6.cellv (j := 2) rfl; have f0 := hB6.frz 0; have f1 := hB6.frz 1; have f2 := hB6.frz 2; replace d0 := hm6.cell d0 (fun h => h); replace d1 := hm6.cell d1 (fun h => h))
  all_goals go_wp2
  all_goals have hB7 := ((hB6.set 0 (.int .i64 n)).set 1 (.int .i64 R)).set 2 (.int .i64 c)
  all_goals simp only [List.setIfInBounds_toArray, List.set_cons_succ, List.set_cons_zero] at hB7
  all_goals have hm7 := (((Mod.refl (fun q => q = w.heap.size) w6).setCell ⟨w.heap.size, 0, none⟩ (.int .i64 n) (.inl rfl)).setCell ⟨w.heap.size, 1, none⟩ (.int .i64 R) (.inl rfl)).setCell ⟨w.heap.size, 2, none⟩ (.int .i64 c) (.inl rfl)
  all_goals exact bodyPost_ret (resT info3c Try.underlying34 rfl rfl rfl hB7 rfl) rfl ⟨rfl, (hM.and hm6).trans hm7 (V := fun _ => False) (fun _ _ h => h) (fun q hq h => by omega)⟩
theorem mx_take (c : Int) (l : List J3) (i : Nat) (x : J3) (h : l[i]? = some x) : mx c (l.take (i + 1)) = max (mx c (l.take i)) x.c := by rw [take_one l i x h, mx_app]
set_option maxRecDepth 100000 in
set_option maxHeartbeats 2000000 in
theorem dCounter_w {w : World} {p : Nat} {Y : Nat → Prop} {n c : Int} {l : List J3} (h : Dg w p Y n c l) (hlen : l.length ≤ 300) : Calls Try.prog 18 #[.pointer (some ⟨p, 0, none⟩)] w fun e w' => e = .returned (.int .i64 (mx c l)) ∧ w' = w := by
  obtain ⟨v, h1, h2, h3⟩ := h.blk
  obtain ⟨ao, cap, rfl⟩ := h2.shape
  have c1 : w.cell? ⟨p, 1, none⟩ = some (.int .i64 c) := h1.cellv (j := 1) rfl
  have c2 : w.cell? ⟨p, 2, none⟩ = some (.slice ao l.length cap) := h1.cellv (j := 2) rfl
  have HR : Hid (RJ w (.slice ao l.length cap) l) := h2
  have HE : Hid (mx c l = mx c (l.take l.length)) := (show _ = _ by rw [List.take_length])
  clear h h1 h2 h3
  go_enter Try.func18, Try.ntmps18
  go_wp2_with (fail)
  go_loopw [3, 4] (fun z i wr => ∃ (k : Nat) (y : Int), z = .int .i64 y ∧ i = .int .i64 (k : Int) ∧ k ≤ l.length ∧ Hid (mx c (l.take k) = y) ∧ wr = w) (fun _ i _ => l.length - (intOf i).toNat)
  case atStart => exact ⟨0, c, rfl, rfl, Nat.zero_le _, rfl, rfl⟩
  case round =>
    obtain ⟨k, y, rfl, rfl, hk, hy, rfl⟩ := hrel
    by_cases hkl : k < l.length
    · have hki : (k : Int) < (l.length : Int) := by omega
      obtain ⟨x, hx⟩ : ∃ x, l[k]? = some x := ⟨_, List.getElem?_eq_getElem hkl⟩
      obtain ⟨g, cap', ev, hc⟩ := HR.out.has (by omega)
      cases ev
      obtain ⟨d0, d1, d2⟩ := hc k x hx
      have HT : Hid (mx c (l.take (k + 1)) = max y x.c) := (show _ = _ by rw [mx_take c l k x hx, hy.out])
      clear hc hx d0 d1 hy HE
      go_wp2
      go_roundw
      case rel => exact ⟨k + 1, _, rfl, by go_num, by omega, HT, trivial⟩
      case measure => simp [intOf]; omega
    · have hki : ¬ (k : Int) < (l.length : Int) := by omega
      have HY : Hid (mx c l = y) := (show _ = _ by rw [← hy.out, List.take_of_length_le (by omega)])
      clear hy HE
      go_wp2
      go_ret
      exact ⟨by rw [HY.out]; rfl, rfl⟩
set_option maxRecDepth 100000 in
set_option maxHeartbeats 4000000 in
theorem dAgreed_w {w : World} {p : Nat} {Y : Nat → Prop} {n c : Int} {l : List J3} (hw : Dg w p Y n c l) (hlen : l.length ≤ 300) : Calls Try.prog 16 #[.pointer (some ⟨p, 0, none⟩)] w fun e w' => e = .returned (.bool (ag (lj l) (hr n (lj l)))) ∧ Mod (fun _ => False) w w' := by
  have HAG : Hid (ag (lj l) (hr n (lj l)) = true ↔ ∀ k j, lj l k = some j → j.p = hr n (lj l)) := ag_iff hw.gp _
  have HH : Hid (∀ W, Mod (fun _ => False) w W → Calls Try.prog 32 #[.pointer (some ⟨p, 0, none⟩)] W fun e w' => ∃ r, e = .returned r ∧ r = .int .i64 (hr n (lj l)) ∧ Mod (fun _ => False) W w') := fun W hm => Calls.st (Heard_w (hw.keep hm) hlen)
  have HLA : Hid (∀ W s, Mod (fun _ => False) w W → Calls Try.prog 30 #[.pointer (some ⟨p, 0, none⟩), .int .i64 s] W fun e w' => e = .returned (.tuple #[mj (lj l s) s, .bool (lj l s).isSome]) ∧ Mod (fun _ => False) W w') := fun W s hm => last_w (hw.keep hm) hlen s
  have HSM : Hid (∀ k, (lj l k).isSome = true → 1 ≤ k ∧ k ≤ 8) := fun k hk => hw.gp.some_i hk
  generalize ag (lj l) (hr n (lj l)) = A at HAG ⊢
  generalize hr n (lj l) = m at HH HAG
  clear hw
  go_enter Try.func16, Try.ntmps16
  go_wp2_with (fail)
  go_loopw [3] (fun i wr => ∃ k : Nat, i = .int .i64 (k : Int) ∧ 1 ≤ k ∧ k ≤ 9 ∧ Hid (∀ (i : Int) j, i < k → lj l i = some j → j.p = m) ∧ Mod (fun _ => False) w wr) (fun i _ => 9 - (intOf i).toNat)
  case atStart => exact ⟨1, rfl, by omega, by omega, (show ∀ i : Int, _ from fun i j h1 hj => by have := HSM.out i (by rw [hj]; rfl); omega), Mod.refl _ _⟩
  case round =>
    obtain ⟨k, rfl, hk1, hk9, hC, hM⟩ := hrel
    by_cases hk : k < 9
    · have hki : (k : Int) ≤ 8 := by omega
      have HL := HLA.out wr (k : Int) hM
      cases hj : lj l (k : Int) with
      | none =>
        rw [hj] at HL
        have HC2 : Hid (∀ (i : Int) j, i < ((k + 1 : Nat) : Int) → lj l i = some j → j.p = m) := fun i j h1 hj' => by
          by_cases e : i = (k : Int)
          · subst e; rw [hj] at hj'; cases hj'
          · exact hC.out i j (by omega) hj'
        unfold mj jv at HL
        clear hC hj
        go_wp2_with (go_at_call 30; refine HL.mono ?_; rintro e w2 ⟨rfl, hm2⟩)
        have hM2 := ((hM.and hm2).alloc (.cells #[.int .i64 0, .int .i64 0, .int .i64 0] 34)).drew
        go_region
        go_wp2
        go_roundw
        case rel => exact ⟨k + 1, by go_num, by omega, by omega, HC2, hM2⟩
        case measure => simp [intOf]; omega
      | some j =>
        rw [hj] at HL
        unfold mj jv at HL
        by_cases hjp : j.p = (m : Int)
        · have HC2 : Hid (∀ (i : Int) j, i < ((k + 1 : Nat) : Int) → lj l i = some j → j.p = m) := fun i j' h1 hj' => by
            by_cases e : i = (k : Int)
            · subst e; rw [hj] at hj'; cases hj'; exact hjp
            · exact hC.out i j' (by omega) hj'
          have hq : (j.p != (m : Int)) = false := by simpa using hjp
          clear hC hj hjp
          go_wp2_with (go_at_call 30; refine HL.mono ?_; rintro e w2 ⟨rfl, hm2⟩)
          have hM2 := ((hM.and hm2).alloc (.cells #[.int .i64 (k : Int), .int .i64 j.p, .int .i64 j.c] 34)).drew
          have HB : Hid (Bk _ _ _ _) := Bk.new w2 #[.int .i64 (k : Int), .int .i64 j.p, .int .i64 j.c] 34
          go_region_law (refine step_c1 (fun args w => by simp [go_sem]) (by rfl) _ (by rfl) (by rfl) _ (by rfl) _ (HH.out _ ?_) ?_; exact hM2; rintro r w6 ⟨rfl, hm6⟩; have hB6 := (HB.out.mod ((Mod.refl (fun _ => False) _).drew) (fun h => h)).mod hm6 (fun h => h); have z1 := hB6.cellv (j := 1) rfl)
          all_goals go_wp2
          all_goals go_roundw
          all_goals first
            | (show ∃ _, _; exact ⟨k + 1, by go_num, by omega, by omega, HC2, hM2.and hm6⟩)
            | (simp [intOf]; omega)
        · have HZ : Hid (A = false) := by
            show A = false
            rw [Bool.eq_false_iff]
            intro h
            exact hjp (HAG.out.1 h _ j hj)
          have hq : (j.p != (m : Int)) = true := by simpa using hjp
          clear hC hj hjp
          go_wp2_with (go_at_call 30; refine HL.mono ?_; rintro e w2 ⟨rfl, hm2⟩)
          have hM2 := ((hM.and hm2).alloc (.cells #[.int .i64 (k : Int), .int .i64 j.p, .int .i64 j.c] 34)).drew
          have HB : Hid (Bk _ _ _ _) := Bk.new w2 #[.int .i64 (k : Int), .int .i64 j.p, .int .i64 j.c] 34
          go_region_law (refine step_c1 (fun args w => by simp [go_sem]) (by rfl) _ (by rfl) (by rfl) _ (by rfl) _ (HH.out _ ?_) ?_; exact hM2; rintro r w6 ⟨rfl, hm6⟩; have hB6 := (HB.out.mod ((Mod.refl (fun _ => False) _).drew) (fun h => h)).mod hm6 (fun h => h); have z1 := hB6.cellv (j := 1) rfl)
          all_goals go_wp2
          all_goals go_ret
          all_goals exact ⟨by rw [HZ.out]; rfl, hM2.and hm6⟩
    · have hki : ¬ (k : Int) ≤ 8 := by omega
      have HZ : Hid (A = true) := HAG.out.2 fun i j hj => hC.out i j (by have := HSM.out i (by rw [hj]; rfl); omega) hj
      clear hC
      go_wp2
      go_ret
      exact ⟨by rw [HZ.out]; rfl, hM⟩
end Go.Proofs.Ytmfdgbdcbfppcaa
