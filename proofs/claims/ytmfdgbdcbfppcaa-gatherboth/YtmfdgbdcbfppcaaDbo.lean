/- GatherBoth: those that hear each other's last words, and are agreed, hear the same crew; whoever speaks and hears, step by step. No conditions. -/
import Derived.Test.YtmfdgbdcbfppcaaDr
import Derived.Deep.CutBlock
namespace Go.Proofs.Ytmfdgbdcbfppcaa
open Go.RowKit
theorem Pairs.shape {w : World} {v : Value} {ds : List (Int × Int)} (h : Pairs w v ds) : ∃ ao cap, v = .slice ao ds.length cap ∧ ds.length ≤ maxLen := by
  obtain ⟨ao, cap, e, hm, _⟩ := h.form
  exact ⟨ao, cap, e, hm⟩
set_option maxRecDepth 100000 in
theorem zero45 (w : World) : (zeroValue 45).run Try.prog w = .ok (.agg (Array.replicate 243 (.int .i64 0))) w := by kernel_rfl
set_option maxRecDepth 100000 in
set_option maxHeartbeats 40000000 in
theorem both_walk (v : Value) (B : List (Int × Int)) (w : World) (hs : Pairs w v B) : Calls Try.prog 5 #[v] w fun e w' => e = .returned (.bool true) ∧ Mod (fun _ => False) w w' := by
  have HS : Hid (Pairs w v B) := hs
  obtain ⟨ao, cap, rfl, hlen⟩ := hs.shape
  clear hs
  go_enter Try.func5, Try.ntmps5
  go_wp2_with (fail)
  refine (works_any w).mono ?_
  rintro e w1 ⟨rfl, hm1⟩
  have HM1 : Hid (Mod (fun _ => False) w w1) := hm1
  clear hm1
  go_wp2_with (fail)
  have HL0 : Hid (El w (w1.alloc (.cells #[.pointer none, .pointer none, .pointer none, .pointer none, .pointer none, .pointer none, .pointer none, .pointer none, .pointer none] 43)) w1.heap.size 1 (fun _ => 0) (fun _ _ => False) (fun _ => 0) (fun _ _ => none)) := ⟨fun n h1 h2 => by omega, ⟨_, Bk.new w1 _ _, rfl, fun i h1 h2 => by omega⟩, fun n m h1 h2 => by omega, fun n h1 h2 => by omega, fun n h1 h2 => by omega, HM1.out.size, HM1.out.alloc _⟩
  generalize w1.heap.size = qg at *
  generalize w1.alloc (.cells #[.pointer none, .pointer none, .pointer none, .pointer none, .pointer none, .pointer none, .pointer none, .pointer none, .pointer none] 43) = w2 at *
  clear HM1
  go_loopw [4] (fun i wr => ∃ (N : Nat) (P : Nat → Nat) (X : Nat → Nat → Prop) (G : Nat → Int) (J : Nat → Int → Option Jo), i = .int .i64 (N : Int) ∧ 1 ≤ N ∧ N ≤ 9 ∧ Hid (El w wr qg N P X G J ∧ ∀ n k, J n k = none)) (fun i _ => 9 - (intOf i).toNat)
  case atStart => exact ⟨1, _, _, _, _, rfl, by omega, by omega, HL0.out, fun _ _ => rfl⟩
  case round =>
    clear HL0
    obtain ⟨N, P, X, G, J, rfl, hN1, hN9, HL⟩ := hrel
    by_cases hN : N < 9
    · have hNi : (N : Int) ≤ 8 := by omega
      have hN9i : (N : Int) < 9 := by omega
      have hok : okN N N = true := by simp [okN]; omega
      go_wp2_with (fail)
      refine (New_ok N N hok wr).mono ?_
      rintro e w3 ⟨p, Y, rfl, hg, hY, hm3⟩
      obtain ⟨v0, c0⟩ := (HL.out.1.ptr.mod hm3 (fun h => h)).there hN
      have f0 := (HL.out.1.ptr.mod hm3 (fun h => h)).frz N
      have HM : Hid (El _ _ _ _ _ _ _ _) := HL.out.1.more ⟨hN1, hN⟩ hg hY hm3
      have HJ : Hid (∀ n k, (fun j => if j = N then (fun _ => none) else J j) n k = none) := fun n k => by
        show (if n = N then (fun _ => none) else J n) k = none
        split
        · rfl
        · exact HL.out.2 n k
      clear hg hY hm3 HL hok
      go_wp2_with (fail)
      go_roundw
      case rel => exact ⟨N + 1, _, _, _, _, by go_num, by omega, by omega, HM.out, HJ.out⟩
      case measure => simp [intOf]; omega
    · obtain rfl : N = 9 := by omega
      have hz45 := zero45 wr
      go_upto_block 2 with (fail)
      have HB0 : Hid (Eb w (wr.alloc (.cells (Array.replicate 243 (.int .i64 0)) 45)) qg wr.heap.size P X G J (fun _ => z3) ∧ Iv J (fun _ => z3)) := ⟨⟨HL.out.1.keep ((Mod.refl _ wr).alloc _), Aj.new _ _ _ _ rfl, fun n h1 h9 hx => by have := (HL.out.1.gs n h1 h9).lt _ hx; omega, HL.out.1.mod.size, by have := HL.out.1.ptr.lt; omega⟩, fun a b _ _ _ _ _ => by show z3 = sj a (J b a); rw [HL.out.2]; rfl⟩
      clear hz45 HL
      generalize wr.heap.size = qs at *
      generalize wr.alloc (.cells (Array.replicate 243 (.int .i64 0)) 45) = w3 at *
      go_cut [] (fun wx => ∃ (G : Nat → Int) (J : Nat → Int → Option Jo) (S : Nat → J3), Hid (Eb w wx qg qs P X G J S ∧ Iv J S))
      case first =>
        go_wp2_with (fail)
        go_loopw [8] (fun i wr => ∃ (k : Nat) (G : Nat → Int) (J : Nat → Int → Option Jo) (S : Nat → J3), i = .int .i64 (k : Int) ∧ k ≤ 300 ∧ Hid (Eb w wr qg qs P X G J S ∧ Iv J S)) (fun i _ => 300 - (intOf i).toNat)
        case atStart => exact ⟨0, _, _, _, rfl, by omega, HB0⟩
        case round =>
          clear HB0
          obtain ⟨k, G, J, S, rfl, hk, HB⟩ := hrel
          by_cases hkl : k < B.length ∧ k < 300
          · obtain ⟨hkB, hk2⟩ := hkl
            have hki : (k : Int) < (B.length : Int) := by omega
            have hk300 : (k : Int) < 300 := by omega
            obtain ⟨x, hx⟩ : ∃ x, B[k]? = some x := ⟨_, List.getElem?_eq_getElem hkB⟩
            obtain ⟨b, off, eao, hc⟩ := HS.out.at hx
            have hxi := HS.out.each x (List.mem_of_getElem? hx)
            subst eao
            have HC : Hid (∀ w', Mod (fun _ => False) w w' → w'.cell? ⟨b, off + k * 2, none⟩ = some (.int .i64 x.1) ∧ w'.cell? ⟨b, off + k * 2 + 1, none⟩ = some (.int .i64 x.2)) := hc
            obtain ⟨d0, d1⟩ := hc wr HB.out.1.el.mod
            have CB := bring x.1 8 wr (by decide) (by decide) hxi.1
            have hb8 : 0 ≤ br x.1 8 ∧ br x.1 8 < 8 := ⟨(br_rng x.1 8 (by decide)).1, (br_rng x.1 8 (by decide)).2.1⟩
            obtain ⟨a, ha⟩ : ∃ a : Nat, 1 + br x.1 8 = (a : Int) := ⟨(1 + br x.1 8).toNat, by omega⟩
            have ha1 : 1 ≤ a := by omega
            have ha9 : a < 9 := by omega
            generalize br x.1 8 = b8 at *
            have HA : Hid (1 ≤ a ∧ a < 9) := ⟨ha1, ha9⟩
            have HK : Hid (k < 300) := hk2
            clear hc hx hxi hb8
            go_wp2_with (fail)
            refine CB.mono ?_
            rintro e wr ⟨rfl, rfl⟩
            clear CB d0 d1
            obtain ⟨wk, ewk⟩ : ∃ wk, wk = wr := ⟨_, rfl⟩
            subst ewk
            go_wp2_with (fail)
            go_loopw [10] (fun i wr => ∃ (m : Nat) (G : Nat → Int) (J : Nat → Int → Option Jo) (S : Nat → J3), i = .int .i64 (m : Int) ∧ 1 ≤ m ∧ m ≤ 9 ∧ Hid (Eb w wr qg qs P X G J S ∧ Iv J S)) (fun i _ => 9 - (intOf i).toNat)
            case atStart => exact ⟨1, _, _, _, rfl, by omega, by omega, HB⟩
            case round =>
              clear HB
              obtain ⟨m, G, J, S, rfl, hm1, hm9, HB⟩ := hrel
              by_cases hm : m < 9
              · have hmi : (m : Int) ≤ 8 := by omega
                have hmi9 : (m : Int) < 9 := by omega
                have hai9 : (a : Int) < 9 := by omega
                have hmi0 : (0 : Int) ≤ (m : Int) := by omega
                obtain ⟨d0, d1⟩ := HC.out wr HB.out.1.el.mod
                obtain ⟨I, hI⟩ : ∃ I, (bits .and .i64 (x.2 / 2 ^ m) 1 == 1) = I := ⟨_, rfl⟩
                by_cases hma : m = a
                · have hmai : ((m : Int) != (a : Int)) = false := by simp [hma]
                  clear hma
                  go_wp2_with (fail)
                  go_roundw
                  case rel => exact ⟨m + 1, _, _, _, by go_num, by omega, by omega, HB⟩
                  case measure => simp [intOf]; omega
                · have hmai : ((m : Int) != (a : Int)) = true := by simp; omega
                  have HMA : Hid (a ≠ m) := (show a ≠ m from fun e => hma e.symm)
                  clear hma
                  cases I with
                  | false =>
                    go_wp2_with (fail)
                    go_roundw
                    case rel => exact ⟨m + 1, _, _, _, by go_num, by omega, by omega, HB⟩
                    case measure => simp [intOf]; omega
                  | true =>
                    have ca := HB.out.1.el.ptr.cell ha1 ha9
                    obtain ⟨R, eR⟩ : ∃ R : Int, (hr a (J a) : Int) = R := ⟨_, rfl⟩
                    have HR : Hid ((hr a (J a) : Int) = R) := eR
                    have CO := eb_own HB.out.1 ha1 ha9 R eR
                    unfold jv at CO
                    clear eR
                    go_wp2_with (fail)
                    refine CO.mono ?_
                    rintro e w4 ⟨rfl, hm4⟩
                    have HB4 : Hid (Eb w w4 qg qs P X G J S) := HB.out.1.keep hm4
                    have HIV : Hid (Iv J S) := HB.out.2
                    clear CO HB ca d0 d1 hm4
                    have hA4 := (Mod.refl (fun _ => False) w4).alloc (.cells #[.int .i64 (a : Int), .int .i64 R, .int .i64 (a : Int)] 34)
                    have HB5 : Hid (Eb w _ qg qs P X G J S) := HB4.out.keep hA4
                    have HZ5 : Hid (Bk (w4.alloc (.cells #[.int .i64 (a : Int), .int .i64 R, .int .i64 (a : Int)] 34)) w4.heap.size 34 #[.int .i64 (a : Int), .int .i64 R, .int .i64 (a : Int)]) := Bk.new w4 _ _
                    have HZN : Hid (w.heap.size ≤ w4.heap.size ∧ qg < w4.heap.size ∧ qs < w4.heap.size) := ⟨HB4.out.el.mod.size, HB4.out.el.ptr.lt, HB4.out.said.lt⟩
                    have HXL : Hid (∀ i, X m i → i < w4.heap.size) := (HB4.out.el.gs m hm1 hm).lt
                    clear HB4 hA4
                    go_upto_region 21 with (fail)
                    have HZX : Hid (∀ i, X m i → i < w4.heap.size) := HXL.out
                    clear HXL
                    generalize w4.heap.size = z at *
                    generalize w4.alloc (.cells #[.int .i64 (a : Int), .int .i64 R, .int .i64 (a : Int)] 34) = w5 at *
                    have cm := HB5.out.el.ptr.cell hm1 hm
                    have k0 : w5.cell? ⟨z, 0, none⟩ = some (.int .i64 (a : Int)) := HZ5.out.cellv (j := 0) rfl
                    have k1 : w5.cell? ⟨z, 1, none⟩ = some (.int .i64 R) := HZ5.out.cellv (j := 1) rfl
                    have k2 : w5.cell? ⟨z, 2, none⟩ = some (.int .i64 (a : Int)) := HZ5.out.cellv (j := 2) rfl
                    have hd5 := (Mod.refl (fun _ => False) w5).drew
                    have CH := eb_hear (HB5.out.keep hd5) ha1 ha9 hm1 hm HMA.out R HR.out
                    have HZ5d : Hid (Bk w5.drew z 34 #[.int .i64 (a : Int), .int .i64 R, .int .i64 (a : Int)]) := HZ5.out.mod hd5 (fun h => h)
                    unfold jv at CH
                    clear hd5 hI
                    go_region_law (refine step_c2 (fun args w => by simp [go_sem]) (by rfl) _ _ (by rfl) (by rfl) _ _ (by rfl) (by rfl) _ CH ?_; rintro r w6 ⟨⟨x1, y1, rfl⟩, ⟨G', hB6⟩, hm6⟩)
                    all_goals
                      have HB6 : Hid (Eb w w6 qg qs P X G' (fun n => if n = m then upd (J m) a (some ⟨R, a⟩) else J n) S) := hB6
                      have hZ6 := HZ5d.out.mod hm6 (fun hx => by have := HZX.out z hx; omega)
                      clear CH hB6 hm6 k0 k1 k2 cm
                      have k0 : w6.cell? ⟨z, 0, none⟩ = some (.int .i64 (a : Int)) := hZ6.cellv (j := 0) rfl
                      have k1 : w6.cell? ⟨z, 1, none⟩ = some (.int .i64 R) := hZ6.cellv (j := 1) rfl
                      have k2 : w6.cell? ⟨z, 2, none⟩ = some (.int .i64 (a : Int)) := hZ6.cellv (j := 2) rfl
                      have hi81 : a * 9 + m < 81 := by omega
                      have y0 := HB6.out.said.cell0 hi81
                      have y1 := HB6.out.said.cell1 hi81
                      have y2 := HB6.out.said.cell2 hi81
                      have g0 := HB6.out.said.frz ((a * 9 + m) * 3)
                      have g1 := HB6.out.said.frz ((a * 9 + m) * 3 + 1)
                      have g2 := HB6.out.said.frz ((a * 9 + m) * 3 + 2)
                      have hE := (HB6.out.write hi81 ⟨(a : Int), R, (a : Int)⟩).keep ((Mod.refl (fun _ => False) _).drew)
                      rw [show (a * 9 + m) * 3 = a * 27 + m * 3 by omega] at y0 y1 y2 g0 g1 g2 hE
                      have HE : Hid (Eb w _ qg qs P X G' (fun n => if n = m then upd (J m) a (some ⟨R, a⟩) else J n) (fun j => if j = a * 9 + m then ⟨(a : Int), R, (a : Int)⟩ else S j)) := hE
                      have HI2 : Hid (Iv _ _) := HIV.out.write ha1 ha9 hm1 hm R
                      clear hZ6 hi81 hE HB6
                      go_wp2
                      go_region
                      go_wp2
                      go_roundw
                      case rel => exact ⟨m + 1, _, _, _, by go_num, by omega, by omega, HE.out, HI2.out⟩
                      case measure => simp [intOf]; omega
              · obtain rfl : m = 9 := by omega
                go_wp2_with (fail)
                go_roundw
                case rel => exact ⟨k + 1, _, _, _, by go_num, by have := HK.out; omega, HB⟩
                case measure => have := HK.out; simp [intOf]; omega
          · have hway : ¬ (k : Int) < (B.length : Int) ∨ ((k : Int) < (B.length : Int) ∧ ¬ (k : Int) < 300) := by omega
            rcases hway with hki | ⟨hki, hk2⟩
            all_goals
              go_wp2_with (fail)
              go_meet
              exact ⟨_, _, _, HB⟩
      case rest =>
        obtain ⟨G, J, S, HB⟩ := hcut
        have HIV : Hid (Iv J S) := HB.out.2
        have HB0 : Hid (Eb w wc qg qs P X G J S) := HB.out.1
        clear HB
        go_wp2_with (fail)
        go_loopw [15] (fun i wr => ∃ (a : Nat), i = .int .i64 (a : Int) ∧ 1 ≤ a ∧ a ≤ 9 ∧ Hid (Eb w wr qg qs P X G J S)) (fun i _ => 9 - (intOf i).toNat)
        case atStart => exact ⟨1, rfl, by omega, by omega, HB0⟩
        case round =>
          clear HB0
          obtain ⟨a, rfl, ha1, ha9, HB⟩ := hrel
          by_cases ha : a < 9
          · have hai : (a : Int) ≤ 8 := by omega
            have hai9 : (a : Int) < 9 := by omega
            obtain ⟨wk, ewk⟩ : ∃ wk, wk = wr := ⟨_, rfl⟩
            subst ewk
            go_wp2_with (fail)
            go_loopw [16] (fun i wr => ∃ (b : Nat), i = .int .i64 (b : Int) ∧ 1 ≤ b ∧ b ≤ 9 ∧ Hid (Eb w wr qg qs P X G J S)) (fun i _ => 9 - (intOf i).toNat)
            case atStart => exact ⟨1, rfl, by omega, by omega, HB⟩
            case round =>
              clear HB
              obtain ⟨b, rfl, hb1, hb9, HB⟩ := hrel
              by_cases hb : b < 9
              · have hbi : (b : Int) ≤ 8 := by omega
                have hbi9 : (b : Int) < 9 := by omega
                have ca := HB.out.el.ptr.cell ha1 ha
                have cb := HB.out.el.ptr.cell hb1 hb
                obtain ⟨Ra, eRa⟩ : ∃ R : Int, (hr a (J a) : Int) = R := ⟨_, rfl⟩
                obtain ⟨Rb, eRb⟩ : ∃ R : Int, (hr b (J b) : Int) = R := ⟨_, rfl⟩
                have HRa : Hid ((hr a (J a) : Int) = Ra) := eRa
                have HRb : Hid ((hr b (J b) : Int) = Rb) := eRb
                have COa : Hid (∀ W, Mod (fun _ => False) wr W → Calls Try.prog 13 #[.pointer (some ⟨P a, 0, none⟩)] W fun e w' => e = .returned (jv a Ra a) ∧ Mod (fun _ => False) W w') := fun W hm => eb_own (HB.out.keep hm) ha1 ha Ra eRa
                have COb : Hid (∀ W, Mod (fun _ => False) wr W → Calls Try.prog 13 #[.pointer (some ⟨P b, 0, none⟩)] W fun e w' => e = .returned (jv b Rb b) ∧ Mod (fun _ => False) W w') := fun W hm => eb_own (HB.out.keep hm) hb1 hb Rb eRb
                unfold jv at COa COb
                clear eRa eRb
                go_upto_region 31 with (fail)
                generalize P a = pa at ca COa
                generalize P b = pb at cb COb
                refine region31 qg a b pa pb Ra Rb ⟨⟨_, rfl, rfl, rfl, rfl, by decide +kernel⟩⟩ ⟨⟨_, rfl, rfl, rfl, rfl, by decide +kernel⟩⟩ ⟨⟨_, rfl, rfl, rfl, rfl, by decide +kernel⟩⟩ ⟨⟨_, rfl, rfl, rfl, rfl, by decide +kernel⟩⟩ ⟨⟨_, rfl, rfl, rfl, rfl, by decide +kernel⟩⟩ ⟨⟨_, rfl, rfl, rfl, rfl, by decide +kernel⟩⟩ ⟨⟨_, rfl, rfl, rfl, rfl, by decide +kernel⟩⟩ ⟨⟨_, rfl, rfl, rfl, rfl, by decide +kernel⟩⟩ ⟨⟨_, rfl, rfl, rfl, rfl, by decide +kernel⟩⟩ ⟨⟨_, rfl, rfl, rfl, rfl, by decide +kernel⟩⟩ ⟨⟨_, rfl, rfl, rfl, rfl, by decide +kernel⟩⟩ ⟨⟨_, rfl, rfl, rfl, rfl, by decide +kernel⟩⟩ rfl (by decide +kernel) rfl (by decide +kernel) rfl rfl rfl rfl ha hb ca cb COa.out COb.out ?_
                intro z z' w7 hm7 hBa hBb
                have HB7 : Hid (Eb w w7 qg qs P X G J S) := HB.out.keep hm7
                have HZA : Hid (Bk w7 z 34 #[.int .i64 (a : Int), .int .i64 Ra, .int .i64 (a : Int)]) := hBa
                have HZB : Hid (Bk w7 z' 34 #[.int .i64 (b : Int), .int .i64 Rb, .int .i64 (b : Int)]) := hBb
                clear hm7 hBa hBb HB COa COb ca cb
                simp only [puts, Act.put, List.setIfInBounds_toArray, List.set_cons_succ, List.set_cons_zero]
                go_upto_region 32 with (fail)
                go_cut [141] (fun v wx => Hid (∃ t : Bool, v = .bool t ∧ (t = false → a ≠ b ∧ S (a * 9 + b) = ⟨a, Ra, a⟩) ∧ Mod (fun _ => False) w7 wx))
                case first =>
                  have hN1 : a * 9 + b < 81 := by omega
                  have hN2 : b * 9 + a < 81 := by omega
                  have x0 : w7.cell? ⟨z, 0, none⟩ = some (.int .i64 (a : Int)) := HZA.out.cellv (j := 0) rfl
                  have x1 : w7.cell? ⟨z, 1, none⟩ = some (.int .i64 Ra) := HZA.out.cellv (j := 1) rfl
                  have x2 : w7.cell? ⟨z, 2, none⟩ = some (.int .i64 (a : Int)) := HZA.out.cellv (j := 2) rfl
                  have y0 : w7.cell? ⟨z', 0, none⟩ = some (.int .i64 (b : Int)) := HZB.out.cellv (j := 0) rfl
                  have y1 : w7.cell? ⟨z', 1, none⟩ = some (.int .i64 Rb) := HZB.out.cellv (j := 1) rfl
                  have y2 : w7.cell? ⟨z', 2, none⟩ = some (.int .i64 (b : Int)) := HZB.out.cellv (j := 2) rfl
                  have s0 := HB7.out.said.cell0 hN1
                  have s1 := HB7.out.said.cell1 hN1
                  have s2 := HB7.out.said.cell2 hN1
                  have t0 := HB7.out.said.cell0 hN2
                  have t1 := HB7.out.said.cell1 hN2
                  have t2 := HB7.out.said.cell2 hN2
                  rw [show (a * 9 + b) * 3 = a * 27 + b * 3 by omega] at s0 s1 s2
                  rw [show (b * 9 + a) * 3 = b * 27 + a * 3 by omega] at t0 t1 t2
                  have H1 := fun W => Cr.Has Ra (b : Int) W
                  have H2 := fun W => Cr.Has Rb (a : Int) W
                  have E1 := fun W => eqJoin (S (a * 9 + b)).s (S (a * 9 + b)).p (S (a * 9 + b)).c (a : Int) Ra (a : Int) W
                  have E2 := fun W => eqJoin (S (b * 9 + a)).s (S (b * 9 + a)).p (S (b * 9 + a)).c (b : Int) Rb (b : Int) W
                  obtain ⟨r1, er1⟩ : ∃ r, r = (decide ((S (a * 9 + b)).s = (a : Int)) && (decide ((S (a * 9 + b)).p = Ra) && decide ((S (a * 9 + b)).c = (a : Int)))) := ⟨_, rfl⟩
                  obtain ⟨r2, er2⟩ : ∃ r, r = (decide ((S (b * 9 + a)).s = (b : Int)) && (decide ((S (b * 9 + a)).p = Rb) && decide ((S (b * 9 + a)).c = (b : Int)))) := ⟨_, rfl⟩
                  rw [← er1] at E1
                  rw [← er2] at E2
                  have HGD : Hid (r1 = true → S (a * 9 + b) = ⟨(a : Int), Ra, (a : Int)⟩) := (show _ → _ from fun h => by
                    rw [er1] at h
                    simp at h
                    obtain ⟨e1, e2, e3⟩ := h
                    cases hS : S (a * 9 + b) with
                    | mk s p c =>
                      rw [hS] at e1 e2 e3
                      simp only at e1 e2 e3
                      rw [e1, e2, e3])
                  generalize (S (a * 9 + b)).s = s10 at *
                  generalize (S (a * 9 + b)).p = s11 at *
                  generalize (S (a * 9 + b)).c = s12 at *
                  generalize (S (b * 9 + a)).s = t10 at *
                  generalize (S (b * 9 + a)).p = t11 at *
                  generalize (S (b * 9 + a)).c = t12 at *
                  generalize Cr.has Ra (b : Int) = b1 at *
                  generalize Cr.has Rb (a : Int) = b2 at *
                  clear er1 er2 HZA HZB HB7 hN1 hN2
                  by_cases hab : a = b
                  · have hee : ((a : Int) == (b : Int)) = true := by simp [hab]
                    have hee2 : (a : Int) = (b : Int) := by omega
                    clear hab hee2
                    go_quiet (first | (go_at_call_of 22 Ra; exact (H1 _).mono fun e w' h => ⟨h.1, _, h.2⟩) | (go_at_call_of 22 Rb; exact (H2 _).mono fun e w' h => ⟨h.1, _, h.2⟩))
                    go_wp2
                    go_meet
                    exact ⟨true, rfl, by simp, by first | exact (Mod.refl _ _).drewN _ | exact (Mod.refl _ _).drew⟩
                  · have hee : ((a : Int) == (b : Int)) = false := by simp; omega
                    have HAB : Hid (a ≠ b) := hab
                    clear hab
                    cases b1
                    · skip
                      go_quiet (first | (go_at_call_of 22 Ra; exact (H1 _).mono fun e w' h => ⟨h.1, _, h.2⟩) | (go_at_call_of 22 Rb; exact (H2 _).mono fun e w' h => ⟨h.1, _, h.2⟩))
                      go_wp2
                      go_meet
                      exact ⟨true, rfl, by simp, by first | exact (Mod.refl _ _).drewN _ | exact (Mod.refl _ _).drew⟩
                    · cases b2
                      · skip
                        go_quiet (first | (go_at_call_of 22 Ra; exact (H1 _).mono fun e w' h => ⟨h.1, _, h.2⟩) | (go_at_call_of 22 Rb; exact (H2 _).mono fun e w' h => ⟨h.1, _, h.2⟩))
                        go_wp2
                        go_meet
                        exact ⟨true, rfl, by simp, by first | exact (Mod.refl _ _).drewN _ | exact (Mod.refl _ _).drew⟩
                      · cases r1
                        · skip
                          go_quiet (first | (go_at_call_of 22 Ra; exact (H1 _).mono fun e w' h => ⟨h.1, _, h.2⟩) | (go_at_call_of 22 Rb; exact (H2 _).mono fun e w' h => ⟨h.1, _, h.2⟩))
                          go_wp2
                          go_meet
                          exact ⟨true, rfl, by simp, by first | exact (Mod.refl _ _).drewN _ | exact (Mod.refl _ _).drew⟩
                        · have HGE := HGD.out rfl
                          have HGF : Hid (S (a * 9 + b) = ⟨(a : Int), Ra, (a : Int)⟩) := HGE
                          clear HGE HGD
                          cases r2
                          · skip
                            go_quiet (first | (go_at_call_of 22 Ra; exact (H1 _).mono fun e w' h => ⟨h.1, _, h.2⟩) | (go_at_call_of 22 Rb; exact (H2 _).mono fun e w' h => ⟨h.1, _, h.2⟩))
                            go_wp2
                            go_meet
                            exact ⟨true, rfl, by simp, by first | exact (Mod.refl _ _).drewN _ | exact (Mod.refl _ _).drew⟩
                          · skip
                            go_quiet (first | (go_at_call_of 22 Ra; exact (H1 _).mono fun e w' h => ⟨h.1, _, h.2⟩) | (go_at_call_of 22 Rb; exact (H2 _).mono fun e w' h => ⟨h.1, _, h.2⟩))
                            go_wp2
                            go_meet
                            exact ⟨false, rfl, fun _ => ⟨HAB.out, HGF.out⟩, by first | exact (Mod.refl _ _).drewN _ | exact (Mod.refl _ _).drew⟩
                case rest =>
                  obtain ⟨t, rfl, hgood, hmc⟩ := hcut.out
                  have HGO : Hid (t = false → a ≠ b ∧ S (a * 9 + b) = ⟨(a : Int), Ra, (a : Int)⟩) := hgood
                  have HB8 : Hid (Eb w wc qg qs P X G J S) := HB7.out.keep hmc
                  have HZA8 : Hid (Bk wc z 34 #[.int .i64 (a : Int), .int .i64 Ra, .int .i64 (a : Int)]) := HZA.out.mod hmc (fun h => h)
                  have HZB8 : Hid (Bk wc z' 34 #[.int .i64 (b : Int), .int .i64 Rb, .int .i64 (b : Int)]) := HZB.out.mod hmc (fun h => h)
                  clear hcut hgood hmc HB7 HZA HZB
                  cases t with
                  | true =>
                    go_wp2
                    go_roundw
                    case rel => exact ⟨b + 1, by go_num, by omega, by omega, HB8⟩
                    case measure => simp [intOf]; omega
                  | false =>
                    have HRAB : Hid (ag (J b) (hr b (J b)) = true → Ra = Rb) := (show _ → _ from fun hag => by
                      obtain ⟨hne, hS⟩ := HGO.out rfl
                      have hiv := HIV.out a b ha1 ha hb1 hb hne
                      rw [hS] at hiv
                      cases hj : J b a with
                      | none =>
                        rw [hj] at hiv
                        simp only [sj, z3, J3.mk.injEq] at hiv
                        omega
                      | some j =>
                        rw [hj] at hiv
                        simp only [sj, J3.mk.injEq] at hiv
                        have := (ag_iff (HB8.out.el.gs b hb1 hb).gp _).1 hag _ j hj
                        rw [hiv.2.1, this, HRb.out])
                    have CA := Agreed_w (HB8.out.el.gs a ha1 ha)
                    obtain ⟨Aa, eAa⟩ : ∃ A : Bool, A = ag (J a) (hr a (J a)) := ⟨_, rfl⟩
                    rw [← eAa] at CA
                    clear eAa HGO
                    have ca := HB8.out.el.ptr.cell ha1 ha
                    have cb := HB8.out.el.ptr.cell hb1 hb
                    go_wp2_with (fail)
                    refine CA.mono ?_
                    rintro e w9 ⟨rfl, hm9⟩
                    have HB9 : Hid (Eb w w9 qg qs P X G J S) := HB8.out.keep hm9
                    have x1 := (HZA8.out.mod hm9 (fun h => h)).cellv (j := 1) (v := .int .i64 Ra) rfl
                    have y1 := (HZB8.out.mod hm9 (fun h => h)).cellv (j := 1) (v := .int .i64 Rb) rfl
                    have HZA9 : Hid (Bk w9 z 34 _) := HZA8.out.mod hm9 (fun h => h)
                    have HZB9 : Hid (Bk w9 z' 34 _) := HZB8.out.mod hm9 (fun h => h)
                    clear CA ca cb hm9 HB8 HZA8 HZB8
                    cases Aa with
                    | false =>
                      go_wp2
                      go_roundw
                      case rel => exact ⟨b + 1, by go_num, by omega, by omega, HB9⟩
                      case measure => simp [intOf]; omega
                    | true =>
                      have cb := HB9.out.el.ptr.cell hb1 hb
                      have CB := Agreed_w (HB9.out.el.gs b hb1 hb)
                      obtain ⟨Ab, eAb⟩ : ∃ A : Bool, A = ag (J b) (hr b (J b)) := ⟨_, rfl⟩
                      rw [← eAb] at CB
                      have HAb : Hid (Ab = ag (J b) (hr b (J b))) := eAb
                      clear eAb
                      go_wp2_with (fail)
                      refine CB.mono ?_
                      rintro e w10 ⟨rfl, hm10⟩
                      have HB10 : Hid (Eb w w10 qg qs P X G J S) := HB9.out.keep hm10
                      clear x1 y1
                      have x1 := (HZA9.out.mod hm10 (fun h => h)).cellv (j := 1) (v := .int .i64 Ra) rfl
                      have y1 := (HZB9.out.mod hm10 (fun h => h)).cellv (j := 1) (v := .int .i64 Rb) rfl
                      clear CB cb hm10 HB9 HZA9 HZB9
                      cases Ab with
                      | false =>
                        go_wp2
                        go_roundw
                        case rel => exact ⟨b + 1, by go_num, by omega, by omega, HB10⟩
                        case measure => simp [intOf]; omega
                      | true =>
                        have hRR : (Ra != Rb) = false := by simp [HRAB.out HAb.out.symm]
                        go_wp2
                        go_roundw
                        case rel => exact ⟨b + 1, by go_num, by omega, by omega, HB10⟩
                        case measure => simp [intOf]; omega
              · obtain rfl : b = 9 := by omega
                go_wp2_with (fail)
                go_roundw
                case rel => exact ⟨a + 1, by go_num, by omega, by omega, HB⟩
                case measure => simp [intOf]; omega
          · obtain rfl : a = 9 := by omega
            go_wp2_with (fail)
            go_ret
            exact ⟨rfl, HB.out.el.mod⟩
namespace gatherBoth
open Go.ChangeShapes Go.WideShapes Go.ChangeAt Go.RowKit
set_option maxRecDepth 100000 in
theorem lifted (os : Os) (started : os.Started) (H : Type) (enc : TypeId × Value → H) :
    ReturnsInHanded {} Try.checked os 5 .any (Rows.gatherBothSpec.pre6 enc Try.prog Try.f5 Rows.gatherBothRow.domain false) (Rows.gatherBothSpec.post enc Try.prog Try.f5 false true false false) := by
  refine returnsInHanded_of_change_sized (C := Try.checked) own started (by kernel_rfl) Try.func5
    (ChangeSpec.witness6 (enc := enc) (C := Try.checked) false ⟨#[], #[.slice none 0 0], []⟩ 8 (by kernel_rfl) (by kernel_rfl) (by kernel_rfl) (by kernel_rfl)) ?_
  intro W base args ds gs before hval0 hW hcnd hsz0 _
  have hval : ∀ (j : Nat) t v, Try.f5.params[j]? = some t → args[j]? = some v → Value.okWide Try.prog W .any base t v := hval0
  have hsz : (DataW.weightsEach Try.prog (Try.f5.params.toList ++ Rows.gatherBothSpec.plain.varTypes Try.prog) (ds ++ gs)).all (· ≤ reachBytes) = true := hsz0
  have hW' := hW
  obtain ⟨p, q, hA0, hV, rfl, hfz, hnd⟩ := hW
  have hA : DataW.TrodAll enc Try.prog W 0 (fun _ => true) true Try.f5.params.toList args.toList ds p := hA0
  rw [Try.params5] at hA hval hsz
  obtain ⟨v0, vs0, d0, ds0, p0, q0, hargs, rfl, rfl, h0, r0⟩ := trodAll_cons hA
  obtain ⟨rfl, rfl, rfl⟩ := trodAll_nil r0
  obtain rfl : args = #[v0] := by cases args; simp_all
  obtain ⟨rfl, rfl⟩ := trodVars_none hV
  have k0 := h0
  have lt0 : ∀ x ∈ p0, x.block < W.heap.size := by obtain ⟨m, hm⟩ := k0; exact DataW.trod_lt m _ _ _ hm
  obtain ⟨B0, hB0⟩ := open_pairs h0 (okWide_slice Try.underlying42 (hval 0 42 v0 rfl rfl))
  clear hA0 hval0
  refine (both_walk v0 B0 W hB0).mono fun e W' ⟨he, hm⟩ => ?_
  subst he
  have bel : Below W.heap.size W W' := hm.below _ (Nat.le_refl _) (fun _ h => h.elim)
  exact ⟨_, rfl, _, _, _, [], _, [], hW', trodAll_mk1 (shut_bool Try.underlying4 _), (trodAll_cons_mk (Below.trod laidOut (by kernel_rfl) (of_decide_eq_true (by kernel_rfl)) k0 bel lt0) trodAll_mk0), rfl, bel.frame _, fun h => by cases h⟩

theorem over : Rows.gatherBothRow.holds Try.pinned (OpenSpec.ofChange Rows.gatherBothSpec) :=
  OpenClaim.holds_of_wide 5 Try.f5 rfl rfl rfl rfl rfl rfl rfl ⟨rfl, rfl, rfl, rfl, rfl⟩ rfl rfl rfl rfl rfl (by kernel_rfl) Try.func5 (by kernel_rfl)
    (of_decide_eq_true (by kernel_rfl)) (by unfold Func.isWrapper; first | (rw [if_pos (by decide +kernel)]; kernel_rfl) | (rw [if_neg (by decide +kernel)]; exact ⟨rfl, rfl⟩))
    (fun os started H enc _ => lifted os started H enc)
end gatherBoth
theorem gatherBoth_holds : Rows.GatherBothSaid := gatherBoth.over
end Go.Proofs.Ytmfdgbdcbfppcaa
