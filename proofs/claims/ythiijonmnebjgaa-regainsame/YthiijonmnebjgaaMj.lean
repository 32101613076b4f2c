/- RegainSame: each sends again what it has above what all have, and takes what all others send: then all have the same. Of all lists of bits, numbers and turns. No conditions. -/
import Derived.Test.YthiijonmnebjgaaMl
import Derived.Test.YthiijonmnebjgaaMg
import Derived.Test.YthiijonmnebjgaaMf
import Derived.Lib.MinMax
import Derived.Deep.QuietTactic
import Derived.BigQuiet
namespace Go.Proofs.Ythiijonmnebjgaa
open Go.RowKit
/-- The numbers that are wanted, of the first k. -/
def wantL (m k : Nat) : List Int := ((List.range k).filter (fun i => m.testBit i)).map (fun (i : Nat) => (i : Int) + 1)
theorem wantL_yes {m k : Nat} (h : m.testBit k = true) : wantL m (k + 1) = wantL m k ++ [(k : Int) + 1] := by simp [wantL, List.range_succ, List.filter_append, h]
theorem wantL_no {m k : Nat} (h : m.testBit k = false) : wantL m (k + 1) = wantL m k := by simp [wantL, List.range_succ, List.filter_append, h]
theorem wantL_len (m k : Nat) : (wantL m k).length ≤ k := by
  unfold wantL
  rw [List.length_map]
  exact Nat.le_trans (List.length_filter_le _ _) (by simp)
theorem wantL_kz (m : Nat) : Kz (sB m 40) 0 (wantL m 40) := by
  refine ⟨?_, fun x => ?_⟩
  · unfold wantL
    rw [List.pairwise_map]
    refine (List.Pairwise.filter _ (List.pairwise_lt_range)).imp ?_
    intro a b h
    omega
  · simp only [wantL, List.mem_map, List.mem_filter, List.mem_range, sB, Bool.and_eq_true, decide_eq_true_eq]
    constructor
    · rintro ⟨i, ⟨h1, h2⟩, rfl⟩
      exact ⟨by omega, ⟨by omega, by omega⟩, by rw [show ((i : Int) + 1 - 1).toNat = i by omega]; exact h2⟩
    · rintro ⟨h1, ⟨h2, h3⟩, h4⟩
      exact ⟨(x - 1).toNat, ⟨by omega, h4⟩, by omega⟩
theorem wrap64_I64 (x : Int) : I64 (wrap64 x) := by
  unfold I64 wrap64
  omega
/-- How long a slice is. -/
def slen : Value → Nat
  | .slice _ n _ => n
  | _ => 0
theorem bit_u (m kk : Nat) (hm : m < 2 ^ 64) : bits .and .u64 ((m : Int) / 2 ^ kk) 1 = if m.testBit kk then 1 else 0 := by
  have h1 : ((m : Int) / 2 ^ kk) = ((m >>> kk : Nat) : Int) := by
    rw [Nat.shiftRight_eq_div_pow]
    simp
  have h2 : m >>> kk < 2 ^ 64 := by
    rw [Nat.shiftRight_eq_div_pow]
    exact Nat.lt_of_le_of_lt (Nat.div_le_self _ _) hm
  rw [h1, show (1 : Int) = ((1 : Nat) : Int) from rfl, and_u _ _ h2 (by decide), bit_val]
  split <;> rfl
theorem Gone.chain {w w1 : World} {X Y Z : Nat → Prop} (h : Gone w X Y) (k : Gone w1 Y Z) (hs : w.heap.size ≤ w1.heap.size) : Gone w X Z := fun b hb => by
  rcases k b hb with h1 | h1
  · exact h b h1
  · exact .inr (by omega)
set_option maxRecDepth 100000 in
set_option maxHeartbeats 40000000 in
theorem same_walk (v0 v2 : Value) (low : Int) (H T : List Int) (w : World) (hH : Su w v0 H) (hT : Si w v2 T) (il : I64 low) : Calls Try.prog 3 #[v0, .int .i64 low, v2] w fun e w' => e = .returned (.bool true) ∧ Mod (fun _ => False) w w' := by
  have HH : Hid (Su w v0 H) := hH
  have HT : Hid (Si w v2 T) := hT
  obtain ⟨a0, c0, rfl, _⟩ := hH.form
  obtain ⟨a2, c2, rfl, _⟩ := hT.form
  have q1 : 0 ≤ br low 20 ∧ br low 20 < 20 := ⟨(br_rng low 20 (by omega)).1, (br_rng low 20 (by omega)).2.1⟩
  have K0 := fun W => bring_at low 20 20 rfl W (by omega) (by omega) il
  obtain ⟨lN, elN⟩ : ∃ lN : Nat, br low 20 = (lN : Int) := ⟨(br low 20).toNat, by have := q1.1; omega⟩
  have HLN : Hid (lN < 20) := by have := q1.2; rw [elN] at this; show _ < _; omega
  rw [elN] at K0
  obtain ⟨nN, enN⟩ : ∃ nN : Nat, nN = min (max H.length 2) 6 := ⟨_, rfl⟩
  have HNN : Hid (2 ≤ nN ∧ nN ≤ 6) := by show _ ∧ _; omega
  have en : min (max (H.length : Int) 2) 6 = (nN : Int) := by omega
  clear hH hT q1 elN enN il
  go_enter Try.func3, Try.ntmps3
  go_wp2_with (fail)
  refine (awake_any w).mono ?_
  rintro e w1 ⟨rfl, hm1⟩
  go_wp2_with (fail)
  refine (K0 _).mono ?_
  rintro e w1' ⟨rfl, e1⟩
  replace e1 := e1.symm
  subst e1
  clear K0
  have HM1 : Hid (Mod (fun _ => False) w w1) := hm1
  clear hm1
  go_upto_region 7 with (fail)
  go_wp2_with (fail)
  go_loopw [8, 9, 10] (fun al v i wr => ∃ (j : Nat) (P : Nat → Nat) (X : Nat → Nat → Prop), al = .int .u64 ((aN H lN j : Nat) : Int) ∧ i = .int .i64 (j : Int) ∧ j ≤ nN ∧ Hid (Ws wr v j P X (fun t => sB (bN H lN t) 40) 40 w1.heap.size) ∧ Hid (Mod (fun _ => False) w1 wr)) (fun _ _ i _ => nN - (intOf i).toNat)
  case atStart =>
    exact ⟨0, fun _ => 0, fun _ _ => False, rfl, rfl, Nat.zero_le _, ⟨RG.nil _ _ _, fun i h => absurd h (Nat.not_lt_zero _), fun i j h => absurd h (Nat.not_lt_zero _), fun i h => absurd h (Nat.not_lt_zero _), fun i h => absurd h (Nat.not_lt_zero _), fun i h => absurd h (Nat.not_lt_zero _), by simp [Value.ownBlock]⟩, Mod.refl _ _⟩
  case round =>
    obtain ⟨j, P, X, rfl, rfl, hj, HW, HMr⟩ := hrel
    by_cases hlt : j < nN
    · have hlt' : (j : Int) < (nN : Int) := by omega
      have HLT : Hid (j < nN) := hlt
      have hj6 : (j : Int) + 1 ≤ 6 := by have := HNN.out.2; omega
      have hj0 : (0 : Int) ≤ (j : Int) := by omega
      have es : IntKind.u64.wrap (IntKind.u64.wrap (2 ^ min lN 64) - 1) = ((2 ^ lN - 1 : Nat) : Int) := by
        have h1 : min lN 64 = lN := by have := HLN.out; omega
        have h2 : 2 ^ lN ≤ 2 ^ 20 := Nat.pow_le_pow_right (by omega) (by have := HLN.out; omega)
        have h3 : 1 ≤ 2 ^ lN := Nat.one_le_two_pow
        have h4 : ((2 : Int) ^ lN) = ((2 ^ lN : Nat) : Int) := by simp
        rw [h1, h4]
        generalize 2 ^ lN = z at *
        show (((z : Int) % 18446744073709551616) - 1) % 18446744073709551616 = _
        omega
      go_upto_if 53 with (fail)
      clear es
      go_cut [11] (fun b wx => b = .int .u64 ((bN H lN j : Nat) : Int) ∧ wx = wr)
      case first =>
        by_cases hi : j < H.length
        · have hi' : (j : Int) < (H.length : Int) := by omega
          have hHr := HH.out.mod (HM1.out.and HMr.out)
          obtain ⟨a0', c0', e, _, _, _, hcell⟩ := hHr.form
          cases e
          obtain ⟨b0, o0, rfl, hc⟩ := hcell (by intro e; rw [e] at hi; simp at hi)
          have hcj := hc j hi
          obtain ⟨x, ex⟩ : ∃ x : Nat, H.getD j 0 = (x : Int) := ⟨(H.getD j 0).toNat, by
            have : H.getD j 0 ∈ H := by rw [show H.getD j 0 = H[j] by simp [List.getD, List.getElem?_eq_getElem hi]]; exact List.getElem_mem hi
            have := hHr.rng _ this
            omega⟩
          have hx64 : x < 2 ^ 64 := by
            have : H.getD j 0 ∈ H := by rw [show H.getD j 0 = H[j] by simp [List.getD, List.getElem?_eq_getElem hi]]; exact List.getElem_mem hi
            have := hHr.rng _ this
            omega
          rw [ex] at hcj
          have ea : bits .and .u64 (x : Int) 1099511627775 = ((x &&& 1099511627775 : Nat) : Int) := and_u x 1099511627775 hx64 (by decide)
          have eo : bits .or .u64 ((2 ^ lN - 1 : Nat) : Int) ((x &&& 1099511627775 : Nat) : Int) = ((bN H lN j : Nat) : Int) := by
            rw [or_u _ _ (by have : 2 ^ lN ≤ 2 ^ 20 := Nat.pow_le_pow_right (by omega) (by have := HLN.out; omega)
                             have : (2 : Nat) ^ 20 < 2 ^ 64 := by decide
                             omega) (Nat.lt_of_le_of_lt Nat.and_le_right (by decide)), bN, if_pos hi, ex]
            rfl
          generalize ((2 ^ lN - 1 : Nat) : Int) = s1 at *
          generalize ((x &&& 1099511627775 : Nat) : Int) = s2 at *
          generalize ((bN H lN j : Nat) : Int) = s3 at *
          have hjl : (H.length : Int) ≤ 9223372036854775807 := by
            have := HH.out.form
            obtain ⟨_, _, e, h1, h2, _⟩ := this
            cases e
            simp only [maxLen] at h2
            omega
          clear hHr hcell hc ex hx64
          go_wp2
          go_meet
          exact ⟨rfl, rfl⟩
        · have hi' : ¬ (j : Int) < (H.length : Int) := by omega
          have eb : ((2 ^ lN - 1 : Nat) : Int) = ((bN H lN j : Nat) : Int) := by rw [bN, if_neg hi, Nat.or_zero]
          rw [eb]
          go_wp2
          go_meet
          exact ⟨rfl, rfl⟩
      case rest =>
      obtain ⟨rfl, rfl⟩ := hcut
      obtain ⟨m, em⟩ : ∃ m, bN H lN j = m := ⟨_, rfl⟩
      have eall : bits .or .u64 ((aN H lN j : Nat) : Int) (m : Int) = ((aN H lN (j + 1) : Nat) : Int) := by
        have h1 := aN_lt (H := H) (low := lN) (by have := HLN.out; omega) j
        have h2 := bN_lt (H := H) (low := lN) (i := j) (by have := HLN.out; omega)
        rw [← em, or_u _ _ (Nat.lt_trans h1 (by decide)) (Nat.lt_trans h2 (by decide)), aN]
      have HEM : Hid (bN H lN j = m ∧ m < 2 ^ 40) := ⟨em, by rw [← em]; exact bN_lt (by have := HLN.out; omega)⟩
      rw [em]
      clear em
      generalize ((aN H lN j : Nat) : Int) = al0 at *
      obtain ⟨al1, eal1⟩ : ∃ al1, ((aN H lN (j + 1) : Nat) : Int) = al1 := ⟨_, rfl⟩
      rw [eal1] at eall
      have HAL : Hid (((aN H lN (j + 1) : Nat) : Int) = al1) := eal1
      clear eal1
      go_wp2_with (fail)
      refine (wNew wc).mono ?_
      rintro e w2 ⟨p, Xp, rfl, hwp, hXp, hmp⟩
      have HWP : Hid (Wn w2 p Xp (jOf 2 1 S0) 0 0 0) := hwp
      have HXP : Hid (∀ i, Xp i → wc.heap.size ≤ i) := hXp
      have HMP : Hid (Mod (fun _ => False) wc w2) := hmp
      clear eall hwp hXp hmp
      go_wp2_with (fail)
      go_loopw [13] (fun k wk => ∃ (kk : Nat) (Xk : Nat → Prop) (a h : Int), k = .int .i64 (kk : Int) ∧ kk ≤ 40 ∧ Hid (Wn wk p Xk (jOf 2 1 (sB m kk)) a h kk) ∧ Hid (Mod Xp w2 wk) ∧ Hid (Gone w2 Xp Xk)) (fun k _ => 40 - (intOf k).toNat)
      case atStart => exact ⟨0, Xp, 0, 0, rfl, Nat.zero_le _, by rw [sB_zero]; exact HWP.out, Mod.refl _ _, Gone.self _ _⟩
      case round =>
        obtain ⟨kk, Xk, a, h, rfl, hk, HWK, HMK, HGK⟩ := hrel
        by_cases hk4 : kk < 40
        · have hk4' : (kk : Int) < 40 := by omega
          have hk0 : (0 : Int) ≤ (kk : Int) := by omega
          have HK4 : Hid (kk < 40) := hk4
          cases hb : m.testBit kk with
          | true =>
            have eb : bits .and .u64 ((m : Int) / 2 ^ kk) 1 = 1 := by rw [bit_u m kk (Nat.lt_trans HEM.out.2 (by decide)), hb]; rfl
            have HBB : Hid (m.testBit kk = true) := hb
            clear hb
            go_wp2_with (fail)
            refine (one_any ((kk : Int) + 1) _ (by have := HK4.out; omega)).mono ?_
            rintro e w3 ⟨v, rfl, ho, hg, hm⟩
            obtain ⟨av, cv, rfl⟩ := ho.shape
            have hP := Put_j (HWK.out.keep hm) cr21 ((kk : Int) + 1) (by have := HK4.out; omega) (.slice av [(kk : Int) + 1].length cv) (ho.sl (fun c hc => by simp at hc; have := HK4.out; omega)) (by have := HK4.out; omega)
            rw [sB_new, sB_yes HBB.out] at hP
            have HM3 : Hid (Mod (fun _ => False) wr w3) := hm
            unfold dv at hP
            unfold dv on
            clear eb ho hg hm
            go_wp2_with (fail)
            refine hP.mono ?_
            rintro e w4 ⟨X4, a4, rfl, hw4, hm4, hg4⟩
            have HREL : Hid (Wn w4 p X4 (jOf 2 1 (sB m (kk + 1))) a4 (if false = true then h else max h ((kk : Int) + 1)) (kk + 1) ∧ Mod Xp w2 w4 ∧ Gone w2 Xp X4) := by
              refine ⟨hw4, (HMK.out.trans HM3.out (V := Xp) (fun _ _ h => h) (fun _ _ h => h.elim)).trans hm4 (fun _ _ h => h) (fun i hi hx => ?_), (HGK.out.chain hg4 (Nat.le_trans HMK.out.size HM3.out.size))⟩
              rcases HGK.out i hx with h1 | h1
              · exact h1
              · omega
            clear hP hw4 hm4 hg4
            go_wp2
            go_roundw
            case rel => exact ⟨kk + 1, X4, a4, _, by go_num, HK4.out, HREL.out.1, HREL.out.2.1, HREL.out.2.2⟩
            case measure =>
              have := HK4.out
              simp [intOf]
              omega
          | false =>
            have eb : bits .and .u64 ((m : Int) / 2 ^ kk) 1 = 0 := by rw [bit_u m kk (Nat.lt_trans HEM.out.2 (by decide)), hb]; rfl
            have HWK2 : Hid (Wn wr p Xk (jOf 2 1 (sB m (kk + 1))) a h (kk + 1)) := by
              show Wn wr p Xk (jOf 2 1 (sB m (kk + 1))) a h (kk + 1)
              rw [← sB_no hb]
              exact HWK.out.le (Nat.le_succ _)
            clear hb
            go_wp2
            go_roundw
            case rel => exact ⟨kk + 1, Xk, a, h, by go_num, HK4.out, HWK2.out, HMK.out, HGK.out⟩
            case measure =>
              have := HK4.out
              simp [intOf]
              omega
        · have hk4' : ¬ (kk : Int) < 40 := by omega
          obtain rfl : kk = 40 := by omega
          clear hk hk4
          have hA := (Mod.refl (fun _ => False) wr).alloc (.cells #[.pointer (some ⟨p, 0, none⟩)] 28)
          have hMt := (HMP.out.none.trans HMK.out (V := Xp) (fun _ _ h => h) (fun _ _ h => h))
          have hsz := HMP.out.size
          have hszk := HMK.out.size
          have hX : ∀ i, Xk i → wc.heap.size ≤ i := fun i hi => by
            rcases HGK.out i hi with h1 | h1
            · exact HXP.out i h1
            · omega
          have hWl := HW.out.lt
          have hWk := HW.out.mod hMt (fun k hk => ⟨fun i hi hx => by have := hWl i hi k hx; have := HXP.out k hk; omega, fun hx => by have := HW.out.row.lt k hx; have := HXP.out k hk; omega⟩)
          have hWa := hWk.keep hA
          have hSG := SG.lit wr 28 [.pointer (some ⟨p, 0, none⟩)] (by simp [Value.oneCell'])
          obtain ⟨av, cv, rfl⟩ := HW.out.row.shape
          have HWA : Hid (Ws (wr.alloc (.cells #[.pointer (some ⟨p, 0, none⟩)] 28)) (.slice av j cv) j P X (fun t => sB (bN H lN t) 40) 40 w1.heap.size) := hWa
          have HWN : Hid (Wn (wr.alloc (.cells #[.pointer (some ⟨p, 0, none⟩)] 28)) p Xk (jOf 2 1 (sB m 40)) a h 40) := HWK.out.keep hA
          have HXK : Hid ((∀ i, Xk i → wc.heap.size ≤ i) ∧ (∀ i, i < j → ∀ k, X i k → k < wc.heap.size) ∧ (∀ g, (Value.slice av j cv).ownBlock = some g → g < wc.heap.size) ∧ wc.heap.size ≤ wr.heap.size ∧ (∀ i, Xk i → i < wr.heap.size)) := ⟨hX, hWl, HW.out.row.lt, by omega, HWK.out.mem.lt⟩
          have HMA : Hid (Mod (fun _ => False) w1 (wr.alloc (.cells #[.pointer (some ⟨p, 0, none⟩)] 28))) := (((HMr.out.none (S := fun i => wc.heap.size ≤ i)).trans hMt (V := fun i => wc.heap.size ≤ i) (fun _ _ h => h) (fun i _ h => HXP.out i h)).alloc _).trans (Mod.refl (fun _ => False) _) (V := fun _ => False) (fun i hi h => by have := HMr.out.size; omega) (fun _ _ h => h)
          have hRW := hWa.row
          have hbn : (j + 1) * 8 ≤ 140737488355328 ∧ j + 1 ≤ 9223372036854775807 := by
            have := HNN.out
            have := HLT.out
            constructor <;> omega
          have HBN : Hid ((j + 1) * 8 ≤ 140737488355328 ∧ j + 1 ≤ 9223372036854775807) := hbn
          clear hA hMt hsz hszk hX hWl hWk hWa hbn hj6
          go_wp2_with (at_builtin; refine wpList_appG elW rfl _ _ rfl _ _ j 1 (pts P j) _ rfl rfl hRW hSG HBN.out.1 HBN.out.2 (j + 1) rfl ?_; intro ax cx w5 hRG5 hm5 hf5)
          have HREL : Hid (Ws w5 (.slice ax (j + 1) cx) (j + 1) (up P j p) (up X j Xk) (fun t => sB (bN H lN t) 40) 40 w1.heap.size ∧ Mod (fun _ => False) w1 w5) := by
            have hx := HXK.out
            have hsz : wr.heap.size + 1 ≤ w5.heap.size := by have := hm5.size; simpa using this
            have hb1 := HMr.out.size
            have hno : ∀ i, i ≤ j → ∀ k, up X j Xk i k → ¬ (Value.slice av j cv).ownBlock = some k := fun i hi k hk e => by
              by_cases e2 : i = j
              · subst e2; rw [up_same] at hk
                have := hx.1 k hk; have := hx.2.2.1 k e; omega
              · rw [up_ne _ _ e2] at hk
                exact HW.out.rx i (by omega) k e hk
            refine ⟨⟨?_, fun i hi => ?_, fun i k hi hk hik t ht => ?_, fun i hi g hg ht => ?_, fun i hi k hk => sB_rng hk, fun i hi k hk => ?_, fun g hg => ?_⟩, HMA.out.trans hm5 (V := fun _ => False) (fun _ _ h => h) (fun i hi e => by have := HW.out.vb i e; omega)⟩
            · have : pts (up P j p) (j + 1) = pts P j ++ [.pointer (some ⟨p, 0, none⟩)] := by
                unfold pts
                rw [List.range_succ, List.map_append]
                congr 1
                · refine List.map_congr_left fun i hi => ?_
                  rw [up_ne _ _ (by have := List.mem_range.1 hi; omega)]
                · simp [up_same]
              rw [this]
              exact hRG5
            · by_cases e : i = j
              · subst e
                rw [up_same, up_same]
                show ∃ a h, Wn w5 p Xk (jOf 2 1 (sB (bN H lN i) 40)) a h 40
                rw [HEM.out.1]
                exact ⟨a, h, HWN.out.mod hm5 (fun k hk e => by have := hx.1 k hk; have := hx.2.2.1 k e; omega)⟩
              · rw [up_ne _ _ e, up_ne _ _ e]
                obtain ⟨a', h', hw'⟩ := HWA.out.win i (by omega)
                exact ⟨a', h', hw'.mod hm5 (fun k hk e => HW.out.rx i (by omega) k e hk)⟩
            · by_cases e : i = j
              · subst e
                rw [up_same] at ht
                rw [up_ne _ _ (fun e => hik e.symm)]
                intro hy
                have := hx.1 t ht; have := hx.2.1 k (by omega) t hy; omega
              · rw [up_ne _ _ e] at ht
                by_cases e2 : k = j
                · subst e2
                  rw [up_same]
                  intro hy
                  have := hx.1 t hy; have := hx.2.1 i (by omega) t ht; omega
                · rw [up_ne _ _ e2]
                  exact HW.out.dis i k (by omega) (by omega) hik t ht
            · rcases hf5 g hg with h1 | h1
              · exact hno i (by omega) g ht h1
              · simp at h1
                by_cases e : i = j
                · subst e
                  rw [up_same] at ht
                  have := hx.2.2.2.2 g ht
                  omega
                · rw [up_ne _ _ e] at ht
                  have := hx.2.1 i (by omega) g ht
                  omega
            · by_cases e : i = j
              · subst e
                rw [up_same] at hk
                have := hx.1 k hk
                omega
              · rw [up_ne _ _ e] at hk
                exact HW.out.new i (by omega) k hk
            · rcases hf5 g hg with h1 | h1
              · exact HW.out.vb g h1
              · simp at h1
                omega
          clear hRG5 hm5 hf5 hSG hRW
          have hj6 : (j : Int) + 1 ≤ 6 := by have := HNN.out.2; have := HLT.out; omega
          go_wp2
          go_roundw
          case rel => exact ⟨j + 1, _, _, by rw [HAL.out], by go_num, HLT.out, HREL.out.1, HREL.out.2⟩
          case measure =>
            have := HLT.out
            simp [intOf]
            omega
    · have hlt' : ¬ (j : Int) < (nN : Int) := by omega
      obtain rfl : j = nN := by omega
      clear hlt hj
      obtain ⟨all, eall⟩ : ∃ all, aN H lN j = all := ⟨_, rfl⟩
      have HALL : Hid (aN H lN j = all) := eall
      rw [eall]
      clear eall
      obtain ⟨av, cv, rfl⟩ := HW.out.row.shape
      obtain ⟨S, eS⟩ : ∃ S : Nat → Int → Bool, S = (fun t => sB (bN H lN t) 40) := ⟨_, rfl⟩
      have HES : Hid (S = (fun t => sB (bN H lN t) 40)) := eS
      replace HW : Hid (Ws wr (.slice av j cv) j P X S 40 w1.heap.size) := eS ▸ HW.out
      clear eS
      obtain ⟨wB, eB⟩ : ∃ wB, wB = wr := ⟨_, rfl⟩
      subst eB
      go_wp2_with (fail)
      go_loopw [16, 17] (fun v i wr => ∃ (t : Nat) (ds : List (Ms × Value)) (zs : List Int), i = .int .i64 (t : Int) ∧ t ≤ j ∧ Hid (Sn wr (fun g => wB.heap.size ≤ g) v ds) ∧ Hid (ds.map (·.1) = zs.map (fun k => oldm (onR 2 1 k))) ∧ Hid (zs.length ≤ 40 * t ∧ ∀ x, x ∈ zs ↔ ∃ u, u < t ∧ (lN : Int) < x ∧ S u x = true) ∧ Hid (Mod (fun _ => False) wB wr)) (fun _ i _ => j - (intOf i).toNat)
      case atStart => exact ⟨0, [], [], rfl, Nat.zero_le _, Sn.nil _ _, rfl, ⟨Nat.zero_le _, fun x => ⟨(fun h => by cases h), (fun ⟨u, h, _⟩ => absurd h (Nat.not_lt_zero _))⟩⟩, Mod.refl _ _⟩
      case round =>
        obtain ⟨t, ds, zs, rfl, ht, HSN, HZS, HZM, HMC⟩ := hrel
        obtain ⟨wC, eC⟩ : ∃ W, W = wr := ⟨_, rfl⟩
        subst eC
        obtain ⟨asn, csn, rfl⟩ := HSN.out.row.shape
        by_cases htn : t < j
        · have htn' : (t : Int) < (j : Int) := by omega
          have HTN : Hid (t < j) := htn
          have hj6' : (j : Int) ≤ 6 := by have := HNN.out.2; omega
          have ht0 : (0 : Int) ≤ (t : Int) := by omega
          have hWr := HW.out.keep HMC.out
          obtain ⟨gp, op, cp, ep, hrg⟩ := hWr.row.range (by omega)
          cases ep
          have cpt : wC.cell? ⟨gp, op + t, none⟩ = some (.pointer (some ⟨P t, 0, none⟩)) := hrg t _ (pts_get htn)
          obtain ⟨a, h, hwn⟩ := hWr.win t htn
          have HNW := New_jl hwn is21 (fun k hk => by have := HW.out.sb t htn k hk; omega) (by decide) (lN : Int)
          clear hWr hrg hwn htn
          go_wp2_with (fail)
          refine HNW.mono ?_
          rintro e w3 ⟨rb, z1, rfl, hK, hz1, hR, hm3⟩
          obtain ⟨yd, hyd⟩ : ∃ Y : Nat → Prop, Y = (fun i => wC.heap.size ≤ i ∧ i < w3.heap.size) := ⟨_, rfl⟩
          rw [← hyd] at hR
          have HYD : Hid (∀ i, yd i ↔ wC.heap.size ≤ i ∧ i < w3.heap.size) := by rw [hyd]; exact fun i => Iff.rfl
          have HK1 : Hid (Kz (S t) (lN : Int) z1 ∧ z1.length ≤ 40) := ⟨hK, hz1⟩
          have HR3 : Hid (Rg w3 rb yd (z1.map (fun k => oldm (onR 2 1 k)))) := hR
          have HM3 : Hid (Mod (fun _ => False) wC w3) := hm3
          have HS3 : Hid (Sn w3 (fun g => wB.heap.size ≤ g ∧ ¬ yd g) (.slice asn ds.length csn) ds) := (HSN.out.weak (fun g hg h => ⟨h, fun hy => by have := ((HYD.out g).1 hy).1; omega⟩)).keep hm3
          clear HNW hK hz1 hR hm3 hyd
          go_wp2_with (fail)
          go_loopw [16] (fun v wr' => ∃ (ds' : List (Ms × Value)) (zd zr : List Int), Hid (z1 = zd ++ zr) ∧ Hid (Rg wr' rb yd (zr.map (fun k => oldm (onR 2 1 k)))) ∧ Hid (Sn wr' (fun g => wB.heap.size ≤ g ∧ ¬ yd g) v ds') ∧ Hid (ds'.map (·.1) = (zs ++ zd).map (fun k => oldm (onR 2 1 k))) ∧ Hid (Mod (fun _ => False) wB wr') ∧ Hid (w3.heap.size ≤ wr'.heap.size)) (fun v _ => ds.length + z1.length - slen v)
          case atStart => exact ⟨ds, [], z1, rfl, HR3.out, HS3.out, by show _ = _; rw [List.append_nil]; exact HZS.out, HMC.out.and HM3.out, Nat.le_refl _⟩
          case round =>
            obtain ⟨ds', zd, zr, HZ1, HRr, HS, HDS, HMi, HSZ⟩ := hrel
            obtain ⟨am', cm', rfl⟩ := HS.out.row.shape
            have HL := Left_r HRr.out
            cases zr with
            | cons k zr =>
              have hkz := (HK1.out.1.mem k).1 (by rw [HZ1.out]; simp)
              have hk40 := HW.out.sb t HTN.out k hkz.2
              have HKK : Hid (1 ≤ k ∧ k ≤ 100 ∧ (lN : Int) < k) := ⟨by omega, by omega, hkz.1⟩
              have hkl : ¬ k ≤ (lN : Int) := by omega
              obtain ⟨L, eL⟩ : ∃ L : Int, (((k :: zr).map (fun k => oldm (onR 2 1 k))).length : Int) = L := ⟨_, rfl⟩
              have hL0 : 0 < L := by rw [← eL]; simp only [List.map_cons, List.length_cons]; omega
              rw [eL] at HL
              have HN := Next_cons (m := oldm (onR 2 1 k)) (l := zr.map (fun k => oldm (onR 2 1 k))) HRr.out
              unfold mvl at HN
              clear eL hkz hk40
              go_wp2_with (go_at_call 11; refine HL.mono ?_; rintro e w' ⟨rfl, e1⟩; replace e1 := e1.symm; subst e1)
              refine HN.mono ?_
              rintro e w4 ⟨vm, rfl, ho, hg, hrg, hlb, hR4, hm4⟩
              obtain ⟨am, cm, rfl⟩ := ho.shape
              obtain ⟨nm, enm⟩ : ∃ nm, (oldm (onR 2 1 k)).body.length = nm := ⟨_, rfl⟩
              rw [enm] at ho hg ⊢
              have HO4 : Hid (Own w4 (.slice am nm cm) (oldm (onR 2 1 k)).body ∧ (∀ g, (Value.slice am nm cm).ownBlock = some g → wr.heap.size ≤ g) ∧ (∀ c ∈ (oldm (onR 2 1 k)).body, 0 ≤ c ∧ c ≤ 255) ∧ (oldm (onR 2 1 k)).body.length ≤ 140737488355328) := ⟨ho, hg, hrg, hlb⟩
              have HR4 : Hid (Rg w4 rb yd (zr.map (fun k => oldm (onR 2 1 k)))) := hR4
              have HM4 : Hid (Mod (fun _ => False) wB w4 ∧ wr.heap.size ≤ w4.heap.size) := ⟨HMi.out.trans hm4 (V := fun _ => False) (fun _ _ h => h) (fun i hi hy => by have := ((HYD.out i).1 hy).1; have := HMC.out.size; omega), hm4.size⟩
              have HS4 : Hid (Sn w4 (fun g => wB.heap.size ≤ g ∧ ¬ yd g) (.slice am' ds'.length cm') ds') := HS.out.mod hm4 (fun g hg => hg.2)
              clear ho hg hrg hlb hR4 hm4 HN HL enm
              go_upto_region 32 with (refine wpList_store_row infoM rfl rfl _ _ rfl w4.heap.size #[.int .i64 (oldm (onR 2 1 k)).kind, .int .i64 (oldm (onR 2 1 k)).origin, .int .i64 (oldm (onR 2 1 k)).life, .int .i64 (oldm (onR 2 1 k)).id, .int .i64 (oldm (onR 2 1 k)).part, .int .i64 (oldm (onR 2 1 k)).parts, .int .i64 (oldm (onR 2 1 k)).groups, .bool (oldm (onR 2 1 k)).safe, .int .i64 (oldm (onR 2 1 k)).st, .int .i64 (oldm (onR 2 1 k)).rs, .int .i64 (oldm (onR 2 1 k)).rr, .int .i64 (oldm (onR 2 1 k)).sq, .slice am nm cm] rfl rfl (Bk.new w4 _ _) rfl rfl rfl ?_; intro w5 hB5 hm5)
              obtain ⟨mb, emb⟩ : ∃ mb, mb = w4.heap.size := ⟨_, rfl⟩
              rw [← emb] at hB5 ⊢
              have hM45 : Mod (fun _ => False) w4 w5 := ((Mod.refl (fun _ => False) w4).alloc _).trans hm5 (V := fun _ => False) (fun _ _ h => h) (fun i hi e => by omega)
              have k11 : w5.cell? ⟨mb, 11, none⟩ = some (.int .i64 k) := hB5.cellv (j := 11) rfl
              have hA6 := (Mod.refl (fun _ => False) w5).alloc (.cells (mcl (oldm (onR 2 1 k)) (.slice am nm cm)).toArray 39)
              have hSG := SG.lit w5 39 (mcl (oldm (onR 2 1 k)) (.slice am nm cm)) (mcl_one _ am _ cm)
              have hS6 := (HS4.out.keep hM45).keep hA6
              have hRW := hS6.row
              have HM6 : Hid (Mod (fun _ => False) w4 (w5.alloc (.cells (mcl (oldm (onR 2 1 k)) (.slice am nm cm)).toArray 39))) := hM45.and hA6
              have HBN : Hid ((ds'.length + 1) * 120 ≤ 140737488355328 ∧ ds'.length + 1 ≤ 9223372036854775807) := by
                have h1 := congrArg List.length HDS.out
                have h2 := HZM.out.1
                have h3 := HK1.out.2
                have h4 := congrArg List.length HZ1.out
                have h5 := HNN.out.2
                have h6 := HTN.out
                simp only [List.length_map, List.length_append, List.length_cons] at h1 h4
                constructor <;> omega
              have HS6 : Hid (Sn (w5.alloc (.cells (mcl (oldm (onR 2 1 k)) (.slice am nm cm)).toArray 39)) (fun g => wB.heap.size ≤ g ∧ ¬ yd g) (.slice am' ds'.length cm') ds') := hS6
              clear hS6 hA6 hM45 hm5 emb
              unfold mcl at hSG hRW
              go_wp2_with (first
                | (refine wpList_load_row infoM Try.underlying39 rfl rfl _ rfl mb rfl hB5 rfl ?_; simp only [Act.put, List.setIfInBounds_toArray, List.set_cons_succ, List.set_cons_zero])
                | (at_builtin; refine wpList_appG elM rfl _ _ rfl _ _ ds'.length 1 (fm ds') _ rfl rfl hRW hSG HBN.out.1 HBN.out.2 (ds'.length + 1) rfl ?_; intro ax cx w7 hRG7 hm7 hf7))
              have HREL : Hid (Sn w7 (fun g => wB.heap.size ≤ g ∧ ¬ yd g) (.slice ax (ds'.length + 1) cx) (ds' ++ [(oldm (onR 2 1 k), .slice am nm cm)]) ∧ Rg w7 rb yd (zr.map (fun k => oldm (onR 2 1 k))) ∧ (ds' ++ [(oldm (onR 2 1 k), Value.slice am nm cm)]).map (·.1) = (zs ++ (zd ++ [k])).map (fun k => oldm (onR 2 1 k)) ∧ Mod (fun _ => False) wB w7 ∧ w3.heap.size ≤ w7.heap.size ∧ z1 = (zd ++ [k]) ++ zr) := by
                have hs6 := HM6.out.size
                have hs4 := HM4.out
                have hsC := HM4.out.1.size
                have hs3 := HSZ.out
                have hsB := HMC.out.size
                have hsM := HM3.out.size
                refine ⟨HS6.out.more hm7 hRG7 hf7 (fun g hg => ⟨by omega, fun hy => by have := ((HYD.out g).1 hy).2; omega⟩) (HO4.out.1.mod HM6.out (fun _ _ h => h)) (fun g hg => ?_) HO4.out.2.2.1 HO4.out.2.2.2, (HR4.out.keep HM6.out).mod hm7 (fun i hi e => (HS6.out.new i e).2 hi), ?_, (HM4.out.1.and HM6.out).trans hm7 (V := fun _ => False) (fun _ _ h => h) (fun i hi e => ?_), ?_, by rw [HZ1.out]; simp⟩
                · have := HO4.out.2.1 g hg
                  exact ⟨by omega, fun hy => by have := ((HYD.out g).1 hy).2; omega⟩
                · rw [List.map_append, HDS.out, List.map_append, List.map_append, List.map_append, List.append_assoc]
                  rfl
                · have := (HS6.out.new i e).1
                  omega
                · have h7 := Nat.le_trans hs6 hm7.size
                  omega
              clear hRG7 hm7 hf7 hSG hRW hB5 k11
              go_wp2
              go_roundw
              case rel => exact ⟨_, zd ++ [k], zr, HREL.out.2.2.2.2.2, HREL.out.2.1, HREL.out.1, HREL.out.2.2.1, HREL.out.2.2.2.1, HREL.out.2.2.2.2.1⟩
              case measure =>
                have h1 := congrArg List.length HDS.out
                have h4 := congrArg List.length HZ1.out
                have h0 := congrArg List.length HZS.out
                simp only [List.length_map, List.length_append, List.length_cons] at h1 h4 h0
                simp only [slen]
                omega
            | nil =>
              simp only [List.map_nil, List.length_nil] at HL
              have hL0 : ¬ (0 : Int) < ((0 : Nat) : Int) := by omega
              have HZE : Hid (z1 = zd) := by show _ = _; rw [HZ1.out, List.append_nil]
              have HREL : Hid (Sn wr (fun g => wB.heap.size ≤ g) (.slice am' ds'.length cm') ds' ∧ ds'.map (·.1) = (zs ++ zd).map (fun k => oldm (onR 2 1 k)) ∧ ((zs ++ zd).length ≤ 40 * (t + 1) ∧ ∀ x, x ∈ zs ++ zd ↔ ∃ u, u < t + 1 ∧ (lN : Int) < x ∧ S u x = true) ∧ Mod (fun _ => False) wB wr) := by
                refine ⟨HS.out.weak (fun g _ h => h.1), HDS.out, ⟨?_, fun x => ?_⟩, HMi.out⟩
                · have h1 := HZM.out.1
                  have h2 := HK1.out.2
                  rw [HZE.out] at h2
                  rw [List.length_append]
                  omega
                · rw [List.mem_append, HZM.out.2, ← HZE.out, HK1.out.1.mem]
                  constructor
                  · rintro (⟨u, h1, h2⟩ | h)
                    · exact ⟨u, by omega, h2⟩
                    · exact ⟨t, by omega, h⟩
                  · rintro ⟨u, h1, h2⟩
                    by_cases e : u = t
                    · subst e; exact .inr h2
                    · exact .inl ⟨u, by omega, h2⟩
              go_wp2_with (go_at_call 11; refine HL.mono ?_; rintro e w' ⟨rfl, e1⟩; replace e1 := e1.symm; subst e1)
              go_roundw
              case rel => exact ⟨t + 1, ds', zs ++ zd, by go_num, HTN.out, HREL.out.1, HREL.out.2.1, HREL.out.2.2.1, HREL.out.2.2.2⟩
              case measure =>
                have := HTN.out
                simp [intOf]
                omega
        · have htn' : ¬ (t : Int) < (j : Int) := by omega
          obtain rfl : t = j := by omega
          clear htn ht
          have HSN1 : Hid (Sn wC (fun g => wB.heap.size ≤ g ∧ g < wC.heap.size) (.slice asn ds.length csn) ds) := HSN.out.weak (fun g hg h => ⟨h, hg⟩)
          have HD : Hid (ds.length ≤ 240 ∧ ds.length = zs.length) := by
            have h1 := congrArg List.length HZS.out
            have h2 := HZM.out.1
            have h3 := HNN.out.2
            simp only [List.length_map] at h1
            constructor <;> omega
          have hdI : (ds.length : Int) ≤ 240 := by have := HD.out.1; omega
          have HM1C : Hid (Mod (fun _ => False) w1 wC ∧ w1.heap.size ≤ wB.heap.size ∧ wB.heap.size ≤ wC.heap.size) := ⟨HMr.out.and HMC.out, HMr.out.size, HMC.out.size⟩
          go_wp2_with (fail)
          go_loopw [22] (fun i wr => ∃ (u : Nat) (X' : Nat → Nat → Prop), i = .int .i64 (u : Int) ∧ u ≤ t ∧ Hid (Ws wr (.slice av t cv) t P X' (fun v => if v < u then sB all 40 else S v) (40 + ds.length * u) w1.heap.size) ∧ Hid (∀ v, v < t → ∀ g, X' v g → g < wB.heap.size ∨ wC.heap.size ≤ g) ∧ Hid (Mod (fun _ => False) w1 wr) ∧ Hid (wC.heap.size ≤ wr.heap.size) ∧ Hid (Sn wr (fun g => wB.heap.size ≤ g ∧ g < wC.heap.size) (.slice asn ds.length csn) ds)) (fun i _ => t - (intOf i).toNat)
          case atStart => exact ⟨0, X, rfl, Nat.zero_le _, ((HW.out.keep HMC.out).same (fun v _ => by simp)).more (by omega), fun v hv g hg => .inl (HW.out.lt v hv g hg), HM1C.out.1, Nat.le_refl _, HSN1.out⟩
          case round =>
            obtain ⟨u, X', rfl, hu, HWD, HXD, HMD, HSD, HND⟩ := hrel
            obtain ⟨wD, eD⟩ : ∃ W, W = wr := ⟨_, rfl⟩
            subst eD
            by_cases hut : u < t
            · have hut' : (u : Int) < (t : Int) := by omega
              have HUT : Hid (u < t) := hut
              have hu0 : (0 : Int) ≤ (u : Int) := by omega
              have hu6 : (u : Int) + 1 ≤ 6 := by have := HNN.out.2; omega
              have hR0 := RG.nil wD 39 13
              have hSG := SG.of HND.out.row (fm_one ds fun d hd => by
                obtain ⟨a5, c5, e5⟩ := (HND.out.each d hd).1.shape
                rw [e5]; rfl)
              have HBN : Hid ((0 + ds.length) * 120 ≤ 140737488355328 ∧ 0 + ds.length ≤ 9223372036854775807 ∧ ds.length = 0 + ds.length) := by
                have := HD.out.1
                refine ⟨?_, ?_, ?_⟩ <;> omega
              go_wp2_with (at_builtin; refine wpList_appG elM rfl _ _ rfl _ _ 0 ds.length [] (fm ds) rfl rfl hR0 hSG HBN.out.1 HBN.out.2.1 ds.length HBN.out.2.2 ?_; intro al cl wl hRGl hml0 hfl)
              have hml : Mod (fun _ => False) wD wl := hml0.mono (fun k _ e => by have h2 : (none : Option Nat) = some k := e; cases h2)
              rw [List.nil_append] at hRGl
              have HRL : Hid (RG wl 39 13 (.slice al ds.length cl) ds.length (fm ds)) := hRGl
              have HLB : Hid (∀ g, (Value.slice al ds.length cl).ownBlock = some g → wD.heap.size ≤ g ∧ g < wl.heap.size) := fun g hg => by
                rcases hfl g hg with h1 | h1
                · have h2 : (none : Option Nat) = some g := h1
                  cases h2
                · exact ⟨h1, hRGl.lt g hg⟩
              have HML : Hid (Mod (fun _ => False) wD wl) := hml
              clear hml0 hfl hRGl hml hR0 hSG
              go_wp2_with (fail)
              go_loopw [24] (fun k wr => ∃ (q : Nat) (X2 : Nat → Nat → Prop) (dl : List (Ms × Value)), k = .int .i64 (q : Int) ∧ q ≤ ds.length ∧ Hid (dl.Perm ds) ∧ Hid (RG wr 39 13 (.slice al ds.length cl) ds.length (fm dl)) ∧ Hid (Ws wr (.slice av t cv) t P X2 (up (fun v => if v < u then sB all 40 else S v) u (insL (S u) ((dl.take q).map (·.1.sq)))) (40 + ds.length * u + q) w1.heap.size) ∧ Hid (∀ v, v < t → ∀ g, X2 v g → g < wB.heap.size ∨ (wC.heap.size ≤ g ∧ g < wD.heap.size) ∨ wl.heap.size ≤ g) ∧ Hid (Mod (fun _ => False) w1 wr) ∧ Hid (wl.heap.size ≤ wr.heap.size) ∧ Hid (Sn wr (fun g => wB.heap.size ≤ g ∧ g < wC.heap.size) (.slice asn ds.length csn) ds)) (fun k _ => ds.length - (intOf k).toNat)
              case atStart =>
                refine ⟨0, X', ds, rfl, Nat.zero_le _, List.Perm.refl _, HRL.out, ((HWD.out.keep HML.out).same (fun v _ => ?_)).more (by omega), fun v hv g hg => ?_, HMD.out.and HML.out, Nat.le_refl _, HND.out.keep HML.out⟩
                · by_cases e : v = u
                  · subst e
                    rw [up_same, if_neg (by omega)]
                    rfl
                  · rw [up_ne _ _ e]
                · have := HWD.out.lt v hv g hg
                  rcases HXD.out v hv g hg with h1 | h1
                  · exact .inl h1
                  · exact .inr (.inl ⟨h1, this⟩)
              case round =>
                obtain ⟨q, X2, dl, rfl, hq, HPE, HRR, HWE, HXE, HME, HSE, HNE⟩ := hrel
                by_cases hqd : q < ds.length
                · have hqd' : (q : Int) < (ds.length : Int) := by omega
                  have HQD : Hid (q < ds.length) := hqd
                  have hq0 : (0 : Int) ≤ (q : Int) := by omega
                  have hq1 : (q : Int) + 1 ≤ 240 := by omega
                  have hdl : dl.length = ds.length := HPE.out.length_eq
                  obtain ⟨lb, lo, cl', ev, hrg⟩ := HRR.out.range (by omega)
                  cases ev
                  clear hrg
                  have HDL : Hid (dl.length = ds.length) := hdl
                  obtain ⟨we, ee⟩ : ∃ W, W = wr := ⟨_, rfl⟩
                  subst ee
                  go_upto_if 141 with (fail)
                  go_cut [] (fun wx => (∃ dl' : List (Ms × Value), dl'.Perm ds ∧ dl'.take q = dl.take q ∧ RG wx 39 13 (.slice (some ⟨lb, lo, none⟩) ds.length cl) ds.length (fm dl')) ∧ Mod (fun g => g = lb) we wx)
                  case first =>
                    by_cases hqT : q < T.length
                    · have hqT' : (q : Int) < (T.length : Int) := by omega
                      have hTe := HT.out.mod ((HM1.out.and HME.out))
                      obtain ⟨a2', c2', e, _, hc2, _, hcell⟩ := hTe.form
                      cases e
                      obtain ⟨tb, tof, rfl, hc⟩ := hcell (by intro e; rw [e] at hqT; simp at hqT)
                      have hcT := hc q hqT
                      have hiT : I64 (T.getD q 0) := by
                        refine hTe.rng _ ?_
                        rw [show T.getD q 0 = T[q] by simp [List.getD, List.getElem?_eq_getElem hqT]]
                        exact List.getElem_mem hqT
                      obtain ⟨tv, etv⟩ : ∃ tv, T.getD q 0 = tv := ⟨_, rfl⟩
                      rw [etv] at hcT hiT
                      have hTl : (T.length : Int) ≤ 9223372036854775807 := by simp only [maxLen] at hc2; have := hTe.form; obtain ⟨_, _, e, h1, _⟩ := this; cases e; omega
                      clear hTe hcell hc etv hc2
                      go_wp2_with (fail)
                      refine (bring_at _ (ds.length - q) _ ?_ _ ?_ ?_ ?_).mono ?_
                      · have := HQD.out; omega
                      · have := HQD.out; omega
                      · have := HD.out.1; omega
                      · exact wrap64_I64 _
                      rintro e we' ⟨rfl, e1⟩
                      replace e1 := e1.symm
                      subst e1
                      have eqd : (ds.length : Int) - (q : Int) = ((ds.length - q : Nat) : Int) := by have := HQD.out; omega
                      have hbr := br_rng (wrap64 (tv + (u : Int))) (ds.length - q) (by have := HQD.out; omega)
                      rw [← eqd] at hbr
                      obtain ⟨r, er⟩ : ∃ r : Nat, br (wrap64 (tv + (u : Int))) ((ds.length : Int) - (q : Int)) = (r : Int) := ⟨(br (wrap64 (tv + (u : Int))) ((ds.length : Int) - (q : Int))).toNat, by have := hbr.1; omega⟩
                      rw [er] at hbr ⊢
                      obtain ⟨jn, ejn⟩ : ∃ jn, q + r = jn := ⟨_, rfl⟩
                      have HJN : Hid (q ≤ jn ∧ jn < ds.length) := by show _ ∧ _; have := hbr.2.1; constructor <;> omega
                      have hjq : (q : Int) + (r : Int) = (jn : Int) := by omega
                      have hjI : (jn : Int) < (ds.length : Int) := by have := HJN.out; omega
                      have hj0 : (0 : Int) ≤ (jn : Int) := by omega
                      obtain ⟨x, hx⟩ : ∃ x, dl[q]? = some x := ⟨dl[q]'(by rw [HDL.out]; exact HQD.out), List.getElem?_eq_getElem _⟩
                      obtain ⟨y, hy⟩ : ∃ y, dl[jn]? = some y := ⟨dl[jn]'(by rw [HDL.out]; exact HJN.out.2), List.getElem?_eq_getElem _⟩
                      obtain ⟨ax, cx, ex⟩ := (HNE.out.each x (HPE.out.mem_iff.1 (List.mem_of_getElem? hx))).1.shape
                      obtain ⟨ay, cy, ey⟩ := (HNE.out.each y (HPE.out.mem_iff.1 (List.mem_of_getElem? hy))).1.shape
                      obtain ⟨mx, vx⟩ := x
                      obtain ⟨my, vy⟩ := y
                      simp only at ex ey
                      subst ex ey
                      have HXY : Hid (dl[q]? = some (mx, .slice ax mx.body.length cx) ∧ dl[jn]? = some (my, .slice ay my.body.length cy)) := ⟨hx, hy⟩
                      have hrq := HRR.out.atk HQD.out hx
                      have hrj := HRR.out.atk HJN.out.2 hy
                      have hthq := HRR.out.therek HQD.out
                      clear hx hy hbr er eqd hiT hcT hTl ejn
                      go_upto_region 45 with (first
                        | (refine wpList_load_at infoM Try.underlying39 rfl rfl _ rfl lb (lo + q * 13) rfl _ hrq rfl ?_; unfold mcl; simp only [Act.put, List.setIfInBounds_toArray, List.set_cons_succ, List.set_cons_zero])
                        | (refine wpList_store_row infoM rfl rfl _ _ rfl we.heap.size #[.int .i64 (mx).kind, .int .i64 (mx).origin, .int .i64 (mx).life, .int .i64 (mx).id, .int .i64 (mx).part, .int .i64 (mx).parts, .int .i64 (mx).groups, .bool (mx).safe, .int .i64 (mx).st, .int .i64 (mx).rs, .int .i64 (mx).rr, .int .i64 (mx).sq, .slice ax mx.body.length cx] rfl rfl (Bk.new we _ _) rfl rfl rfl ?_; intro w5 hB5 hm5))
                      have hlbs : lb < we.heap.size := HRR.out.lt lb rfl
                      obtain ⟨xb, exb⟩ : ∃ xb, xb = we.heap.size := ⟨_, rfl⟩
                      rw [← exb] at hB5 ⊢
                      have hM5 : Mod (fun _ => False) we w5 := ((Mod.refl (fun _ => False) we).alloc _).trans hm5 (V := fun _ => False) (fun _ _ h => h) (fun i hi e => by omega)
                      have hrj5 : w5.rangeAt lb (lo + jn * 13) (mcl my (.slice ay my.body.length cy)) := fun t c ht => hM5.cell (hrj t c ht) (fun h => h)
                      have hR5 := HRR.out.mod hM5 (fun _ _ h => h)
                      have hth5 := hR5.therek HQD.out
                      have hR6 := hR5.setk HDL.out HQD.out (my, .slice ay my.body.length cy)
                      have hm6 := setCells_mod lb (mcl my (.slice ay my.body.length cy)) (lo + q * 13) w5
                      have hB6 := hB5.mod hm6 (fun e => by omega)
                      have hth6 := hR6.therek HJN.out.2
                      have hR7 := hR6.setk (by rw [List.length_set]; exact HDL.out) HJN.out.2 (mx, .slice ax mx.body.length cx)
                      have hm7 := setCells_mod lb (mcl mx (.slice ax mx.body.length cx)) (lo + jn * 13) (w5.setCells lb (lo + q * 13) (mcl my (.slice ay my.body.length cy)))
                      have HFIN : Hid ((∃ dl' : List (Ms × Value), dl'.Perm ds ∧ dl'.take q = dl.take q ∧ RG ((w5.setCells lb (lo + q * 13) (mcl my (.slice ay my.body.length cy))).setCells lb (lo + jn * 13) (mcl mx (.slice ax mx.body.length cx))) 39 13 (.slice (some ⟨lb, lo, none⟩) ds.length cl) ds.length (fm dl')) ∧ Mod (fun g => g = lb) we ((w5.setCells lb (lo + q * 13) (mcl my (.slice ay my.body.length cy))).setCells lb (lo + jn * 13) (mcl mx (.slice ax mx.body.length cx)))) := by
                        refine ⟨⟨_, (perm_swap HXY.out.1 HXY.out.2).trans HPE.out, ?_, hR7⟩, (hM5.none.trans hm6 (V := fun g => g = lb) (fun _ _ h => h) (fun _ _ h => h)).trans hm7 (fun _ _ h => h) (fun _ _ h => h)⟩
                        rw [List.take_set_of_le HJN.out.1, List.take_set_of_le (Nat.le_refl _)]
                      clear hR5 hR6 hR7 hm6 hm7 hM5 hm5 hrq hrj hB5 exb hthq
                      go_upto_region 46 with (first
                        | (refine wpList_load_at infoM Try.underlying39 rfl rfl _ rfl lb (lo + jn * 13) rfl _ hrj5 rfl ?_; unfold mcl; simp only [Act.put, List.setIfInBounds_toArray, List.set_cons_succ, List.set_cons_zero])
                        | (refine wpList_store_anyL infoM rfl rfl _ _ rfl lb (lo + q * 13) (mcl my (.slice ay my.body.length cy)) rfl rfl hth5 rfl rfl ?_))
                      generalize w5.setCells lb (lo + q * 13) (mcl my (.slice ay my.body.length cy)) = w6 at *
                      go_wp2_with (first
                        | (refine wpList_load_row infoM Try.underlying39 rfl rfl _ rfl xb rfl hB6 rfl ?_; simp only [Act.put, List.setIfInBounds_toArray, List.set_cons_succ, List.set_cons_zero])
                        | (refine wpList_store_anyL infoM rfl rfl _ _ rfl lb (lo + jn * 13) (mcl mx (.slice ax mx.body.length cx)) rfl rfl hth6 rfl rfl ?_))
                      go_meet
                      exact HFIN.out
                    · have hqT' : ¬ (q : Int) < (T.length : Int) := by omega
                      go_wp2
                      go_meet
                      exact ⟨⟨dl, HPE.out, rfl, HRR.out⟩, Mod.refl _ _⟩
                  case rest =>
                  obtain ⟨⟨dl', hp', htk, hR'⟩, hmw⟩ := hcut
                  generalize wc = wf at *
                  have hlb := HLB.out lb rfl
                  have hb1 := HM1C.out.2.1
                  have hb2 := HM1C.out.2.2
                  have hb3 := HSD.out
                  have hWw := HWE.out.mod hmw (fun k e => ⟨fun i hi hx => by
                    subst e
                    rcases HXE.out i hi k hx with h1 | h1 | h1 <;> omega, fun hx => by
                    subst e
                    have := HW.out.row.lt k hx
                    omega⟩)
                  obtain ⟨z, hz⟩ : ∃ z, dl'[q]? = some z := ⟨dl'[q]'(by rw [hp'.length_eq]; exact HQD.out), List.getElem?_eq_getElem _⟩
                  obtain ⟨mz, vz⟩ := z
                  have hzm := hp'.mem_iff.1 (List.mem_of_getElem? hz)
                  obtain ⟨zk, hzk, hzs⟩ : ∃ zk, mz = oldm (onR 2 1 zk) ∧ zk ∈ zs := by
                    have h1 : mz ∈ ds.map (·.1) := List.mem_map_of_mem hzm
                    rw [HZS.out] at h1
                    obtain ⟨zk, h2, h3⟩ := List.mem_map.1 h1
                    exact ⟨zk, h3.symm, h2⟩
                  subst hzk
                  have hzr : 1 ≤ zk ∧ zk ≤ 100 ∧ zk ≤ 40 := by
                    obtain ⟨u', h1, _, h2⟩ := (HZM.out.2 zk).1 hzs
                    have := HW.out.sb u' h1 zk h2
                    exact ⟨this.1, by omega, this.2⟩
                  obtain ⟨zo, _, zr, zl⟩ := HNE.out.each _ hzm
                  simp only at zo zr zl
                  obtain ⟨az, cz, ez⟩ := zo.shape
                  subst ez
                  have hnf := HNE.out.mod hmw (fun g hg e => by omega)
                  have zof := (hnf.each _ hzm).1
                  obtain ⟨lz, elz⟩ : ∃ lz, (oldm (onR 2 1 zk)).body.length = lz := ⟨_, rfl⟩
                  simp only at zof
                  rw [elz] at zof hz
                  have hrz := hR'.atk HQD.out hz
                  obtain ⟨gp, opp, cp, ep, hrgp⟩ := hWw.row.range (by omega)
                  cases ep
                  have cpt : wf.cell? ⟨gp, opp + u, none⟩ = some (.pointer (some ⟨P u, 0, none⟩)) := hrgp u _ (pts_get HUT.out)
                  have HWF : Hid (Ws wf (.slice (some ⟨gp, opp, none⟩) t cv) t P X2 (up (fun v => if v < u then sB all 40 else S v) u (insL (S u) ((dl.take q).map (·.1.sq)))) (40 + ds.length * u + q) w1.heap.size) := hWw
                  have HOF : Hid (Own wf (.slice az lz cz) (oldm (onR 2 1 zk)).body ∧ (∀ c ∈ (oldm (onR 2 1 zk)).body, 0 ≤ c ∧ c ≤ 255)) := ⟨zof, zr⟩
                  have HSF : Hid (Sn wf (fun g => wB.heap.size ≤ g ∧ g < wC.heap.size) (.slice asn ds.length csn) ds) := hnf
                  have HZZ : Hid (1 ≤ zk ∧ zk ≤ 100 ∧ zk ≤ 40) := hzr
                  have HP2 : Hid (dl'.Perm ds ∧ dl'.take q = dl.take q ∧ dl'[q]? = some (oldm (onR 2 1 zk), .slice az lz cz)) := ⟨hp', htk, hz⟩
                  have HRF : Hid (RG wf 39 13 (.slice (some ⟨lb, lo, none⟩) ds.length cl) ds.length (fm dl')) := hR'
                  have HMF : Hid (Mod (fun _ => False) w1 wf ∧ wl.heap.size ≤ wf.heap.size) := ⟨HME.out.trans hmw (V := fun _ => False) (fun _ _ h => h) (fun i hi e => by omega), Nat.le_trans HSE.out hmw.size⟩
                  have HLX : Hid (¬ X2 u lb ∧ ¬ X2 u gp) := ⟨fun hx => by rcases HXE.out u HUT.out lb hx with h1 | h1 | h1 <;> omega, fun hx => hWw.rx u HUT.out gp rfl hx⟩
                  have HF : ∀ W, Mod (X2 u) wf W → (W.cell? ⟨gp, opp + u, none⟩ = some (.pointer (some ⟨P u, 0, none⟩)) ∧ W.cell? ⟨lb, lo + q * 13, none⟩ = some (.int .i64 (oldm (onR 2 1 zk)).kind) ∧ W.cell? ⟨lb, lo + q * 13 + 1, none⟩ = some (.int .i64 (oldm (onR 2 1 zk)).origin) ∧ W.cell? ⟨lb, lo + q * 13 + 2, none⟩ = some (.int .i64 (oldm (onR 2 1 zk)).life) ∧ W.cell? ⟨lb, lo + q * 13 + 3, none⟩ = some (.int .i64 (oldm (onR 2 1 zk)).id) ∧ W.cell? ⟨lb, lo + q * 13 + 4, none⟩ = some (.int .i64 (oldm (onR 2 1 zk)).part) ∧ W.cell? ⟨lb, lo + q * 13 + 5, none⟩ = some (.int .i64 (oldm (onR 2 1 zk)).parts) ∧ W.cell? ⟨lb, lo + q * 13 + 6, none⟩ = some (.int .i64 (oldm (onR 2 1 zk)).groups) ∧ W.cell? ⟨lb, lo + q * 13 + 7, none⟩ = some (.bool (oldm (onR 2 1 zk)).safe) ∧ W.cell? ⟨lb, lo + q * 13 + 8, none⟩ = some (.int .i64 (oldm (onR 2 1 zk)).st) ∧ W.cell? ⟨lb, lo + q * 13 + 9, none⟩ = some (.int .i64 (oldm (onR 2 1 zk)).rs) ∧ W.cell? ⟨lb, lo + q * 13 + 10, none⟩ = some (.int .i64 (oldm (onR 2 1 zk)).rr) ∧ W.cell? ⟨lb, lo + q * 13 + 11, none⟩ = some (.int .i64 (oldm (onR 2 1 zk)).sq) ∧ W.cell? ⟨lb, lo + q * 13 + 12, none⟩ = some (.slice az lz cz)) := fun W hW => ⟨hW.cell cpt HLX.out.2, hW.cell (hrz 0 _ rfl) HLX.out.1, hW.cell (hrz 1 _ rfl) HLX.out.1, hW.cell (hrz 2 _ rfl) HLX.out.1, hW.cell (hrz 3 _ rfl) HLX.out.1, hW.cell (hrz 4 _ rfl) HLX.out.1, hW.cell (hrz 5 _ rfl) HLX.out.1, hW.cell (hrz 6 _ rfl) HLX.out.1, hW.cell (hrz 7 _ rfl) HLX.out.1, hW.cell (hrz 8 _ rfl) HLX.out.1, hW.cell (hrz 9 _ rfl) HLX.out.1, hW.cell (hrz 10 _ rfl) HLX.out.1, hW.cell (hrz 11 _ rfl) HLX.out.1, hW.cell (hrz 12 _ rfl) HLX.out.1⟩
                  have HTK : ∀ W, Mod (fun _ => False) wf W → Calls Try.prog 13 #[.pointer (some ⟨P u, 0, none⟩), .agg #[.int .i64 2, .int .i64 1], .agg #[.int .i64 (oldm (onR 2 1 zk)).kind, .int .i64 (oldm (onR 2 1 zk)).origin, .int .i64 (oldm (onR 2 1 zk)).life, .int .i64 (oldm (onR 2 1 zk)).id, .int .i64 (oldm (onR 2 1 zk)).part, .int .i64 (oldm (onR 2 1 zk)).parts, .int .i64 (oldm (onR 2 1 zk)).groups, .bool (oldm (onR 2 1 zk)).safe, .int .i64 (oldm (onR 2 1 zk)).st, .int .i64 (oldm (onR 2 1 zk)).rs, .int .i64 (oldm (onR 2 1 zk)).rr, .int .i64 (oldm (onR 2 1 zk)).sq, .slice az lz cz]] W fun e w' => ∃ X' a' h' bb, e = .returned (.tuple #[.bool bb, .int .i64 0]) ∧ Wn w' (P u) X' (jOf 2 1 (ins (insL (S u) ((dl.take q).map (·.1.sq))) zk)) a' h' (40 + ds.length * u + q + 1) ∧ Mod (X2 u) W w' ∧ Gone W (X2 u) X' := fun W hW => by
                    obtain ⟨a, h, hwn⟩ := (HWF.out.keep hW).win u HUT.out
                    rw [up_same] at hwn
                    refine (Take_j hwn is21 cr21 zk ⟨HZZ.out.1, HZZ.out.2.1⟩ 2 1 (.slice az lz cz) ((HOF.out.1.mod hW (fun _ _ h => h)).sl HOF.out.2) (by
                      have h1 := HD.out.1
                      have h2 := HUT.out
                      have h3 := HNN.out.2
                      have h4 := HQD.out
                      have : ds.length * u ≤ 240 * 6 := Nat.mul_le_mul h1 (by omega)
                      omega)).mono ?_
                    rintro e w' ⟨X', a', rfl, h1, h2, h3⟩
                    exact ⟨X', a', _, _, rfl, h1, h2, h3⟩
                  obtain ⟨p0, z0, z1', z2, z3, z4, z5, z6, z7, z8, z9, z10, z11, z12⟩ := HF wf (Mod.refl _ _)
                  clear hrz hrgp cpt hWw zof hnf hzr hzm hzs zo zr zl hz hp' htk hR' hmw hlb hb1 hb2 hb3
                  go_upto_region 47 with (fail)
                  go_region_held3 (fun U => U.cell? ⟨gp, opp + u, none⟩ = some (.pointer (some ⟨P u, 0, none⟩)) ∧ U.cell? ⟨lb, lo + q * 13, none⟩ = some (.int .i64 (oldm (onR 2 1 zk)).kind) ∧ U.cell? ⟨lb, lo + q * 13 + 1, none⟩ = some (.int .i64 (oldm (onR 2 1 zk)).origin) ∧ U.cell? ⟨lb, lo + q * 13 + 2, none⟩ = some (.int .i64 (oldm (onR 2 1 zk)).life) ∧ U.cell? ⟨lb, lo + q * 13 + 3, none⟩ = some (.int .i64 (oldm (onR 2 1 zk)).id) ∧ U.cell? ⟨lb, lo + q * 13 + 4, none⟩ = some (.int .i64 (oldm (onR 2 1 zk)).part) ∧ U.cell? ⟨lb, lo + q * 13 + 5, none⟩ = some (.int .i64 (oldm (onR 2 1 zk)).parts) ∧ U.cell? ⟨lb, lo + q * 13 + 6, none⟩ = some (.int .i64 (oldm (onR 2 1 zk)).groups) ∧ U.cell? ⟨lb, lo + q * 13 + 7, none⟩ = some (.bool (oldm (onR 2 1 zk)).safe) ∧ U.cell? ⟨lb, lo + q * 13 + 8, none⟩ = some (.int .i64 (oldm (onR 2 1 zk)).st) ∧ U.cell? ⟨lb, lo + q * 13 + 9, none⟩ = some (.int .i64 (oldm (onR 2 1 zk)).rs) ∧ U.cell? ⟨lb, lo + q * 13 + 10, none⟩ = some (.int .i64 (oldm (onR 2 1 zk)).rr) ∧ U.cell? ⟨lb, lo + q * 13 + 11, none⟩ = some (.int .i64 (oldm (onR 2 1 zk)).sq) ∧ U.cell? ⟨lb, lo + q * 13 + 12, none⟩ = some (.slice az lz cz)) (first | exact ⟨p0, z0, z1', z2, z3, z4, z5, z6, z7, z8, z9, z10, z11, z12⟩ | go_keep) (first
                    | (go_at_call 14; with_reducible refine (old_any _).mono ?_; rintro e wg ⟨rfl, hmg⟩; obtain ⟨p0, z0, z1', z2, z3, z4, z5, z6, z7, z8, z9, z10, z11, z12⟩ := HF _ ((((Mod.refl (fun _ => False) wf).drew).and hmg).none))
                    | (go_at_call 13; with_reducible refine (HTK _ (((Mod.refl (fun _ => False) wf).drew).and hmg)).mono ?_; rintro e wh ⟨Xh, ah, hh, bb, rfl, hwh, hmh, hgh⟩; obtain ⟨p0, z0, z1', z2, z3, z4, z5, z6, z7, z8, z9, z10, z11, z12⟩ := HF _ ((((Mod.refl (fun _ => False) wf).drew).and hmg).none.trans hmh (V := X2 u) (fun _ _ h => h) (fun _ _ h => h))))
                  have hdg := ((Mod.refl (fun _ => False) wf).drew).and hmg
                  have HREL : Hid (Ws wh (.slice (some ⟨gp, opp, none⟩) t cv) t P (up X2 u Xh) (up (fun v => if v < u then sB all 40 else S v) u (insL (S u) ((dl'.take (q + 1)).map (·.1.sq)))) (40 + ds.length * u + (q + 1)) w1.heap.size ∧ (∀ v, v < t → ∀ g, up X2 u Xh v g → g < wB.heap.size ∨ (wC.heap.size ≤ g ∧ g < wD.heap.size) ∨ wl.heap.size ≤ g) ∧ Mod (fun _ => False) w1 wh ∧ wl.heap.size ≤ wh.heap.size ∧ Sn wh (fun g => wB.heap.size ≤ g ∧ g < wC.heap.size) (.slice asn ds.length csn) ds ∧ RG wh 39 13 (.slice (some ⟨lb, lo, none⟩) ds.length cl) ds.length (fm dl')) := by
                    have hb1 := HM1C.out.2.1
                    have hb2 := HM1C.out.2.2
                    have hb3 := HSD.out
                    have hmf := HMF.out
                    have hsg := hdg.size
                    have hsh := hmh.size
                    have hs1 := hmf.1.size
                    have hml := HML.out.size
                    refine ⟨((HWF.out.keep hdg).turn HUT.out hwh hmh hgh (fun k hk => ?_) (by omega) (Nat.le_succ _)).same (fun v hv => ?_), fun v hv g hg => ?_, (hmf.1.and hdg).trans hmh (V := fun _ => False) (fun _ _ h => h) (fun i hi hx => by have := HWF.out.new u HUT.out i hx; omega), by omega, (HSF.out.keep hdg).mod hmh (fun g hg hx => by rcases HXE.out u HUT.out g hx with h1 | h1 | h1 <;> omega), (HRF.out.mod hdg (fun _ _ h => h)).mod hmh (fun g hg hx => by cases hg; exact HLX.out.1 hx)⟩
                    · simp only [ins, Bool.or_eq_true, beq_iff_eq] at hk
                      rcases hk with hk | hk
                      · have := HWF.out.sb u HUT.out k (by rw [up_same]; exact hk)
                        exact this
                      · subst hk
                        exact ⟨HZZ.out.1, HZZ.out.2.2⟩
                    · by_cases e : v = u
                      · subst e
                        rw [up_same, up_same, List.take_add_one, HP2.out.2.2, HP2.out.2.1, List.map_append]
                        exact (insL_app _ _ zk).symm
                      · rw [up_ne _ _ e, up_ne _ _ e, up_ne _ _ e]
                    · by_cases e : v = u
                      · subst e
                        rw [up_same] at hg
                        rcases hgh g hg with h1 | h1
                        · exact HXE.out v hv g h1
                        · exact .inr (.inr (by omega))
                      · rw [up_ne _ _ e] at hg
                        exact HXE.out v hv g hg
                  clear hdg hmg hmh hwh hgh HTK HF p0 z0 z1' z2 z3 z4 z5 z6 z7 z8 z9 z10 z11 z12
                  go_wp2
                  go_roundw
                  case rel => exact ⟨q + 1, _, dl', by go_num, HQD.out, HP2.out.1, HREL.out.2.2.2.2.2, HREL.out.1, HREL.out.2.1, HREL.out.2.2.1, HREL.out.2.2.2.1, HREL.out.2.2.2.2.1⟩
                  case measure =>
                    have := HQD.out
                    simp [intOf]
                    omega
                · have hqd' : ¬ (q : Int) < (ds.length : Int) := by omega
                  have HREL : Hid (Ws wr (.slice av t cv) t P X2 (fun v => if v < u + 1 then sB all 40 else S v) (40 + ds.length * (u + 1)) w1.heap.size ∧ (∀ v, v < t → ∀ g, X2 v g → g < wB.heap.size ∨ wC.heap.size ≤ g) ∧ Mod (fun _ => False) w1 wr ∧ wC.heap.size ≤ wr.heap.size ∧ Sn wr (fun g => wB.heap.size ≤ g ∧ g < wC.heap.size) (.slice asn ds.length csn) ds) := by
                    have hs1 := HML.out.size
                    have hs2 := HSD.out
                    have hs3 := HSE.out
                    have hqe : q = ds.length := by omega
                    have htk : dl.take q = dl := by rw [hqe, ← HPE.out.length_eq, List.take_length]
                    have hmem : ∀ x, x ∈ dl.map (·.1.sq) ↔ x ∈ zs := fun x => by
                      have h1 : (dl.map (·.1.sq)).Perm (ds.map (·.1.sq)) := HPE.out.map _
                      have h2 : ds.map (·.1.sq) = zs := by
                        have := congrArg (List.map Ms.sq) HZS.out
                        rw [List.map_map, List.map_map] at this
                        rw [show (ds.map (·.1.sq)) = ds.map (Ms.sq ∘ fun x => x.1) from rfl, this]
                        exact List.map_id _
                      rw [h1.mem_iff, h2]
                    refine ⟨(HWE.out.same (fun v hv => ?_)).more (by rw [hqe, Nat.mul_succ]; omega), fun v hv g hg => ?_, HME.out, by omega, HNE.out⟩
                    · by_cases e : v = u
                      · subst e
                        rw [up_same, if_pos (by omega), htk, HES.out, ← HALL.out]
                        exact all_have hv (fun x => by rw [HZM.out.2, HES.out]) hmem
                      · rw [up_ne _ _ e]
                        by_cases e2 : v < u
                        · rw [if_pos e2, if_pos (by omega)]
                        · rw [if_neg e2, if_neg (by omega)]
                    · rcases HXE.out v hv g hg with h1 | h1 | h1
                      · exact .inl h1
                      · exact .inr h1.1
                      · exact .inr (by omega)
                  clear HWE HXE HRR
                  go_wp2
                  go_roundw
                  case rel => exact ⟨u + 1, X2, by go_num, HUT.out, HREL.out.1, HREL.out.2.1, HREL.out.2.2.1, HREL.out.2.2.2.1, HREL.out.2.2.2.2⟩
                  case measure =>
                    have := HUT.out
                    simp [intOf]
                    omega
            · have hut' : ¬ (u : Int) < (t : Int) := by omega
              obtain rfl : t = u := by omega
              clear hut hu
              have HA64 : Hid (all < 2 ^ 64) := by
                show all < 2 ^ 64
                rw [← HALL.out]
                exact Nat.lt_trans (aN_lt (by have := HLN.out; omega) _) (by decide)
              replace HWD : Hid (Ws wD (.slice av t cv) t P X' (fun _ => sB all 40) (40 + ds.length * t) w1.heap.size) := HWD.out.same (fun v hv => by simp [hv])
              have HN : Hid (40 + ds.length * t ≤ 1000000) := by
                have h1 := HD.out.1
                have h3 := HNN.out.2
                have : ds.length * t ≤ 240 * 6 := Nat.mul_le_mul h1 h3
                show _ ≤ _
                omega
              go_wp2_with (fail)
              go_loopw [29, 30] (fun v k wr => ∃ (q : Nat), k = .int .i64 (q : Int) ∧ q ≤ 40 ∧ Hid (Cr.Own wr v (wantL all q)) ∧ Hid (∀ g, v.ownBlock = some g → wD.heap.size ≤ g) ∧ Hid (Mod (fun _ => False) wD wr)) (fun _ k _ => 40 - (intOf k).toNat)
              case atStart => exact ⟨0, rfl, Nat.zero_le _, Cr.Own.nil _, by intro g hg; simp [Value.ownBlock] at hg, Mod.refl _ _⟩
              case round =>
                obtain ⟨q, rfl, hq, HO, HGO, HMQ⟩ := hrel
                by_cases hq4 : q < 40
                · have hq4' : (q : Int) < 40 := by omega
                  have hq0 : (0 : Int) ≤ (q : Int) := by omega
                  have HQ4 : Hid (q < 40) := hq4
                  cases hb : all.testBit q with
                  | true =>
                    have eb : bits .and .u64 ((all : Int) / 2 ^ q) 1 = 1 := by rw [bit_u all q HA64.out, hb]; rfl
                    have HBB : Hid (all.testBit q = true) := hb
                    have HLL : Hid ((wantL all q).length + 1 ≤ 1000000000000) := by have := wantL_len all q; show _ ≤ _; omega
                    obtain ⟨aw, cw, rfl⟩ := HO.out.shape
                    have hoA := HO.out.mod ((Mod.refl (fun _ => False) wr).alloc (.cells #[.int .i64 ((q : Int) + 1)] 3)) (fun _ _ h => h)
                    have HWL : Hid (wantL all (q + 1) = wantL all q ++ [(q : Int) + 1]) := wantL_yes hb
                    clear hb
                    generalize wantL all q = L at *
                    go_wp2_with (at_builtin; refine wpList_app1 rfl _ _ rfl _ L ((q : Int) + 1) wr.heap.size rfl rfl hoA (Bk.new wr #[.int .i64 ((q : Int) + 1)] 3).cellz HLL.out ?_; intro v4 w4 ho4 hm4 hf4)
                    have HREL : Hid (Cr.Own w4 v4 (L ++ [(q : Int) + 1]) ∧ (∀ g, v4.ownBlock = some g → wD.heap.size ≤ g) ∧ Mod (fun _ => False) wD w4) := by
                      refine ⟨ho4, fun g hg => ?_, (HMQ.out.alloc _).trans hm4 (V := fun _ => False) (fun _ _ h => h) (fun g hg e => by have := HGO.out g e; omega)⟩
                      rcases hf4 g hg with h1 | h1
                      · exact HGO.out g h1
                      · have := HMQ.out.size; simp at h1; omega
                    clear ho4 hm4 hf4 hoA
                    go_roundw
                    case rel => exact ⟨q + 1, by go_num, HQ4.out, by show Cr.Own _ _ _; rw [HWL.out]; exact HREL.out.1, HREL.out.2.1, HREL.out.2.2⟩
                    case measure =>
                      have := HQ4.out
                      simp [intOf]
                      omega
                  | false =>
                    have eb : bits .and .u64 ((all : Int) / 2 ^ q) 1 = 0 := by rw [bit_u all q HA64.out, hb]; rfl
                    have HWL : Hid (wantL all (q + 1) = wantL all q) := wantL_no hb
                    clear hb
                    go_wp2
                    go_roundw
                    case rel => exact ⟨q + 1, by go_num, HQ4.out, by show Cr.Own _ _ _; rw [HWL.out]; exact HO.out, HGO.out, HMQ.out⟩
                    case measure =>
                      have := HQ4.out
                      simp [intOf]
                      omega
                · have hq4' : ¬ (q : Int) < 40 := by omega
                  obtain rfl : q = 40 := by omega
                  clear hq hq4
                  obtain ⟨wE, eE⟩ : ∃ W, W = wr := ⟨_, rfl⟩
                  subst eE
                  obtain ⟨aw, cw, rfl⟩ := HO.out.shape
                  have HWE : Hid (Ws wE (.slice av t cv) t P X' (fun _ => sB all 40) (40 + ds.length * t) w1.heap.size) := HWD.out.keep HMQ.out
                  have HME : Hid (Mod (fun _ => False) w wE) := (HM1.out.and HMD.out).and HMQ.out
                  obtain ⟨wl, ewl⟩ : ∃ wl, wantL all 40 = wl := ⟨_, rfl⟩
                  have HKZ : Hid (Kz (sB all 40) 0 wl) := by show Kz _ _ _; rw [← ewl]; exact wantL_kz all
                  replace HO : Hid (Cr.Own wE (.slice aw wl.length cw) wl) := by show Cr.Own _ _ _; rw [← ewl]; exact HO.out
                  rw [ewl]
                  clear ewl
                  go_wp2_with (fail)
                  go_loopw [31] (fun i wr => ∃ (u : Nat), i = .int .i64 (u : Int) ∧ u ≤ t ∧ Hid (Mod (fun _ => False) wE wr)) (fun i _ => t - (intOf i).toNat)
                  case atStart => exact ⟨0, rfl, Nat.zero_le _, Mod.refl _ _⟩
                  case round =>
                    obtain ⟨u, rfl, hu, HMU⟩ := hrel
                    by_cases hut : u < t
                    · have hut' : (u : Int) < (t : Int) := by omega
                      have HUT : Hid (u < t) := hut
                      have hu0 : (0 : Int) ≤ (u : Int) := by omega
                      have hu6 : (u : Int) + 1 ≤ 6 := by have := HNN.out.2; omega
                      have hWu := HWE.out.keep HMU.out
                      obtain ⟨gp, opp, cp, ep, hrgp⟩ := hWu.row.range (by omega)
                      cases ep
                      have cpt : wr.cell? ⟨gp, opp + u, none⟩ = some (.pointer (some ⟨P u, 0, none⟩)) := hrgp u _ (pts_get hut)
                      obtain ⟨a, h, hwn⟩ := hWu.win u hut
                      have HNO := numbersOf_j hwn HN.out wl HKZ.out
                      have HWN : Hid (Wn wr (P u) (X' u) (jOf 2 1 (sB all 40)) a h (40 + ds.length * t)) := hwn
                      have HPU : Hid ((pts P t)[u]? = some (.pointer (some ⟨P u, 0, none⟩))) := pts_get hut
                      clear hrgp hWu hwn
                      go_wp2_with (fail)
                      refine HNO.mono ?_
                      rintro e w5 ⟨vu, rfl, hou, hmu, hgu⟩
                      obtain ⟨au, cu, rfl⟩ := hou.shape
                      have HEQ := Cr.EqInts_at true hou.sl ((HO.out.mod (HMU.out.and hmu) (fun _ _ h => h)).sl) (by simp)
                      have HMU5 : Hid (Mod (fun _ => False) wr w5) := hmu
                      have cpt5 : w5.cell? ⟨gp, opp + u, none⟩ = some (.pointer (some ⟨P u, 0, none⟩)) := hmu.cell cpt (fun h => h)
                      clear HNO hou hmu hgu cpt
                      go_wp2_with (fail)
                      refine HEQ.mono ?_
                      rintro e w6 ⟨rfl, hm6⟩
                      have HM6 : Hid (Mod (fun _ => False) wr w6) := HMU5.out.and hm6
                      have HAB := Above_j (HWN.out.keep HM6.out) HN.out 0
                      have cpt6 : w6.cell? ⟨gp, opp + u, none⟩ = some (.pointer (some ⟨P u, 0, none⟩)) := hm6.cell cpt5 (fun h => h)
                      clear HEQ hm6 cpt5
                      go_wp2_with (fail)
                      refine HAB.mono ?_
                      rintro e w7 ⟨v7, d7, z7, rfl, hR7, hk7, hmap7, hl7, hm7⟩
                      obtain ⟨a7, c7, rfl⟩ := hR7.row.shape
                      have HZ7 : Hid (d7.map (·.1) = z7.map (onR 2 1) ∧ (∀ z ∈ z7, 1 ≤ z ∧ z ≤ 40)) := ⟨hmap7, fun z hz => sB_rng ((hk7.mem z).1 hz).2⟩
                      have HR7 : Hid (RG w7 41 18 (.slice a7 d7.length c7) d7.length (fd d7)) := hR7.row
                      have HM7 : Hid (Mod (fun _ => False) wE w7) := (HMU.out.and HM6.out).and hm7
                      have hd7 : (d7.length : Int) ≤ 1000000 := by
                        have h1 := congrArg List.length hmap7
                        have h2 := HN.out
                        simp only [List.length_map] at h1
                        omega
                      clear HAB hR7 hk7 hmap7 hl7 hm7 cpt6
                      go_wp2_with (fail)
                      go_loopw [33] (fun k wr => ∃ (q : Nat), k = .int .i64 (q : Int) ∧ q ≤ d7.length ∧ Hid (Mod (fun _ => False) w7 wr)) (fun k _ => d7.length - (intOf k).toNat)
                      case atStart => exact ⟨0, rfl, Nat.zero_le _, Mod.refl _ _⟩
                      case round =>
                        obtain ⟨q, rfl, hq, HMR7⟩ := hrel
                        by_cases hq7 : q < d7.length
                        · have hq7' : (q : Int) < (d7.length : Int) := by omega
                          have hq0 : (0 : Int) ≤ (q : Int) := by omega
                          have HQ7 : Hid (q < d7.length) := hq7
                          obtain ⟨x, hx⟩ : ∃ x, d7[q]? = some x := ⟨d7[q], List.getElem?_eq_getElem hq7⟩
                          obtain ⟨zk, hzk, hzs⟩ : ∃ zk, x.1 = onR 2 1 zk ∧ zk ∈ z7 := by
                            have h1 : x.1 ∈ d7.map (·.1) := List.mem_map_of_mem (List.mem_of_getElem? hx)
                            rw [HZ7.out.1] at h1
                            obtain ⟨zk, h2, h3⟩ := List.mem_map.1 h1
                            exact ⟨zk, h3.symm, h2⟩
                          have hzr := HZ7.out.2 zk hzs
                          obtain ⟨dx, vx⟩ := x
                          simp only at hzk
                          subst hzk
                          obtain ⟨gb, of, c8, e8, hrg⟩ := (HR7.out.mod HMR7.out (fun _ _ h => h)).range (by omega)
                          cases e8
                          have hc : ∀ t c, (dcl (onR 2 1 zk) vx)[t]? = some c → wr.cell? ⟨gb, of + q * 18 + t, none⟩ = some c := fun t c ht => by
                            have := hrg (q * 18 + t) c (fd_get d7 q _ hx t c ht)
                            rwa [← Nat.add_assoc] at this
                          have k2 : wr.cell? ⟨gb, of + q * 18 + 2, none⟩ = some (.int .i64 zk) := hc 2 _ rfl
                          have k3 : wr.cell? ⟨gb, of + q * 18 + 3, none⟩ = some (.int .i64 (1 + zk % 8)) := hc 3 _ rfl
                          have k4 : wr.cell? ⟨gb, of + q * 18 + 4, none⟩ = some (.int .i64 zk) := hc 4 _ rfl
                          have k8 : wr.cell? ⟨gb, of + q * 18 + 8, none⟩ = some (.int .i64 zk) := hc 8 _ rfl
                          have ht8 : zk.tmod 8 = zk % 8 := Int.tmod_eq_emod_of_nonneg (by omega)
                          have hw8 : IntKind.i64.wrap ((1 : Int) + zk % 8) = 1 + zk % 8 := by rw [IntKind.wrap_i64]; omega
                          clear hrg hc hx hzs hzr
                          go_upto_region 65 with (fail)
                          go_quiet (fail)
                          go_wp2
                          go_roundw
                          case rel => exact ⟨q + 1, by go_num, HQ7.out, HMR7.out.drewN nq⟩
                          case measure =>
                            have := HQ7.out
                            simp [intOf]
                            omega
                        · have hq7' : ¬ (q : Int) < (d7.length : Int) := by omega
                          have HREL : Hid (Mod (fun _ => False) wE wr) := HM7.out.and HMR7.out
                          go_wp2
                          go_roundw
                          case rel => exact ⟨u + 1, by go_num, HUT.out, HREL.out⟩
                          case measure =>
                            have := HUT.out
                            simp [intOf]
                            omega
                    · have hut' : ¬ (u : Int) < (t : Int) := by omega
                      have HFIN : Hid (Mod (fun _ => False) w wr) := HME.out.and HMU.out
                      go_wp2
                      go_ret
                      exact ⟨rfl, HFIN.out⟩
namespace regainSame
open Go.ChangeShapes Go.WideShapes Go.ChangeAt Go.RowKit
set_option maxRecDepth 100000 in
theorem lifted (os : Os) (started : os.Started) (H : Type) (enc : TypeId × Value → H) :
    ReturnsInHanded {} Try.checked os 3 .any (Rows.regainSameSpec.pre6 enc Try.prog Try.f3 Rows.regainSameRow.domain false) (Rows.regainSameSpec.post enc Try.prog Try.f3 false true false false) := by
  refine returnsInHanded_of_change_sized (C := Try.checked) own started (by kernel_rfl) Try.func3
    (ChangeSpec.witness6 (enc := enc) (C := Try.checked) false ⟨#[], #[.slice none 0 0, .int .i64 0, .slice none 0 0], []⟩ 8 (by kernel_rfl) (by kernel_rfl) (by kernel_rfl) (by kernel_rfl)) ?_
  intro W base args ds gs before hval0 hW hcnd hsz0 _
  have hval : ∀ (j : Nat) t v, Try.f3.params[j]? = some t → args[j]? = some v → Value.okWide Try.prog W .any base t v := hval0
  have hsz : (DataW.weightsEach Try.prog (Try.f3.params.toList ++ Rows.regainSameSpec.plain.varTypes Try.prog) (ds ++ gs)).all (· ≤ reachBytes) = true := hsz0
  have hW' := hW
  obtain ⟨p, q, hA0, hV, rfl, hfz, hnd⟩ := hW
  have hA : DataW.TrodAll enc Try.prog W 0 (fun _ => true) true Try.f3.params.toList args.toList ds p := hA0
  rw [Try.params3] at hA hval hsz
  obtain ⟨v0, vs0, d0, ds0, p0, q0, hargs, rfl, rfl, h0, r0⟩ := trodAll_cons hA
  obtain ⟨v1, vs1, d1, ds1, p1, q1, rfl, rfl, rfl, h1, r1⟩ := trodAll_cons r0
  obtain ⟨v2, vs2, d2, ds2, p2, q2, rfl, rfl, rfl, h2, r2⟩ := trodAll_cons r1
  obtain ⟨rfl, rfl, rfl⟩ := trodAll_nil r2
  obtain rfl : args = #[v0, v1, v2] := by cases args; simp_all
  obtain ⟨rfl, rfl⟩ := trodVars_none hV
  have k0 := h0
  have lt0 : ∀ x ∈ p0, x.block < W.heap.size := by obtain ⟨m, hm⟩ := k0; exact DataW.trod_lt m _ _ _ hm
  obtain ⟨B0, hB0⟩ := open_u h0 (okWide_slice Try.underlying22 (hval 0 22 v0 rfl rfl))
  obtain ⟨a1, rfl, rfl, rfl, w1⟩ := open_int Try.underlying3 (hval 1 3 v1 rfl rfl) h1
  have k2 := h2
  have lt2 : ∀ x ∈ p2, x.block < W.heap.size := by obtain ⟨m, hm⟩ := k2; exact DataW.trod_lt m _ _ _ hm
  obtain ⟨B2, hB2⟩ := open_l h2 (okWide_slice Try.underlying23 (hval 2 23 v2 rfl rfl))
  clear hA0 hval0
  refine (same_walk v0 v2 a1 B0 B2 W hB0 hB2 (i64_of_wf w1)).mono fun e W' ⟨he, hm⟩ => ?_
  subst he
  have bel : Below W.heap.size W W' := hm.below _ (Nat.le_refl _) (fun _ h => h.elim)
  exact ⟨_, rfl, _, _, _, [], _, [], hW', trodAll_mk1 (shut_bool Try.underlying4 _), (trodAll_cons_mk (Below.trod laidOut (by kernel_rfl) (of_decide_eq_true (by kernel_rfl)) k0 bel lt0) (trodAll_cons_mk (shut_int Try.underlying3 w1) (trodAll_cons_mk (Below.trod laidOut (by kernel_rfl) (of_decide_eq_true (by kernel_rfl)) k2 bel lt2) trodAll_mk0))), rfl, bel.frame _, fun h => by cases h⟩

theorem over : Rows.regainSameRow.holds Try.pinned (OpenSpec.ofChange Rows.regainSameSpec) :=
  OpenClaim.holds_of_wide 3 Try.f3 rfl rfl rfl rfl rfl rfl rfl ⟨rfl, rfl, rfl, rfl, rfl⟩ rfl rfl rfl rfl rfl (by kernel_rfl) Try.func3 (by kernel_rfl)
    (of_decide_eq_true (by kernel_rfl)) (by unfold Func.isWrapper; first | (rw [if_pos (by decide +kernel)]; kernel_rfl) | (rw [if_neg (by decide +kernel)]; exact ⟨rfl, rfl⟩))
    (fun os started H enc _ => lifted os started H enc)
end regainSame
theorem regainSame_holds : Rows.RegainSameSaid := regainSame.over
end Go.Proofs.Ythiijonmnebjgaa
