/- Contract of the document's Charts. Conditions: the numbers are those of an int. -/
import Derived.Test.YthiijonmnebjgaaGreatRg8
namespace Go.Proofs.YthiijonmnebjgaaGreat
open Go.RowKit
theorem pok_nums {p : Pl} (h : pok p = true) : Nums p.n4 := by
  simp only [pok, crew, Bool.and_eq_true, decide_eq_true_eq] at h
  have h6 := isr_nums h.2.1
  intro x hx
  simp only [Pl.n4, List.mem_cons, List.not_mem_nil, or_false] at hx
  omega
set_option maxRecDepth 100000 in
set_option maxHeartbeats 4000000 in
theorem dCharts (v : Value) (l : List Pl) (w : World) (hs : SlP w v l) :
    Calls Tryz.prog 116 #[v] w fun e w' => ∃ v1, e = .returned (.tuple #[v1, .int .i64 (chE l)]) ∧ Mod (fun _ => False) w w' ∧
      (chE l = 0 → Own w' v1 (pkl l) ∧ (∀ g, v1.ownBlock = some g → w.heap.size ≤ g)) ∧ (chE l ≠ 0 → v1 = .slice none 0 0) := by
  obtain ⟨ao, cap, rfl, h1, h2, h3, h4⟩ := hs.form
  have hrng := hs.rng
  unfold maxLen at h2
  unfold chE
  by_cases hl : 4 < l.length
  · rw [if_pos hl]
    go_enter Tryz.func116, Tryz.ntmps116
    go_wp2
    go_ret2
    exact ⟨_, rfl, Mod.refl _ _, fun h => absurd h (by decide), fun _ => rfl⟩
  · rw [if_neg hl]
    have hl4 : l.length ≤ 4 := by omega
    clear hl hs
    have hpk : pkl l = packs [(l.length : Int)] ++ pls (l.take l.length) := by rw [List.take_length]; rfl
    rw [hpk]
    clear hpk
    have hl1 : (packs [(l.length : Int)]).length ≤ 8 := packs_len [(l.length : Int)]
    have hQ0 : packs [(l.length : Int)] = [] ++ enc l.length := by simp [packs]
    obtain ⟨Q, hQ⟩ : ∃ Q, packs [(l.length : Int)] = Q := ⟨_, rfl⟩
    rw [hQ] at hl1 hQ0
    rw [hQ]
    have HQ0 : Hid (Q = [] ++ enc l.length) := hQ0
    clear hQ hQ0
    cases HB : held 0 l with
    | false =>
      rw [if_neg (by decide)]
      have HBH : Hid (held 0 l = false) := HB
      clear HB
      go_enter Tryz.func116, Tryz.ntmps116
      go_wp2_with (fail)
      refine (gWrite _).mono ?_
      rintro e w1 ⟨rfl, hw1, hm1⟩
      have hp1 := lt_of_block hw1.blk
      go_wp2_with (fail)
      refine (gPut_go w.heap.size (.slice none 0 0) [] l.length w1 hw1 (by omega) (by simp)).mono ?_
      rintro e w2 ⟨rfl, v2, hw2, hm2, hf2⟩
      have hA2 : Mod (fun _ => False) w w2 := hm1.trans hm2 (fun _ _ h => h) (by rintro q hq (h | h); omega; simp [Value.ownBlock] at h)
      have hfr2 : ∀ g, v2.ownBlock = some g → w.heap.size ≤ g := hf2.fresh (w := w) (by intro g hg; simp [Value.ownBlock] at hg) (by omega)
      rw [← HQ0.out] at hw2
      clear hw1 hm1 hm2 hf2 hp1
      go_wp2
      go_loopw [5] (fun i wr => ∃ (j : Nat) (v' : Value) (least : Int), i = .int .i64 j ∧ j ≤ l.length ∧ 0 ≤ least ∧ Hid (false = held least (l.drop j)) ∧ Hid (0 < j → ∃ pp, l[j - 1]? = some pp ∧ least = pp.ring + 1) ∧ Hid (j = 0 → least = 0) ∧ Wg wr w.heap.size v' (Q ++ pls (l.take j)) ∧ Mod (fun _ => False) w wr ∧ (∀ g, v'.ownBlock = some g → w.heap.size ≤ g)) (fun i _ => l.length - (intOf i).toNat)
      case atStart => exact ⟨0, v2, 0, rfl, by omega, by omega, by show _ = _; rw [← HBH.out]; rfl, by show _ → _; intro h; omega, by show _ → _; intro _; rfl, by simpa [pls] using hw2, hA2, hfr2⟩
      case round =>
        obtain ⟨j, v', least, rfl, hj, hl0, hh, hprev, hzero, hw, hm, hfr⟩ := hrel
        clear hw2 hA2 hfr2
        by_cases hlt : j < l.length
        · obtain ⟨b, off, rfl, hc⟩ := h4 (by rintro rfl; simp at hlt)
          obtain ⟨pp, hp⟩ : ∃ p, l[j]? = some p := ⟨l[j], by simp [hlt]⟩
          have hcw := hc j pp hp
          have HH := hh.out
          rw [drop_cons' hp, held_cons least pp _ hl0] at HH
          have HT : Hid (l.take (j + 1) = l.take j ++ [pp]) := take_snoc' hp
          have HPJ : Hid (l[j]? = some pp) := hp
          obtain ⟨c0, c1, c2, c3⟩ := hcw.mod hm (fun h => h)
          have hmD := hm.drew
          have HP := dPlace pp.ring pp.ps pp.pr pp.mb
          rw [show (⟨pp.ring, pp.ps, pp.pr, pp.mb⟩ : Pl) = pp from rfl] at HP
          have hNP := fun h => pok_nums (p := pp) h
          have HRR : Hid (pp.ring + 1 = pp.ring + 1) := rfl
          generalize hx : pok pp = x at HP HH hNP
          have hgeo : pok pp = true → 0 ≤ pp.ring ∧ pp.ring < 4 := by
            intro h
            simp only [pok, Bool.and_eq_true, decide_eq_true_eq] at h
            exact ⟨h.1.1, h.1.2⟩
          rw [hx] at hgeo
          clear hx hh
          cases x with
          | false =>
            clear HH hNP hgeo
            have hund : undef = Value.tuple #[] := rfl
            by_cases j0 : j = 0
            · have hnj : decide (0 < (j : Int)) = false := by simp; omega
              clear j0
              go_wp2
              refine region8f b off l.length cap j pp ⟨⟨_, rfl, rfl, rfl, rfl, by decide +kernel⟩⟩ ⟨⟨_, rfl, rfl, rfl, rfl, by decide +kernel⟩⟩ ⟨⟨_, rfl, rfl, rfl, rfl, by decide +kernel⟩⟩ ⟨⟨_, rfl, rfl, rfl, rfl, by decide +kernel⟩⟩ ⟨⟨_, rfl, rfl, rfl, rfl, by decide +kernel⟩⟩ ⟨⟨_, rfl, rfl, rfl, rfl, by decide +kernel⟩⟩ ⟨⟨_, rfl, rfl, rfl, rfl, by decide +kernel⟩⟩ ⟨⟨_, rfl, rfl, rfl, rfl, by decide +kernel⟩⟩ ⟨⟨_, rfl, rfl, rfl, rfl, by decide +kernel⟩⟩ ⟨⟨_, rfl, rfl, rfl, rfl, by decide +kernel⟩⟩ ⟨⟨_, rfl, rfl, rfl, rfl, by decide +kernel⟩⟩ ⟨⟨_, rfl, rfl, rfl, rfl, by decide +kernel⟩⟩ ⟨⟨_, rfl, rfl, rfl, rfl, by decide +kernel⟩⟩ ⟨⟨_, rfl, rfl, rfl, rfl, by decide +kernel⟩⟩ ⟨⟨_, rfl, rfl, rfl, rfl, by decide +kernel⟩⟩ ⟨⟨_, rfl, rfl, rfl, rfl, by decide +kernel⟩⟩ ⟨⟨_, rfl, rfl, rfl, rfl, by decide +kernel⟩⟩ ⟨⟨_, rfl, rfl, rfl, rfl, by decide +kernel⟩⟩ ⟨⟨_, rfl, rfl, rfl, rfl, by decide +kernel⟩⟩ ⟨⟨_, rfl, rfl, rfl, rfl, by decide +kernel⟩⟩ ⟨⟨_, rfl, rfl, rfl, rfl, by decide +kernel⟩⟩ ⟨⟨_, rfl, rfl, rfl, rfl, by decide +kernel⟩⟩ ⟨⟨_, rfl, rfl, rfl, rfl, by decide +kernel⟩⟩ ⟨⟨_, rfl, rfl, rfl, rfl, by decide +kernel⟩⟩ rfl (by decide +kernel) rfl (by decide +kernel) mixed rfl rfl rfl hlt (hcw.mod hm (fun h => h)) HP ?_
              intro w3 hm3
              simp only [puts, Act.put, List.setIfInBounds_toArray, List.set_cons_succ, List.set_cons_zero]
              clear c0 c1 c2 c3
              obtain ⟨c0, c1, c2, c3⟩ := hcw.mod (hmD.trans hm3 (V := fun _ => False) (fun _ _ h => h) (fun _ _ h => h)) (fun h => h)
              have hm33 := hmD.trans hm3 (V := fun _ => False) (fun _ _ h => h) (fun _ _ h => h)
              have hw3 := hw.mod (((Mod.refl (fun _ => False) wr).drew).trans hm3 (V := fun _ => False) (fun _ _ h => h) (fun _ _ h => h)) (fun h => h) (fun _ _ h => h)
              go_wp2
              go_ret2
              exact ⟨_, rfl, hm33, fun h => absurd h (by decide), fun _ => rfl⟩
            · obtain ⟨jj, hjj⟩ : ∃ jj, j = jj + 1 := ⟨j - 1, by omega⟩
              obtain ⟨qq, hqq, hleast⟩ := hprev.out (by omega)
              rw [show j - 1 = jj from by omega] at hqq
              have hcq := hc jj qq hqq
              have cp := (hcq.mod hm (fun h => h)).1
              have ej : (j : Int) - 1 = (jj : Int) := by omega
              have hpj : 0 < (j : Int) := by omega
              have hjl : (jj : Int) < (l.length : Int) := by omega
              clear j0 hjj
              clear hprev hzero hqq
              go_wp2
              refine region8f b off l.length cap j pp ⟨⟨_, rfl, rfl, rfl, rfl, by decide +kernel⟩⟩ ⟨⟨_, rfl, rfl, rfl, rfl, by decide +kernel⟩⟩ ⟨⟨_, rfl, rfl, rfl, rfl, by decide +kernel⟩⟩ ⟨⟨_, rfl, rfl, rfl, rfl, by decide +kernel⟩⟩ ⟨⟨_, rfl, rfl, rfl, rfl, by decide +kernel⟩⟩ ⟨⟨_, rfl, rfl, rfl, rfl, by decide +kernel⟩⟩ ⟨⟨_, rfl, rfl, rfl, rfl, by decide +kernel⟩⟩ ⟨⟨_, rfl, rfl, rfl, rfl, by decide +kernel⟩⟩ ⟨⟨_, rfl, rfl, rfl, rfl, by decide +kernel⟩⟩ ⟨⟨_, rfl, rfl, rfl, rfl, by decide +kernel⟩⟩ ⟨⟨_, rfl, rfl, rfl, rfl, by decide +kernel⟩⟩ ⟨⟨_, rfl, rfl, rfl, rfl, by decide +kernel⟩⟩ ⟨⟨_, rfl, rfl, rfl, rfl, by decide +kernel⟩⟩ ⟨⟨_, rfl, rfl, rfl, rfl, by decide +kernel⟩⟩ ⟨⟨_, rfl, rfl, rfl, rfl, by decide +kernel⟩⟩ ⟨⟨_, rfl, rfl, rfl, rfl, by decide +kernel⟩⟩ ⟨⟨_, rfl, rfl, rfl, rfl, by decide +kernel⟩⟩ ⟨⟨_, rfl, rfl, rfl, rfl, by decide +kernel⟩⟩ ⟨⟨_, rfl, rfl, rfl, rfl, by decide +kernel⟩⟩ ⟨⟨_, rfl, rfl, rfl, rfl, by decide +kernel⟩⟩ ⟨⟨_, rfl, rfl, rfl, rfl, by decide +kernel⟩⟩ ⟨⟨_, rfl, rfl, rfl, rfl, by decide +kernel⟩⟩ ⟨⟨_, rfl, rfl, rfl, rfl, by decide +kernel⟩⟩ ⟨⟨_, rfl, rfl, rfl, rfl, by decide +kernel⟩⟩ rfl (by decide +kernel) rfl (by decide +kernel) mixed rfl rfl rfl hlt (hcw.mod hm (fun h => h)) HP ?_
              intro w3 hm3
              simp only [puts, Act.put, List.setIfInBounds_toArray, List.set_cons_succ, List.set_cons_zero]
              clear c0 c1 c2 c3
              obtain ⟨c0, c1, c2, c3⟩ := hcw.mod (hmD.trans hm3 (V := fun _ => False) (fun _ _ h => h) (fun _ _ h => h)) (fun h => h)
              have hm33 := hmD.trans hm3 (V := fun _ => False) (fun _ _ h => h) (fun _ _ h => h)
              have hw3 := hw.mod (((Mod.refl (fun _ => False) wr).drew).trans hm3 (V := fun _ => False) (fun _ _ h => h) (fun _ _ h => h)) (fun h => h) (fun _ _ h => h)
              go_wp2
              go_ret2
              exact ⟨_, rfl, hm33, fun h => absurd h (by decide), fun _ => rfl⟩
          | true =>
            have hN := hNP rfl
            obtain ⟨gg1, gg2⟩ := hgeo rfl
            by_cases j0 : j = 0
            · have hnj : decide (0 < (j : Int)) = false := by simp; omega
              have hle : least ≤ pp.ring := by have := hzero.out j0; omega
              clear j0
              have HH2 : Hid (false = held (pp.ring + 1) (l.drop (j + 1))) := by
                show _ = _
                rw [HH]
                simp [hle]
              clear HH hNP hgeo
              go_wp2
              refine region8t0 b off l.length cap j pp ⟨⟨_, rfl, rfl, rfl, rfl, by decide +kernel⟩⟩ ⟨⟨_, rfl, rfl, rfl, rfl, by decide +kernel⟩⟩ ⟨⟨_, rfl, rfl, rfl, rfl, by decide +kernel⟩⟩ ⟨⟨_, rfl, rfl, rfl, rfl, by decide +kernel⟩⟩ ⟨⟨_, rfl, rfl, rfl, rfl, by decide +kernel⟩⟩ ⟨⟨_, rfl, rfl, rfl, rfl, by decide +kernel⟩⟩ ⟨⟨_, rfl, rfl, rfl, rfl, by decide +kernel⟩⟩ ⟨⟨_, rfl, rfl, rfl, rfl, by decide +kernel⟩⟩ ⟨⟨_, rfl, rfl, rfl, rfl, by decide +kernel⟩⟩ ⟨⟨_, rfl, rfl, rfl, rfl, by decide +kernel⟩⟩ ⟨⟨_, rfl, rfl, rfl, rfl, by decide +kernel⟩⟩ ⟨⟨_, rfl, rfl, rfl, rfl, by decide +kernel⟩⟩ ⟨⟨_, rfl, rfl, rfl, rfl, by decide +kernel⟩⟩ ⟨⟨_, rfl, rfl, rfl, rfl, by decide +kernel⟩⟩ ⟨⟨_, rfl, rfl, rfl, rfl, by decide +kernel⟩⟩ ⟨⟨_, rfl, rfl, rfl, rfl, by decide +kernel⟩⟩ ⟨⟨_, rfl, rfl, rfl, rfl, by decide +kernel⟩⟩ ⟨⟨_, rfl, rfl, rfl, rfl, by decide +kernel⟩⟩ ⟨⟨_, rfl, rfl, rfl, rfl, by decide +kernel⟩⟩ ⟨⟨_, rfl, rfl, rfl, rfl, by decide +kernel⟩⟩ ⟨⟨_, rfl, rfl, rfl, rfl, by decide +kernel⟩⟩ ⟨⟨_, rfl, rfl, rfl, rfl, by decide +kernel⟩⟩ ⟨⟨_, rfl, rfl, rfl, rfl, by decide +kernel⟩⟩ ⟨⟨_, rfl, rfl, rfl, rfl, by decide +kernel⟩⟩ rfl (by decide +kernel) rfl (by decide +kernel) mixed rfl rfl rfl hlt (hcw.mod hm (fun h => h)) HP hnj ?_
              intro w3 hm3
              simp only [puts, Act.put, List.setIfInBounds_toArray, List.set_cons_succ, List.set_cons_zero]
              clear c0 c1 c2 c3
              obtain ⟨c0, c1, c2, c3⟩ := hcw.mod (hmD.trans hm3 (V := fun _ => False) (fun _ _ h => h) (fun _ _ h => h)) (fun h => h)
              have hm33 := hmD.trans hm3 (V := fun _ => False) (fun _ _ h => h) (fun _ _ h => h)
              have hw3 := hw.mod (((Mod.refl (fun _ => False) wr).drew).trans hm3 (V := fun _ => False) (fun _ _ h => h) (fun _ _ h => h)) (fun h => h) (fun _ _ h => h)
              obtain ⟨a1, ha1⟩ := Int.eq_ofNat_of_zero_le (hN pp.ring (by simp [Pl.n4])).1
              obtain ⟨a2, ha2⟩ := Int.eq_ofNat_of_zero_le (hN pp.ps (by simp [Pl.n4])).1
              obtain ⟨a3, ha3⟩ := Int.eq_ofNat_of_zero_le (hN pp.pr (by simp [Pl.n4])).1
              obtain ⟨a4, ha4⟩ := Int.eq_ofNat_of_zero_le (hN pp.mb (by simp [Pl.n4])).1
              have u1 := (hN pp.ring (by simp [Pl.n4])).2
              have u2 := (hN pp.ps (by simp [Pl.n4])).2
              have u3 := (hN pp.pr (by simp [Pl.n4])).2
              have u4 := (hN pp.mb (by simp [Pl.n4])).2
              rw [ha1] at c0 u1
              rw [ha2] at c1 u2
              rw [ha3] at c2 u3
              rw [ha4] at c3 u4
              have k1 := enc_len a1
              have k2 := enc_len a2
              have k3 := enc_len a3
              have k4 := enc_len a4
              have HPL : Hid (pls (l.take (j + 1)) = pls (l.take j) ++ (enc a1 ++ (enc a2 ++ (enc a3 ++ enc a4)))) := by
                show _ = _
                rw [HT.out, pls_snoc]
                simp only [Pl.n4, packs, ha1, ha2, ha3, ha4, Int.toNat_natCast, List.append_nil]
              have hQl : (Q ++ pls (l.take j)).length ≤ 200 := by
                have := pls_len' (l.take j)
                rw [List.length_take] at this
                rw [List.length_append]
                omega
              clear hN
              obtain ⟨Q3, hQ3⟩ : ∃ Q3, Q ++ pls (l.take j) = Q3 := ⟨_, rfl⟩
              rw [hQ3] at hw3 hQl
              have HQ3 : Hid (Q ++ pls (l.take j) = Q3) := hQ3
              clear hQ3
              go_wp2_with (fail)
              refine (gPut_go w.heap.size v' _ a1 w3 hw3 (by omega) (by simp; omega)).mono ?_
              rintro e w4 ⟨rfl, v4, hw4, hn1, hg1⟩
              have hm34 : Mod (fun _ => False) w w4 := hm33.trans hn1 (fun _ _ h => h) (by rintro q hq (h | h); omega; have := hfr q h; omega)
              have hfr1 : ∀ g, v4.ownBlock = some g → w.heap.size ≤ g := hg1.fresh (w := w) hfr hm33.size
              clear hn1 hg1 hw3
              clear c0 c1 c2 c3
              obtain ⟨c0, c1, c2, c3⟩ := hcw.mod hm34 (fun h => h)
              rw [ha1] at c0
              rw [ha2] at c1
              rw [ha3] at c2
              rw [ha4] at c3
              go_wp2_with (fail)
              refine (gPut_go w.heap.size v4 _ a2 w4 hw4 (by omega) (by simp; omega)).mono ?_
              rintro e w5 ⟨rfl, v5, hw5, hn2, hg2⟩
              have hm35 : Mod (fun _ => False) w w5 := hm34.trans hn2 (fun _ _ h => h) (by rintro q hq (h | h); omega; have := hfr1 q h; omega)
              have hfr2 : ∀ g, v5.ownBlock = some g → w.heap.size ≤ g := hg2.fresh (w := w) hfr1 hm34.size
              clear hn2 hg2 hw4
              clear c0 c1 c2 c3
              obtain ⟨c0, c1, c2, c3⟩ := hcw.mod hm35 (fun h => h)
              rw [ha1] at c0
              rw [ha2] at c1
              rw [ha3] at c2
              rw [ha4] at c3
              go_wp2_with (fail)
              refine (gPut_go w.heap.size v5 _ a3 w5 hw5 (by omega) (by simp; omega)).mono ?_
              rintro e w6 ⟨rfl, v6, hw6, hn3, hg3⟩
              have hm36 : Mod (fun _ => False) w w6 := hm35.trans hn3 (fun _ _ h => h) (by rintro q hq (h | h); omega; have := hfr2 q h; omega)
              have hfr3 : ∀ g, v6.ownBlock = some g → w.heap.size ≤ g := hg3.fresh (w := w) hfr2 hm35.size
              clear hn3 hg3 hw5
              clear c0 c1 c2 c3
              obtain ⟨c0, c1, c2, c3⟩ := hcw.mod hm36 (fun h => h)
              rw [ha1] at c0
              rw [ha2] at c1
              rw [ha3] at c2
              rw [ha4] at c3
              go_wp2_with (fail)
              refine (gPut_go w.heap.size v6 _ a4 w6 hw6 (by omega) (by simp; omega)).mono ?_
              rintro e w7 ⟨rfl, v7, hw7, hn4, hg4⟩
              have hm37 : Mod (fun _ => False) w w7 := hm36.trans hn4 (fun _ _ h => h) (by rintro q hq (h | h); omega; have := hfr3 q h; omega)
              have hfr4 : ∀ g, v7.ownBlock = some g → w.heap.size ≤ g := hg4.fresh (w := w) hfr3 hm36.size
              clear hn4 hg4 hw6
              go_wp2
              go_roundw
              case rel =>
                refine ⟨j + 1, v7, pp.ring + 1, by go_num, by omega, by omega, ?_, ?_, ?_, ?_, hm37, hfr4⟩
                · show _ = _
                  rw [HH2.out]
                · show _ → _
                  intro _
                  exact ⟨pp, HPJ.out, rfl⟩
                · show _ → _
                  intro h
                  omega
                · rw [HPL.out, ← List.append_assoc, HQ3.out]
                  simpa [List.append_assoc] using hw7
              case measure => simp [intOf]; omega
            · obtain ⟨jj, hjj⟩ : ∃ jj, j = jj + 1 := ⟨j - 1, by omega⟩
              obtain ⟨qq, hqq, hleast⟩ := hprev.out (by omega)
              rw [show j - 1 = jj from by omega] at hqq
              have hcq := hc jj qq hqq
              have cp := (hcq.mod hm (fun h => h)).1
              have ej : (j : Int) - 1 = (jj : Int) := by omega
              have hpj : 0 < (j : Int) := by omega
              have hjl : (jj : Int) < (l.length : Int) := by omega
              clear j0 hjj
              by_cases hle : least ≤ pp.ring
              · have HH2 : Hid (false = held (pp.ring + 1) (l.drop (j + 1))) := by
                  show _ = _
                  rw [HH]
                  simp [hle]
                have hcmp : ¬ pp.ring ≤ qq.ring := by omega
                clear HH hNP hgeo hprev hzero hqq
                go_wp2
                refine region8t1 b off l.length cap j jj pp qq.ring false ⟨⟨_, rfl, rfl, rfl, rfl, by decide +kernel⟩⟩ ⟨⟨_, rfl, rfl, rfl, rfl, by decide +kernel⟩⟩ ⟨⟨_, rfl, rfl, rfl, rfl, by decide +kernel⟩⟩ ⟨⟨_, rfl, rfl, rfl, rfl, by decide +kernel⟩⟩ ⟨⟨_, rfl, rfl, rfl, rfl, by decide +kernel⟩⟩ ⟨⟨_, rfl, rfl, rfl, rfl, by decide +kernel⟩⟩ ⟨⟨_, rfl, rfl, rfl, rfl, by decide +kernel⟩⟩ ⟨⟨_, rfl, rfl, rfl, rfl, by decide +kernel⟩⟩ ⟨⟨_, rfl, rfl, rfl, rfl, by decide +kernel⟩⟩ ⟨⟨_, rfl, rfl, rfl, rfl, by decide +kernel⟩⟩ ⟨⟨_, rfl, rfl, rfl, rfl, by decide +kernel⟩⟩ ⟨⟨_, rfl, rfl, rfl, rfl, by decide +kernel⟩⟩ ⟨⟨_, rfl, rfl, rfl, rfl, by decide +kernel⟩⟩ ⟨⟨_, rfl, rfl, rfl, rfl, by decide +kernel⟩⟩ ⟨⟨_, rfl, rfl, rfl, rfl, by decide +kernel⟩⟩ ⟨⟨_, rfl, rfl, rfl, rfl, by decide +kernel⟩⟩ ⟨⟨_, rfl, rfl, rfl, rfl, by decide +kernel⟩⟩ ⟨⟨_, rfl, rfl, rfl, rfl, by decide +kernel⟩⟩ ⟨⟨_, rfl, rfl, rfl, rfl, by decide +kernel⟩⟩ ⟨⟨_, rfl, rfl, rfl, rfl, by decide +kernel⟩⟩ ⟨⟨_, rfl, rfl, rfl, rfl, by decide +kernel⟩⟩ ⟨⟨_, rfl, rfl, rfl, rfl, by decide +kernel⟩⟩ ⟨⟨_, rfl, rfl, rfl, rfl, by decide +kernel⟩⟩ ⟨⟨_, rfl, rfl, rfl, rfl, by decide +kernel⟩⟩ rfl (by decide +kernel) rfl (by decide +kernel) mixed rfl rfl rfl hlt (hcw.mod hm (fun h => h)) HP (by simpa using hpj) (by rw [ej]; exact wrap_in (by omega) (by omega)) (by omega) cp (by simp [hcmp]) ?_
                intro w3 hm3
                simp only [puts, Act.put, List.setIfInBounds_toArray, List.set_cons_succ, List.set_cons_zero]
                clear c0 c1 c2 c3
                obtain ⟨c0, c1, c2, c3⟩ := hcw.mod (hmD.trans hm3 (V := fun _ => False) (fun _ _ h => h) (fun _ _ h => h)) (fun h => h)
                have hm33 := hmD.trans hm3 (V := fun _ => False) (fun _ _ h => h) (fun _ _ h => h)
                have hw3 := hw.mod (((Mod.refl (fun _ => False) wr).drew).trans hm3 (V := fun _ => False) (fun _ _ h => h) (fun _ _ h => h)) (fun h => h) (fun _ _ h => h)
                obtain ⟨a1, ha1⟩ := Int.eq_ofNat_of_zero_le (hN pp.ring (by simp [Pl.n4])).1
                obtain ⟨a2, ha2⟩ := Int.eq_ofNat_of_zero_le (hN pp.ps (by simp [Pl.n4])).1
                obtain ⟨a3, ha3⟩ := Int.eq_ofNat_of_zero_le (hN pp.pr (by simp [Pl.n4])).1
                obtain ⟨a4, ha4⟩ := Int.eq_ofNat_of_zero_le (hN pp.mb (by simp [Pl.n4])).1
                have u1 := (hN pp.ring (by simp [Pl.n4])).2
                have u2 := (hN pp.ps (by simp [Pl.n4])).2
                have u3 := (hN pp.pr (by simp [Pl.n4])).2
                have u4 := (hN pp.mb (by simp [Pl.n4])).2
                rw [ha1] at c0 u1
                rw [ha2] at c1 u2
                rw [ha3] at c2 u3
                rw [ha4] at c3 u4
                have k1 := enc_len a1
                have k2 := enc_len a2
                have k3 := enc_len a3
                have k4 := enc_len a4
                have HPL : Hid (pls (l.take (j + 1)) = pls (l.take j) ++ (enc a1 ++ (enc a2 ++ (enc a3 ++ enc a4)))) := by
                  show _ = _
                  rw [HT.out, pls_snoc]
                  simp only [Pl.n4, packs, ha1, ha2, ha3, ha4, Int.toNat_natCast, List.append_nil]
                have hQl : (Q ++ pls (l.take j)).length ≤ 200 := by
                  have := pls_len' (l.take j)
                  rw [List.length_take] at this
                  rw [List.length_append]
                  omega
                clear hN
                obtain ⟨Q3, hQ3⟩ : ∃ Q3, Q ++ pls (l.take j) = Q3 := ⟨_, rfl⟩
                rw [hQ3] at hw3 hQl
                have HQ3 : Hid (Q ++ pls (l.take j) = Q3) := hQ3
                clear hQ3
                go_wp2_with (fail)
                refine (gPut_go w.heap.size v' _ a1 w3 hw3 (by omega) (by simp; omega)).mono ?_
                rintro e w4 ⟨rfl, v4, hw4, hn1, hg1⟩
                have hm34 : Mod (fun _ => False) w w4 := hm33.trans hn1 (fun _ _ h => h) (by rintro q hq (h | h); omega; have := hfr q h; omega)
                have hfr1 : ∀ g, v4.ownBlock = some g → w.heap.size ≤ g := hg1.fresh (w := w) hfr hm33.size
                clear hn1 hg1 hw3
                clear c0 c1 c2 c3
                obtain ⟨c0, c1, c2, c3⟩ := hcw.mod hm34 (fun h => h)
                rw [ha1] at c0
                rw [ha2] at c1
                rw [ha3] at c2
                rw [ha4] at c3
                go_wp2_with (fail)
                refine (gPut_go w.heap.size v4 _ a2 w4 hw4 (by omega) (by simp; omega)).mono ?_
                rintro e w5 ⟨rfl, v5, hw5, hn2, hg2⟩
                have hm35 : Mod (fun _ => False) w w5 := hm34.trans hn2 (fun _ _ h => h) (by rintro q hq (h | h); omega; have := hfr1 q h; omega)
                have hfr2 : ∀ g, v5.ownBlock = some g → w.heap.size ≤ g := hg2.fresh (w := w) hfr1 hm34.size
                clear hn2 hg2 hw4
                clear c0 c1 c2 c3
                obtain ⟨c0, c1, c2, c3⟩ := hcw.mod hm35 (fun h => h)
                rw [ha1] at c0
                rw [ha2] at c1
                rw [ha3] at c2
                rw [ha4] at c3
                go_wp2_with (fail)
                refine (gPut_go w.heap.size v5 _ a3 w5 hw5 (by omega) (by simp; omega)).mono ?_
                rintro e w6 ⟨rfl, v6, hw6, hn3, hg3⟩
                have hm36 : Mod (fun _ => False) w w6 := hm35.trans hn3 (fun _ _ h => h) (by rintro q hq (h | h); omega; have := hfr2 q h; omega)
                have hfr3 : ∀ g, v6.ownBlock = some g → w.heap.size ≤ g := hg3.fresh (w := w) hfr2 hm35.size
                clear hn3 hg3 hw5
                clear c0 c1 c2 c3
                obtain ⟨c0, c1, c2, c3⟩ := hcw.mod hm36 (fun h => h)
                rw [ha1] at c0
                rw [ha2] at c1
                rw [ha3] at c2
                rw [ha4] at c3
                go_wp2_with (fail)
                refine (gPut_go w.heap.size v6 _ a4 w6 hw6 (by omega) (by simp; omega)).mono ?_
                rintro e w7 ⟨rfl, v7, hw7, hn4, hg4⟩
                have hm37 : Mod (fun _ => False) w w7 := hm36.trans hn4 (fun _ _ h => h) (by rintro q hq (h | h); omega; have := hfr3 q h; omega)
                have hfr4 : ∀ g, v7.ownBlock = some g → w.heap.size ≤ g := hg4.fresh (w := w) hfr3 hm36.size
                clear hn4 hg4 hw6
                go_wp2
                go_roundw
                case rel =>
                  refine ⟨j + 1, v7, pp.ring + 1, by go_num, by omega, by omega, ?_, ?_, ?_, ?_, hm37, hfr4⟩
                  · show _ = _
                    rw [HH2.out]
                  · show _ → _
                    intro _
                    exact ⟨pp, HPJ.out, rfl⟩
                  · show _ → _
                    intro h
                    omega
                  · rw [HPL.out, ← List.append_assoc, HQ3.out]
                    simpa [List.append_assoc] using hw7
                case measure => simp [intOf]; omega
              · have hcmp : pp.ring ≤ qq.ring := by omega
                clear HH hNP hgeo hprev hzero hqq
                go_wp2
                refine region8t1 b off l.length cap j jj pp qq.ring true ⟨⟨_, rfl, rfl, rfl, rfl, by decide +kernel⟩⟩ ⟨⟨_, rfl, rfl, rfl, rfl, by decide +kernel⟩⟩ ⟨⟨_, rfl, rfl, rfl, rfl, by decide +kernel⟩⟩ ⟨⟨_, rfl, rfl, rfl, rfl, by decide +kernel⟩⟩ ⟨⟨_, rfl, rfl, rfl, rfl, by decide +kernel⟩⟩ ⟨⟨_, rfl, rfl, rfl, rfl, by decide +kernel⟩⟩ ⟨⟨_, rfl, rfl, rfl, rfl, by decide +kernel⟩⟩ ⟨⟨_, rfl, rfl, rfl, rfl, by decide +kernel⟩⟩ ⟨⟨_, rfl, rfl, rfl, rfl, by decide +kernel⟩⟩ ⟨⟨_, rfl, rfl, rfl, rfl, by decide +kernel⟩⟩ ⟨⟨_, rfl, rfl, rfl, rfl, by decide +kernel⟩⟩ ⟨⟨_, rfl, rfl, rfl, rfl, by decide +kernel⟩⟩ ⟨⟨_, rfl, rfl, rfl, rfl, by decide +kernel⟩⟩ ⟨⟨_, rfl, rfl, rfl, rfl, by decide +kernel⟩⟩ ⟨⟨_, rfl, rfl, rfl, rfl, by decide +kernel⟩⟩ ⟨⟨_, rfl, rfl, rfl, rfl, by decide +kernel⟩⟩ ⟨⟨_, rfl, rfl, rfl, rfl, by decide +kernel⟩⟩ ⟨⟨_, rfl, rfl, rfl, rfl, by decide +kernel⟩⟩ ⟨⟨_, rfl, rfl, rfl, rfl, by decide +kernel⟩⟩ ⟨⟨_, rfl, rfl, rfl, rfl, by decide +kernel⟩⟩ ⟨⟨_, rfl, rfl, rfl, rfl, by decide +kernel⟩⟩ ⟨⟨_, rfl, rfl, rfl, rfl, by decide +kernel⟩⟩ ⟨⟨_, rfl, rfl, rfl, rfl, by decide +kernel⟩⟩ ⟨⟨_, rfl, rfl, rfl, rfl, by decide +kernel⟩⟩ rfl (by decide +kernel) rfl (by decide +kernel) mixed rfl rfl rfl hlt (hcw.mod hm (fun h => h)) HP (by simpa using hpj) (by rw [ej]; exact wrap_in (by omega) (by omega)) (by omega) cp (by simp [hcmp]) ?_
                intro w3 hm3
                simp only [puts, Act.put, List.setIfInBounds_toArray, List.set_cons_succ, List.set_cons_zero]
                clear c0 c1 c2 c3
                obtain ⟨c0, c1, c2, c3⟩ := hcw.mod (hmD.trans hm3 (V := fun _ => False) (fun _ _ h => h) (fun _ _ h => h)) (fun h => h)
                have hm33 := hmD.trans hm3 (V := fun _ => False) (fun _ _ h => h) (fun _ _ h => h)
                have hw3 := hw.mod (((Mod.refl (fun _ => False) wr).drew).trans hm3 (V := fun _ => False) (fun _ _ h => h) (fun _ _ h => h)) (fun h => h) (fun _ _ h => h)
                go_wp2
                go_ret2
                exact ⟨_, rfl, hm33, fun h => absurd h (by decide), fun _ => rfl⟩
        · obtain rfl : j = l.length := by omega
          exfalso
          have := hh.out
          rw [List.drop_eq_nil_of_le (by omega)] at this
          cases this
    | true =>
      rw [if_pos rfl]
      have HBH : Hid (held 0 l = true) := HB
      clear HB
      go_enter Tryz.func116, Tryz.ntmps116
      go_wp2_with (fail)
      refine (gWrite _).mono ?_
      rintro e w1 ⟨rfl, hw1, hm1⟩
      have hp1 := lt_of_block hw1.blk
      go_wp2_with (fail)
      refine (gPut_go w.heap.size (.slice none 0 0) [] l.length w1 hw1 (by omega) (by simp)).mono ?_
      rintro e w2 ⟨rfl, v2, hw2, hm2, hf2⟩
      have hA2 : Mod (fun _ => False) w w2 := hm1.trans hm2 (fun _ _ h => h) (by rintro q hq (h | h); omega; simp [Value.ownBlock] at h)
      have hfr2 : ∀ g, v2.ownBlock = some g → w.heap.size ≤ g := hf2.fresh (w := w) (by intro g hg; simp [Value.ownBlock] at hg) (by omega)
      rw [← HQ0.out] at hw2
      clear hw1 hm1 hm2 hf2 hp1
      go_wp2
      go_loopw [5] (fun i wr => ∃ (j : Nat) (v' : Value) (least : Int), i = .int .i64 j ∧ j ≤ l.length ∧ 0 ≤ least ∧ Hid (true = held least (l.drop j)) ∧ Hid (0 < j → ∃ pp, l[j - 1]? = some pp ∧ least = pp.ring + 1) ∧ Hid (j = 0 → least = 0) ∧ Wg wr w.heap.size v' (Q ++ pls (l.take j)) ∧ Mod (fun _ => False) w wr ∧ (∀ g, v'.ownBlock = some g → w.heap.size ≤ g)) (fun i _ => l.length - (intOf i).toNat)
      case atStart => exact ⟨0, v2, 0, rfl, by omega, by omega, by show _ = _; rw [← HBH.out]; rfl, by show _ → _; intro h; omega, by show _ → _; intro _; rfl, by simpa [pls] using hw2, hA2, hfr2⟩
      case round =>
        obtain ⟨j, v', least, rfl, hj, hl0, hh, hprev, hzero, hw, hm, hfr⟩ := hrel
        clear hw2 hA2 hfr2
        by_cases hlt : j < l.length
        · obtain ⟨b, off, rfl, hc⟩ := h4 (by rintro rfl; simp at hlt)
          obtain ⟨pp, hp⟩ : ∃ p, l[j]? = some p := ⟨l[j], by simp [hlt]⟩
          have hcw := hc j pp hp
          have HH := hh.out
          rw [drop_cons' hp, held_cons least pp _ hl0] at HH
          have HT : Hid (l.take (j + 1) = l.take j ++ [pp]) := take_snoc' hp
          have HPJ : Hid (l[j]? = some pp) := hp
          obtain ⟨c0, c1, c2, c3⟩ := hcw.mod hm (fun h => h)
          have hmD := hm.drew
          have HP := dPlace pp.ring pp.ps pp.pr pp.mb
          rw [show (⟨pp.ring, pp.ps, pp.pr, pp.mb⟩ : Pl) = pp from rfl] at HP
          have hNP := fun h => pok_nums (p := pp) h
          have HRR : Hid (pp.ring + 1 = pp.ring + 1) := rfl
          generalize hx : pok pp = x at HP HH hNP
          have hgeo : pok pp = true → 0 ≤ pp.ring ∧ pp.ring < 4 := by
            intro h
            simp only [pok, Bool.and_eq_true, decide_eq_true_eq] at h
            exact ⟨h.1.1, h.1.2⟩
          rw [hx] at hgeo
          clear hx hh
          have hx1 : x = true := by
            cases x
            · simp at HH
            · rfl
          subst hx1
          have hle : least ≤ pp.ring := by
            simp only [Bool.true_and] at HH
            have := HH.symm
            simp only [Bool.and_eq_true, decide_eq_true_eq] at this
            exact this.1
          have HH2 : Hid (true = held (pp.ring + 1) (l.drop (j + 1))) := by
            show _ = _
            rw [HH]
            simp [hle]
          have hN := hNP rfl
          obtain ⟨gg1, gg2⟩ := hgeo rfl
          clear HH hNP hgeo
          by_cases j0 : j = 0
          · have hnj : decide (0 < (j : Int)) = false := by simp; omega
            clear j0
            go_wp2
            refine region8t0 b off l.length cap j pp ⟨⟨_, rfl, rfl, rfl, rfl, by decide +kernel⟩⟩ ⟨⟨_, rfl, rfl, rfl, rfl, by decide +kernel⟩⟩ ⟨⟨_, rfl, rfl, rfl, rfl, by decide +kernel⟩⟩ ⟨⟨_, rfl, rfl, rfl, rfl, by decide +kernel⟩⟩ ⟨⟨_, rfl, rfl, rfl, rfl, by decide +kernel⟩⟩ ⟨⟨_, rfl, rfl, rfl, rfl, by decide +kernel⟩⟩ ⟨⟨_, rfl, rfl, rfl, rfl, by decide +kernel⟩⟩ ⟨⟨_, rfl, rfl, rfl, rfl, by decide +kernel⟩⟩ ⟨⟨_, rfl, rfl, rfl, rfl, by decide +kernel⟩⟩ ⟨⟨_, rfl, rfl, rfl, rfl, by decide +kernel⟩⟩ ⟨⟨_, rfl, rfl, rfl, rfl, by decide +kernel⟩⟩ ⟨⟨_, rfl, rfl, rfl, rfl, by decide +kernel⟩⟩ ⟨⟨_, rfl, rfl, rfl, rfl, by decide +kernel⟩⟩ ⟨⟨_, rfl, rfl, rfl, rfl, by decide +kernel⟩⟩ ⟨⟨_, rfl, rfl, rfl, rfl, by decide +kernel⟩⟩ ⟨⟨_, rfl, rfl, rfl, rfl, by decide +kernel⟩⟩ ⟨⟨_, rfl, rfl, rfl, rfl, by decide +kernel⟩⟩ ⟨⟨_, rfl, rfl, rfl, rfl, by decide +kernel⟩⟩ ⟨⟨_, rfl, rfl, rfl, rfl, by decide +kernel⟩⟩ ⟨⟨_, rfl, rfl, rfl, rfl, by decide +kernel⟩⟩ ⟨⟨_, rfl, rfl, rfl, rfl, by decide +kernel⟩⟩ ⟨⟨_, rfl, rfl, rfl, rfl, by decide +kernel⟩⟩ ⟨⟨_, rfl, rfl, rfl, rfl, by decide +kernel⟩⟩ ⟨⟨_, rfl, rfl, rfl, rfl, by decide +kernel⟩⟩ rfl (by decide +kernel) rfl (by decide +kernel) mixed rfl rfl rfl hlt (hcw.mod hm (fun h => h)) HP hnj ?_
            intro w3 hm3
            simp only [puts, Act.put, List.setIfInBounds_toArray, List.set_cons_succ, List.set_cons_zero]
            clear c0 c1 c2 c3
            obtain ⟨c0, c1, c2, c3⟩ := hcw.mod (hmD.trans hm3 (V := fun _ => False) (fun _ _ h => h) (fun _ _ h => h)) (fun h => h)
            have hm33 := hmD.trans hm3 (V := fun _ => False) (fun _ _ h => h) (fun _ _ h => h)
            have hw3 := hw.mod (((Mod.refl (fun _ => False) wr).drew).trans hm3 (V := fun _ => False) (fun _ _ h => h) (fun _ _ h => h)) (fun h => h) (fun _ _ h => h)
            obtain ⟨a1, ha1⟩ := Int.eq_ofNat_of_zero_le (hN pp.ring (by simp [Pl.n4])).1
            obtain ⟨a2, ha2⟩ := Int.eq_ofNat_of_zero_le (hN pp.ps (by simp [Pl.n4])).1
            obtain ⟨a3, ha3⟩ := Int.eq_ofNat_of_zero_le (hN pp.pr (by simp [Pl.n4])).1
            obtain ⟨a4, ha4⟩ := Int.eq_ofNat_of_zero_le (hN pp.mb (by simp [Pl.n4])).1
            have u1 := (hN pp.ring (by simp [Pl.n4])).2
            have u2 := (hN pp.ps (by simp [Pl.n4])).2
            have u3 := (hN pp.pr (by simp [Pl.n4])).2
            have u4 := (hN pp.mb (by simp [Pl.n4])).2
            rw [ha1] at c0 u1
            rw [ha2] at c1 u2
            rw [ha3] at c2 u3
            rw [ha4] at c3 u4
            have k1 := enc_len a1
            have k2 := enc_len a2
            have k3 := enc_len a3
            have k4 := enc_len a4
            have HPL : Hid (pls (l.take (j + 1)) = pls (l.take j) ++ (enc a1 ++ (enc a2 ++ (enc a3 ++ enc a4)))) := by
              show _ = _
              rw [HT.out, pls_snoc]
              simp only [Pl.n4, packs, ha1, ha2, ha3, ha4, Int.toNat_natCast, List.append_nil]
            have hQl : (Q ++ pls (l.take j)).length ≤ 200 := by
              have := pls_len' (l.take j)
              rw [List.length_take] at this
              rw [List.length_append]
              omega
            clear hN
            obtain ⟨Q3, hQ3⟩ : ∃ Q3, Q ++ pls (l.take j) = Q3 := ⟨_, rfl⟩
            rw [hQ3] at hw3 hQl
            have HQ3 : Hid (Q ++ pls (l.take j) = Q3) := hQ3
            clear hQ3
            go_wp2_with (fail)
            refine (gPut_go w.heap.size v' _ a1 w3 hw3 (by omega) (by simp; omega)).mono ?_
            rintro e w4 ⟨rfl, v4, hw4, hn1, hg1⟩
            have hm34 : Mod (fun _ => False) w w4 := hm33.trans hn1 (fun _ _ h => h) (by rintro q hq (h | h); omega; have := hfr q h; omega)
            have hfr1 : ∀ g, v4.ownBlock = some g → w.heap.size ≤ g := hg1.fresh (w := w) hfr hm33.size
            clear hn1 hg1 hw3
            clear c0 c1 c2 c3
            obtain ⟨c0, c1, c2, c3⟩ := hcw.mod hm34 (fun h => h)
            rw [ha1] at c0
            rw [ha2] at c1
            rw [ha3] at c2
            rw [ha4] at c3
            go_wp2_with (fail)
            refine (gPut_go w.heap.size v4 _ a2 w4 hw4 (by omega) (by simp; omega)).mono ?_
            rintro e w5 ⟨rfl, v5, hw5, hn2, hg2⟩
            have hm35 : Mod (fun _ => False) w w5 := hm34.trans hn2 (fun _ _ h => h) (by rintro q hq (h | h); omega; have := hfr1 q h; omega)
            have hfr2 : ∀ g, v5.ownBlock = some g → w.heap.size ≤ g := hg2.fresh (w := w) hfr1 hm34.size
            clear hn2 hg2 hw4
            clear c0 c1 c2 c3
            obtain ⟨c0, c1, c2, c3⟩ := hcw.mod hm35 (fun h => h)
            rw [ha1] at c0
            rw [ha2] at c1
            rw [ha3] at c2
            rw [ha4] at c3
            go_wp2_with (fail)
            refine (gPut_go w.heap.size v5 _ a3 w5 hw5 (by omega) (by simp; omega)).mono ?_
            rintro e w6 ⟨rfl, v6, hw6, hn3, hg3⟩
            have hm36 : Mod (fun _ => False) w w6 := hm35.trans hn3 (fun _ _ h => h) (by rintro q hq (h | h); omega; have := hfr2 q h; omega)
            have hfr3 : ∀ g, v6.ownBlock = some g → w.heap.size ≤ g := hg3.fresh (w := w) hfr2 hm35.size
            clear hn3 hg3 hw5
            clear c0 c1 c2 c3
            obtain ⟨c0, c1, c2, c3⟩ := hcw.mod hm36 (fun h => h)
            rw [ha1] at c0
            rw [ha2] at c1
            rw [ha3] at c2
            rw [ha4] at c3
            go_wp2_with (fail)
            refine (gPut_go w.heap.size v6 _ a4 w6 hw6 (by omega) (by simp; omega)).mono ?_
            rintro e w7 ⟨rfl, v7, hw7, hn4, hg4⟩
            have hm37 : Mod (fun _ => False) w w7 := hm36.trans hn4 (fun _ _ h => h) (by rintro q hq (h | h); omega; have := hfr3 q h; omega)
            have hfr4 : ∀ g, v7.ownBlock = some g → w.heap.size ≤ g := hg4.fresh (w := w) hfr3 hm36.size
            clear hn4 hg4 hw6
            go_wp2
            go_roundw
            case rel =>
              refine ⟨j + 1, v7, pp.ring + 1, by go_num, by omega, by omega, ?_, ?_, ?_, ?_, hm37, hfr4⟩
              · show _ = _
                rw [HH2.out]
              · show _ → _
                intro _
                exact ⟨pp, HPJ.out, rfl⟩
              · show _ → _
                intro h
                omega
              · rw [HPL.out, ← List.append_assoc, HQ3.out]
                simpa [List.append_assoc] using hw7
            case measure => simp [intOf]; omega
          · obtain ⟨jj, hjj⟩ : ∃ jj, j = jj + 1 := ⟨j - 1, by omega⟩
            obtain ⟨qq, hqq, hleast⟩ := hprev.out (by omega)
            rw [show j - 1 = jj from by omega] at hqq
            have hcq := hc jj qq hqq
            have cp := (hcq.mod hm (fun h => h)).1
            have ej : (j : Int) - 1 = (jj : Int) := by omega
            have hpj : 0 < (j : Int) := by omega
            have hjl : (jj : Int) < (l.length : Int) := by omega
            clear j0 hjj
            have hcmp : ¬ pp.ring ≤ qq.ring := by omega
            clear hprev hzero hqq
            go_wp2
            refine region8t1 b off l.length cap j jj pp qq.ring false ⟨⟨_, rfl, rfl, rfl, rfl, by decide +kernel⟩⟩ ⟨⟨_, rfl, rfl, rfl, rfl, by decide +kernel⟩⟩ ⟨⟨_, rfl, rfl, rfl, rfl, by decide +kernel⟩⟩ ⟨⟨_, rfl, rfl, rfl, rfl, by decide +kernel⟩⟩ ⟨⟨_, rfl, rfl, rfl, rfl, by decide +kernel⟩⟩ ⟨⟨_, rfl, rfl, rfl, rfl, by decide +kernel⟩⟩ ⟨⟨_, rfl, rfl, rfl, rfl, by decide +kernel⟩⟩ ⟨⟨_, rfl, rfl, rfl, rfl, by decide +kernel⟩⟩ ⟨⟨_, rfl, rfl, rfl, rfl, by decide +kernel⟩⟩ ⟨⟨_, rfl, rfl, rfl, rfl, by decide +kernel⟩⟩ ⟨⟨_, rfl, rfl, rfl, rfl, by decide +kernel⟩⟩ ⟨⟨_, rfl, rfl, rfl, rfl, by decide +kernel⟩⟩ ⟨⟨_, rfl, rfl, rfl, rfl, by decide +kernel⟩⟩ ⟨⟨_, rfl, rfl, rfl, rfl, by decide +kernel⟩⟩ ⟨⟨_, rfl, rfl, rfl, rfl, by decide +kernel⟩⟩ ⟨⟨_, rfl, rfl, rfl, rfl, by decide +kernel⟩⟩ ⟨⟨_, rfl, rfl, rfl, rfl, by decide +kernel⟩⟩ ⟨⟨_, rfl, rfl, rfl, rfl, by decide +kernel⟩⟩ ⟨⟨_, rfl, rfl, rfl, rfl, by decide +kernel⟩⟩ ⟨⟨_, rfl, rfl, rfl, rfl, by decide +kernel⟩⟩ ⟨⟨_, rfl, rfl, rfl, rfl, by decide +kernel⟩⟩ ⟨⟨_, rfl, rfl, rfl, rfl, by decide +kernel⟩⟩ ⟨⟨_, rfl, rfl, rfl, rfl, by decide +kernel⟩⟩ ⟨⟨_, rfl, rfl, rfl, rfl, by decide +kernel⟩⟩ rfl (by decide +kernel) rfl (by decide +kernel) mixed rfl rfl rfl hlt (hcw.mod hm (fun h => h)) HP (by simpa using hpj) (by rw [ej]; exact wrap_in (by omega) (by omega)) (by omega) cp (by simp [hcmp]) ?_
            intro w3 hm3
            simp only [puts, Act.put, List.setIfInBounds_toArray, List.set_cons_succ, List.set_cons_zero]
            clear c0 c1 c2 c3
            obtain ⟨c0, c1, c2, c3⟩ := hcw.mod (hmD.trans hm3 (V := fun _ => False) (fun _ _ h => h) (fun _ _ h => h)) (fun h => h)
            have hm33 := hmD.trans hm3 (V := fun _ => False) (fun _ _ h => h) (fun _ _ h => h)
            have hw3 := hw.mod (((Mod.refl (fun _ => False) wr).drew).trans hm3 (V := fun _ => False) (fun _ _ h => h) (fun _ _ h => h)) (fun h => h) (fun _ _ h => h)
            obtain ⟨a1, ha1⟩ := Int.eq_ofNat_of_zero_le (hN pp.ring (by simp [Pl.n4])).1
            obtain ⟨a2, ha2⟩ := Int.eq_ofNat_of_zero_le (hN pp.ps (by simp [Pl.n4])).1
            obtain ⟨a3, ha3⟩ := Int.eq_ofNat_of_zero_le (hN pp.pr (by simp [Pl.n4])).1
            obtain ⟨a4, ha4⟩ := Int.eq_ofNat_of_zero_le (hN pp.mb (by simp [Pl.n4])).1
            have u1 := (hN pp.ring (by simp [Pl.n4])).2
            have u2 := (hN pp.ps (by simp [Pl.n4])).2
            have u3 := (hN pp.pr (by simp [Pl.n4])).2
            have u4 := (hN pp.mb (by simp [Pl.n4])).2
            rw [ha1] at c0 u1
            rw [ha2] at c1 u2
            rw [ha3] at c2 u3
            rw [ha4] at c3 u4
            have k1 := enc_len a1
            have k2 := enc_len a2
            have k3 := enc_len a3
            have k4 := enc_len a4
            have HPL : Hid (pls (l.take (j + 1)) = pls (l.take j) ++ (enc a1 ++ (enc a2 ++ (enc a3 ++ enc a4)))) := by
              show _ = _
              rw [HT.out, pls_snoc]
              simp only [Pl.n4, packs, ha1, ha2, ha3, ha4, Int.toNat_natCast, List.append_nil]
            have hQl : (Q ++ pls (l.take j)).length ≤ 200 := by
              have := pls_len' (l.take j)
              rw [List.length_take] at this
              rw [List.length_append]
              omega
            clear hN
            obtain ⟨Q3, hQ3⟩ : ∃ Q3, Q ++ pls (l.take j) = Q3 := ⟨_, rfl⟩
            rw [hQ3] at hw3 hQl
            have HQ3 : Hid (Q ++ pls (l.take j) = Q3) := hQ3
            clear hQ3
            go_wp2_with (fail)
            refine (gPut_go w.heap.size v' _ a1 w3 hw3 (by omega) (by simp; omega)).mono ?_
            rintro e w4 ⟨rfl, v4, hw4, hn1, hg1⟩
            have hm34 : Mod (fun _ => False) w w4 := hm33.trans hn1 (fun _ _ h => h) (by rintro q hq (h | h); omega; have := hfr q h; omega)
            have hfr1 : ∀ g, v4.ownBlock = some g → w.heap.size ≤ g := hg1.fresh (w := w) hfr hm33.size
            clear hn1 hg1 hw3
            clear c0 c1 c2 c3
            obtain ⟨c0, c1, c2, c3⟩ := hcw.mod hm34 (fun h => h)
            rw [ha1] at c0
            rw [ha2] at c1
            rw [ha3] at c2
            rw [ha4] at c3
            go_wp2_with (fail)
            refine (gPut_go w.heap.size v4 _ a2 w4 hw4 (by omega) (by simp; omega)).mono ?_
            rintro e w5 ⟨rfl, v5, hw5, hn2, hg2⟩
            have hm35 : Mod (fun _ => False) w w5 := hm34.trans hn2 (fun _ _ h => h) (by rintro q hq (h | h); omega; have := hfr1 q h; omega)
            have hfr2 : ∀ g, v5.ownBlock = some g → w.heap.size ≤ g := hg2.fresh (w := w) hfr1 hm34.size
            clear hn2 hg2 hw4
            clear c0 c1 c2 c3
            obtain ⟨c0, c1, c2, c3⟩ := hcw.mod hm35 (fun h => h)
            rw [ha1] at c0
            rw [ha2] at c1
            rw [ha3] at c2
            rw [ha4] at c3
            go_wp2_with (fail)
            refine (gPut_go w.heap.size v5 _ a3 w5 hw5 (by omega) (by simp; omega)).mono ?_
            rintro e w6 ⟨rfl, v6, hw6, hn3, hg3⟩
            have hm36 : Mod (fun _ => False) w w6 := hm35.trans hn3 (fun _ _ h => h) (by rintro q hq (h | h); omega; have := hfr2 q h; omega)
            have hfr3 : ∀ g, v6.ownBlock = some g → w.heap.size ≤ g := hg3.fresh (w := w) hfr2 hm35.size
            clear hn3 hg3 hw5
            clear c0 c1 c2 c3
            obtain ⟨c0, c1, c2, c3⟩ := hcw.mod hm36 (fun h => h)
            rw [ha1] at c0
            rw [ha2] at c1
            rw [ha3] at c2
            rw [ha4] at c3
            go_wp2_with (fail)
            refine (gPut_go w.heap.size v6 _ a4 w6 hw6 (by omega) (by simp; omega)).mono ?_
            rintro e w7 ⟨rfl, v7, hw7, hn4, hg4⟩
            have hm37 : Mod (fun _ => False) w w7 := hm36.trans hn4 (fun _ _ h => h) (by rintro q hq (h | h); omega; have := hfr3 q h; omega)
            have hfr4 : ∀ g, v7.ownBlock = some g → w.heap.size ≤ g := hg4.fresh (w := w) hfr3 hm36.size
            clear hn4 hg4 hw6
            go_wp2
            go_roundw
            case rel =>
              refine ⟨j + 1, v7, pp.ring + 1, by go_num, by omega, by omega, ?_, ?_, ?_, ?_, hm37, hfr4⟩
              · show _ = _
                rw [HH2.out]
              · show _ → _
                intro _
                exact ⟨pp, HPJ.out, rfl⟩
              · show _ → _
                intro h
                omega
              · rw [HPL.out, ← List.append_assoc, HQ3.out]
                simpa [List.append_assoc] using hw7
            case measure => simp [intOf]; omega
        · obtain rfl : j = l.length := by omega
          have hlb : (Q ++ pls (l.take l.length)).length ≤ 140737488355328 := by
            have := pls_len' (l.take l.length)
            rw [List.length_take] at this
            rw [List.length_append]
            omega
          obtain ⟨QQ, hQQ⟩ : ∃ QQ, Q ++ pls (l.take l.length) = QQ := ⟨_, rfl⟩
          rw [hQQ] at hw hlb
          have HQQ : Hid (Q ++ pls (l.take l.length) = QQ) := hQQ
          clear hQQ h4 hh hprev hzero
          go_wp2_with (fail)
          refine (gBytes w.heap.size v' QQ _ hw hlb).mono ?_
          rintro e w6 ⟨v6, rfl, ho6, hm6, hf6⟩
          go_wp2
          go_ret2
          exact ⟨_, rfl, hm.trans hm6 (V := fun _ => False) (fun _ _ h => h) (fun _ _ h => h), fun _ => ⟨by rw [HQQ.out]; exact ho6, fun g hg => by have := hf6 g hg; have := hm.size; omega⟩, fun h => absurd rfl h⟩
end Go.Proofs.YthiijonmnebjgaaGreat
