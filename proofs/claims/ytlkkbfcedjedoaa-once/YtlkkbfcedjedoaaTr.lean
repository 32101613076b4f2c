/- TwinOnce: nothing is new twice, and what one sends, each frame of which comes over one lane at least, is all new once. For every list; no conditions. -/
import Derived.Test.YtlkkbfcedjedoaaTq
import Derived.Deep.Light
import Derived.Deep.DeepCutAuto
namespace Go.Proofs.Ytlkkbfcedjedoaa
open Go.RowKit
theorem infoB : (Try.prog.info? 22).map (fun i => (i.zero, i.size, i.bytes)) = some (some (.slice none 0 0), 1, 24) := by kernel_rfl
theorem min_run (n m k : Nat) (h : k = min n m) (W : World) : (Builtin.min_ #[3, 3] 3 #[.int .i64 (n : Int), .int .i64 (m : Int)]).run Try.prog W = .ok (.int .i64 (k : Int)) W := by
  rw [run_min_int2]
  have : (if (m : Int) < n then (m : Int) else n) = k := by split <;> omega
  rw [this]
theorem app1v (w : World) (c : Value) (t : TypeId) : ∀ j u, [c][j]? = some u → (w.alloc (.cells #[c] t)).cell? ((⟨w.heap.size, 0, none⟩ : Addr).add j) = some u := by
  intro j u hj
  match j, hj with
  | 0, hj => simp at hj; subst hj; simp [Addr.add]
  | j + 1, hj => simp at hj
set_option maxRecDepth 100000 in
set_option maxHeartbeats 8000000 in
theorem once_walk (ac : Bool) (lv : Value) (l : List Int) (w : World) (hl : Si w lv l) :
    Calls Try.prog 6 #[.bool ac, lv] w fun e w' => e = .returned (.bool true) ∧ Mod (fun _ => False) w w' := by
  obtain ⟨ao, cap, rfl, hf1, hf2, hf3, hf4⟩ := hl.form
  have HLc : Hid (∀ W, Mod (fun _ => False) w W → ∀ j, j < l.length → ∃ b off, ao = some ⟨b, off, none⟩ ∧ W.cell? ⟨b, off + j, none⟩ = some (.int .i64 (l.getD j 0))) := fun W hW j hj => by
    obtain ⟨b, off, rfl, hc⟩ := hf4 (by rintro rfl; simp at hj)
    exact ⟨b, off, rfl, hW.cell (hc j hj) (fun h => h)⟩
  obtain ⟨n, hn⟩ : ∃ n, n = min l.length 200 := ⟨_, rfl⟩
  have hmin : ∀ W, (Builtin.min_ #[3, 3] 3 #[.int .i64 (l.length : Int), .int .i64 200]).run Try.prog W = .ok (.int .i64 (n : Int)) W := min_run l.length 200 n hn
  have hn2 : n ≤ l.length ∧ n ≤ 200 := by omega
  clear hl hf1 hf2 hf3 hf4 hn
  obtain ⟨i0, hi, hz0, hz1, hz2⟩ := info_parts infoB
  go_enter Try.func6, Try.ntmps6
  go_wp2_with (fail)
  refine (works_any _).mono ?_
  rintro e w1 ⟨rfl, hm1⟩
  go_wp2_with (fail)
  refine (tNew_ok 1 9 3 ac w1 rfl ⟨by omega, by omega⟩).mono ?_
  rintro e w2 ⟨s, X, rfl, hTs, hm2, hX⟩
  have hM2 := hm1.and hm2
  go_wp2_with (fail)
  refine (tNew_ok 2 3 3 true w2 rfl ⟨by omega, by omega⟩).mono ?_
  rintro e w3 ⟨t, Y, rfl, hTt, hm3, hY⟩
  have hEv : Ev w w3 s t X Y (tn0 1 9 3 ac) (tn0 2 3 3 true) (fun _ => none) (fun _ => none) 0 (.slice none 0 0) [] 0 :=
    ⟨hM2.and hm3, hTs.mod hm3 (fun _ _ h => h), ok0 ac rfl ⟨by omega, by omega⟩, ⟨rfl, rfl, rfl, rfl⟩, hTt, ok0 true rfl ⟨by omega, by omega⟩, rfl, fun i hi hy => by have := hTs.lt i hi; have := hY i hy; omega, fun i hi => Nat.le_trans hm1.size (hX i hi), fun i hi => Nat.le_trans hM2.size (hY i hi), World.ownsRow_nil _ _ _ _, by intro g hg; simp [Value.ownBlock] at hg, by intro k hk; simp at hk, by intro k g hk; simp at hk⟩
  have hSn : Hid (Sn (fun _ => none) 0 0 0) := .inl ⟨rfl, rfl⟩
  clear hm1 hm2 hm3 hTs hTt hX hY hM2
  generalize tn0 1 9 3 ac = a0 at hEv
  generalize tn0 2 3 3 true = b0 at hEv
  go_wp2
  go_loopw [9, 10, 12] (fun lt fr i wr => ∃ (I D : Nat) (vs : List Value) (v : Value) (Y : Nat → Prop) (a b : Tn) (Kt : Int → Option Kw) (N : Nat), v = lt ∧ fr = .int .i64 (D : Int) ∧ i = .int .i64 (I : Int) ∧ I ≤ n ∧ D + vs.length = I ∧ vs.length ≤ 7 ∧ N ≤ 1000 * I ∧ Hid (I = n → vs = []) ∧ Ev w wr s t X Y a b (fun _ => none) Kt N v vs D ∧ Hid (Sn Kt D D D)) (fun _ _ i _ => n - (intOf i).toNat)
  case atStart => exact ⟨0, 0, [], _, Y, a0, b0, _, 0, rfl, rfl, rfl, by omega, rfl, by simp, by omega, fun _ => rfl, hEv, hSn⟩
  case round =>
    obtain ⟨I, D, vs, v, Y, a, b, Kt, N, rfl, rfl, rfl, hI, hDI, hvs, hN, hend, hE, hS⟩ := hrel
    clear hEv hSn
    by_cases hlt : I < n
    · have hi' : (I : Int) < (n : Int) := by omega
      have hu8 : IntKind.u8.wrap (I : Int) = (I : Int) := by rw [IntKind.wrap_u8']; omega
      have h256 : (I : Int) / 256 = 0 := by omega
      have hsl := Sl.lit wr [(I : Int), 0] (by simp [maxLen]) (by intro c hc; simp only [List.mem_cons, List.not_mem_nil, or_false] at hc; rcases hc with rfl | rfl <;> omega)
      have hEa := hE.mod ((Mod.refl (fun _ => False) wr).alloc (.cells (U [(I : Int), 0]).toArray 5))
      have HW := hEa.wrap (by omega) _ (by rw [hDI]; exact hsl) (by omega)
      clear hend hsl hE
      go_wp2_with (fail)
      refine HW.mono ?_
      rintro e w4 ⟨aox, nx, capx, ov, rfl, ⟨hov1, hov7⟩, hx, hxg, hTs, hmw⟩
      have ho1 : ¬ (ov : Int) < 1 := by omega
      have ho7 : ¬ (7 : Int) < ov := by omega
      have hvl : vs.length + 1 ≤ 8 := by omega
      have hrow := row_mod (row_mod hEa.row hmw (fun g hg e => (hEa.rowx g hg).2.1 (e ▸ hEa.ts.px))) ((Mod.refl (fun _ => False) w4).alloc (.cells #[.slice aox nx capx] 22)) (fun _ _ h => h)
      clear HW
      obtain ⟨lb, lof, rfl, _⟩ := HLc.out w (Mod.refl _ w) I (by omega)
      obtain ⟨x, hxx⟩ : ∃ x, x = l.getD I 0 := ⟨_, rfl⟩
      have lcell : ∀ W, Mod (fun _ => False) w W → W.cell? ⟨lb, lof + I, none⟩ = some (.int .i64 x) := fun W hW => by
        obtain ⟨b', off', e', hc'⟩ := HLc.out W hW I (by omega)
        cases e'
        rw [hxx]; exact hc'
      have hIl : (I : Int) < (l.length : Int) := by omega
      clear hxx
      have o1 : vs.length + 1 ≤ maxLen := by simp only [maxLen]; omega
      have o2 : (vs.length + 1) * 24 ≤ 140737488355328 := by omega
      clear hu8 h256
      obtain ⟨C, hC⟩ : ∃ C : Bool, C = ((bits .and .i64 (x / 8) 1 == 1) && (decide (vs.length + 1 < 8) && decide (I + 1 < n))) := ⟨_, rfl⟩
      have HC : Hid (C = ((bits .and .i64 (x / 8) 1 == 1) && (decide (vs.length + 1 < 8) && decide (I + 1 < n)))) := hC
      clear hC
      go_upto_region 17 with (at_builtin; refine wpList_append_lies _ rfl _ _ 31 rfl 0 22 i0 (.slice none 0 0) 1 24 Try.underlying31 hi hz0 hz1 hz2 rfl (by decide) v vs.length vs rfl hrow ⟨w4.heap.size, 0, none⟩ 1 1 [.slice aox nx capx] rfl rfl (app1v w4 (.slice aox nx capx) _) (by intro u hu; simp only [List.mem_singleton] at hu; subst hu; rfl) (Nat.zero_lt_one) o1 o2 (Nat.zero_le _) (w4.heap.size + 1) (by simp) ?_; intro g1 cap1 w5 hown1 hgrow hg hlt5; have hE5 := hEa.push hx hxg hTs hmw hown1 hgrow (by intro g' hg'; simp only [Value.ownBlock, Option.some.injEq] at hg'; subst hg'; exact hg); have lc := lcell w5 hE5.m)
      go_cut [91] (fun s wx => s = .bool C ∧ wx = w5)
      case first =>
        by_cases h8 : vs.length + 1 < 8
        · have h8i : (vs.length : Int) + 1 < 8 := by go_light; omega
          by_cases h1n : I + 1 < n
          · have h1i : (I : Int) + 1 < (n : Int) := by go_light; omega
            cases hb8 : (bits .and .i64 (x / 8) 1 == 1)
            all_goals
              have hCv := HC.out
              rw [hb8, decide_eq_true h8, decide_eq_true h1n] at hCv
              have HCv : Hid (C = _) := hCv
              clear hCv
              go_wp2
              go_meet
              exact ⟨by first | (rw [HCv.out]; rfl) | rw [HCv.out], rfl⟩
          · have h1i : ¬ (I : Int) + 1 < (n : Int) := by go_light; omega
            cases hb8 : (bits .and .i64 (x / 8) 1 == 1)
            all_goals
              have hCv := HC.out
              rw [hb8, decide_eq_true h8, decide_eq_false h1n] at hCv
              have HCv : Hid (C = _) := hCv
              clear hCv
              go_wp2
              go_meet
              exact ⟨by first | (rw [HCv.out]; rfl) | rw [HCv.out], rfl⟩
        · have h8i : ¬ (vs.length : Int) + 1 < 8 := by go_light; omega
          cases hb8 : (bits .and .i64 (x / 8) 1 == 1)
          all_goals
            have hCv := HC.out
            rw [hb8, decide_eq_false h8, Bool.false_and] at hCv
            have HCv : Hid (C = _) := hCv
            clear hCv
            go_wp2
            go_meet
            exact ⟨by first | (rw [HCv.out]; rfl) | rw [HCv.out], rfl⟩
      case rest =>
        obtain ⟨rfl, rfl⟩ := hcut
        cases C with
        | true =>
          have hcc : vs.length + 1 < 8 ∧ I + 1 < n := by
            have h := HC.out
            simp only [Bool.true_eq, Bool.and_eq_true, decide_eq_true_eq] at h
            exact h.2
          clear HC
          go_wp2
          go_roundw
          case rel => exact ⟨I + 1, D, vs ++ [.slice aox nx capx], _, Y, a.wrap, b, Kt, N + 1, rfl, rfl, by go_num, by go_light; omega, by simp; omega, by simp; omega, by go_light; omega, fun e => by go_light; omega, hE5, hS⟩
          case measure => simp [intOf]; omega
        | false =>
          clear HC
          have hE6 : Hid (Ev w wc s t X Y a.wrap b (fun _ => none) Kt (N + 1) (.slice (some ⟨g1, 0, none⟩) (vs.length + 1) cap1) (vs ++ [.slice aox nx capx]) D) := hE5
          clear hE5 hown1 hgrow hg hlt5 lc
          obtain ⟨J, hJ⟩ : ∃ J, J = vs.length + 1 := ⟨_, rfl⟩
          have hvl1 : (vs ++ [Value.slice aox nx capx]).length = J := by simp [hJ]
          rw [← hJ] at hE6
          have eJ : (vs.length : Int) = (J : Int) - 1 := by go_light; omega
          have eJ2 : vs.length + 1 = J := hJ.symm
          have hJ8 : J ≤ 8 := by go_light; omega
          have hJ1 : 1 ≤ J := by go_light; omega
          have hDJ : D + J = I + 1 := by go_light; omega
          generalize vs ++ [Value.slice aox nx capx] = vs1 at *
          generalize a.wrap = a1 at *
          clear hDI hvs hEa hx hxg hTs hmw hrow hvl
          have HJ : Hid (J = vs.length + 1) := hJ
          have HVL : Hid (vs1.length = J) := hvl1
          have HDJ : Hid (D + J = I + 1) := hDJ
          clear hJ hvl1 hDJ o1 o2 hmin HLc
          rw [eJ2]
          clear eJ eJ2 HJ
          go_wp2
          go_loopw [10, 16] (fun fr k wr => ∃ (kk : Nat) (T : Int) (Y : Nat → Prop) (b : Tn) (Kt : Int → Option Kw) (N' : Nat), k = .int .i64 ((kk : Int) - 1) ∧ kk ≤ J ∧ fr = .int .i64 ((D : Int) + ((J : Int) - (kk : Int))) ∧ N' ≤ 1000 * I + 1 + 6 * (J - kk) ∧ Ev w wr s t X Y a1 b (fun _ => none) Kt N' (.slice (some ⟨g1, 0, none⟩) J cap1) vs1 D ∧ Hid ((T = D ∧ kk = J) ∨ (T = (D : Int) + J ∧ kk < J)) ∧ Hid (Sn Kt D ((D : Int) + kk) T)) (fun _ k _ => (intOf k + 1).toNat)
          case atStart => exact ⟨J, D, Y, b, Kt, N + 1, rfl, by go_light; omega, by congr 2; omega, by go_light; omega, hE6.out, .inl ⟨rfl, rfl⟩, hS.out.start (by go_light; omega)⟩
          case round =>
            obtain ⟨kk, T, Y2, b2, Kt2, N2, rfl, hkk, rfl, hN2, hE7, hT, hS2⟩ := hrel
            clear hE6 hS
            by_cases hk0 : 0 < kk
            · obtain ⟨j, rfl⟩ : ∃ j, kk = j + 1 := ⟨kk - 1, by go_light; omega⟩
              have ej : (((j + 1 : Nat) : Int) - 1) = (j : Int) := by go_light; omega
              rw [ej]
              obtain ⟨fv, hfv⟩ : ∃ fv, fv = (D : Int) + ((J : Int) - ((j + 1 : Nat) : Int)) := ⟨_, rfl⟩
              rw [← hfv]
              have HFV : Hid (fv = (D : Int) + ((J : Int) - ((j + 1 : Nat) : Int))) := hfv
              clear hfv
              have hfvr : 0 ≤ fv ∧ fv ≤ 1000 := by have := HFV.out; have := HDJ.out; omega
              have hj0 : (0 : Int) ≤ (j : Int) := by go_light; omega
              have hTb : Hid ((T = D ∧ j + 1 = J) ∨ (T = (D : Int) + J ∧ j + 1 < J)) := hT
              clear ej
              go_wp2
              go_loopw [17, 18] (fun se la wr => ∃ (L q : Nat) (Y : Nat → Prop) (b : Tn) (Kt : Int → Option Kw) (N' : Nat), la = .int .i64 (L : Int) ∧ L ≤ 3 ∧ se = .int .i64 (q : Int) ∧ Hid ((q = 0 ∧ L ≤ I % 3 ∧ Sn Kt D ((D : Int) + (j + 1 : Nat)) T) ∨ (q = 1 ∧ Sn Kt D ((D : Int) + (j + 1 : Nat) - 1) (max T ((D : Int) + (j + 1 : Nat))))) ∧ N' ≤ 1000 * I + 1 + 6 * (J - (j + 1)) + 2 * L ∧ Ev w wr s t X Y a1 b (fun _ => none) Kt N' (.slice (some ⟨g1, 0, none⟩) J cap1) vs1 D) (fun _ la _ => 3 - (intOf la).toNat)
              case atStart => exact ⟨0, 0, Y2, b2, Kt2, N2, rfl, by go_light; omega, rfl, .inl ⟨rfl, by go_light; omega, hS2.out⟩, by go_light; omega, hE7⟩
              case round =>
                obtain ⟨L, q, Y3, b3, Kt3, N3, rfl, hL, rfl, hq, hN3, hE8⟩ := hrel
                clear hE7 hS2
                by_cases hL3 : L < 3
                · have hLi : (L : Int) < 3 := by go_light; omega
                  have lc := lcell wr hE8.m
                  have h4 : Hid (bits .and .i64 (x / 16) 1 = 0 ∨ bits .and .i64 (x / 16) 1 = 1) := and1_any (x / 16)
                  have hL0 : (0 : Int) ≤ (L : Int) := by omega
                  by_cases hr : L = I % 3
                  · have hne : ((L : Int) != (I : Int) % 3) = false := by simp; omega
                    have hne2 : ((L : Int) != (I : Int).tmod 3) = false := by rw [Int.tmod_eq_emod_of_nonneg (by omega)]; exact hne
                    clear hr
                    cases hbL : (bits .and .i64 (x / 2 ^ L) 1 == 0)
                    · obtain ⟨y, hy, hy01⟩ : ∃ y, bits .and .i64 (x / 16) 1 = y ∧ (0 ≤ y ∧ y ≤ 1) := ⟨_, rfl, by rcases h4.out with h | h <;> rw [h] <;> decide⟩
                      have HY : Hid (bits .and .i64 (x / 16) 1 = y) := hy
                      clear h4 hy
                      go_wp2
                      clear hbL hne hne2
                      go_loopw [17, 19] (fun se ag wr => ∃ (g q : Nat) (Y : Nat → Prop) (b : Tn) (Kt : Int → Option Kw) (N' : Nat), ag = .int .i64 (g : Int) ∧ (g : Int) ≤ 1 + y ∧ se = .int .i64 (q : Int) ∧ Hid ((q = 0 ∧ g = 0 ∧ Sn Kt D ((D : Int) + (j + 1 : Nat)) T) ∨ (q = 1 ∧ Sn Kt D ((D : Int) + (j + 1 : Nat) - 1) (max T ((D : Int) + (j + 1 : Nat))))) ∧ N' ≤ N3 + g ∧ Ev w wr s t X Y a1 b (fun _ => none) Kt N' (.slice (some ⟨g1, 0, none⟩) J cap1) vs1 D) (fun _ ag _ => 2 - (intOf ag).toNat)
                      case atStart => exact ⟨0, q, Y3, b3, Kt3, N3, rfl, by go_light; omega, rfl, by rcases hq.out with h | h; exact .inl ⟨h.1, rfl, h.2.2⟩; exact .inr h, by go_light; omega, hE8⟩
                      case round =>
                        obtain ⟨g, q4, Y4, b4, Kt4, N4, rfl, hg, rfl, hq4, hN4, hE9⟩ := hrel
                        clear hE8 lc hq
                        have lc := lcell wr hE9.m
                        by_cases hg1 : (g : Int) < 1 + y
                        · obtain ⟨g1', cap', e', hc⟩ := hE9.cell j (by have := HVL.out; omega)
                          simp only [Value.slice.injEq, Option.some.injEq, Addr.mk.injEq, and_true] at e'
                          have hgg : g1' = g1 := e'.1.symm
                          subst hgg
                          clear e'
                          have HU := hE9.unwrap (by have := HDJ.out; omega) L j (by go_light; omega) (by have := HVL.out; omega) (by have := HDJ.out; omega)
                          have eE : ((D + j + 1 : Nat) : Int) = (D : Int) + ((j + 1 : Nat) : Int) := by go_light; omega
                          have hjJ : (j : Int) < (J : Int) := by go_light; omega
                          rw [eE] at HU
                          generalize vs1.getD j undef = xv at hc HU
                          rcases hq4.out with ⟨rfl, rfl, hSA⟩ | ⟨rfl, hSB⟩
                          · obtain ⟨n1, n2⟩ := hSA.new (by go_light; omega) (by go_light; omega) (by rcases hTb.out with h | h <;> omega) (by rcases hTb.out with h | h <;> omega)
                            rw [n1] at HU
                            have HN2 : Hid (Sn (nwK Kt4 1 9 ((D : Int) + (j + 1 : Nat))) D ((D : Int) + (j + 1 : Nat) - 1) (max T ((D : Int) + (j + 1 : Nat)))) := n2
                            clear n1 n2 hSA hq4 eE
                            have hy := HY.out
                            go_wp2_with (fail)
                            clear hy
                            refine HU.mono ?_
                            rintro e w' ⟨ao', cap'', Y', rfl, hE10⟩
                            go_wp2
                            go_roundw
                            case rel => exact ⟨1, 1, Y', _, _, N4 + 1, by first | rfl | go_num, by go_light; omega, by first | rfl | go_num, .inr ⟨rfl, HN2.out⟩, by go_light; omega, hE10⟩
                            case measure => simp [intOf]
                          · obtain ⟨n1, n2⟩ := hSB.old (by go_light; omega) (by go_light; omega)
                            rw [show (D : Int) + ((j + 1 : Nat) : Int) - 1 + 1 = (D : Int) + ((j + 1 : Nat) : Int) by go_light; omega] at n1 n2
                            rw [n1] at HU
                            have HN2 : Hid (Sn (nwK Kt4 1 9 ((D : Int) + (j + 1 : Nat))) D ((D : Int) + (j + 1 : Nat) - 1) (max T ((D : Int) + (j + 1 : Nat)))) := n2
                            have hg2 : g ≤ 1 := by go_light; omega
                            clear n1 n2 hSB hq4 eE
                            have hy := HY.out
                            go_wp2_with (fail)
                            clear hy
                            refine HU.mono ?_
                            rintro e w' ⟨ao', cap'', Y', rfl, hE10⟩
                            go_wp2
                            go_roundw
                            case rel => exact ⟨g + 1, 1, Y', _, _, N4 + 1, by first | rfl | go_num, by go_light; omega, by first | rfl | go_num, .inr ⟨rfl, HN2.out⟩, by go_light; omega, hE10⟩
                            case measure => simp [intOf]; omega
                        · rcases hq4.out with ⟨_, rfl, _⟩ | ⟨rfl, hSB⟩
                          · omega
                          have HSB : Hid (Sn Kt4 D ((D : Int) + (j + 1 : Nat) - 1) (max T ((D : Int) + (j + 1 : Nat)))) := hSB
                          clear hq4 hSB
                          have hy := HY.out
                          go_wp2
                          clear hy
                          go_roundw
                          case rel => exact ⟨L + 1, 1, Y4, b4, Kt4, N4, by first | rfl | go_num, by go_light; omega, rfl, .inr ⟨rfl, HSB.out⟩, by go_light; omega, hE9⟩
                          case measure => simp [intOf]; try omega
                    · obtain ⟨y, hy, hy01⟩ : ∃ y, bits .and .i64 (x / 16) 1 = y ∧ (0 ≤ y ∧ y ≤ 1) := ⟨_, rfl, by rcases h4.out with h | h <;> rw [h] <;> decide⟩
                      have HY : Hid (bits .and .i64 (x / 16) 1 = y) := hy
                      clear h4 hy
                      go_wp2
                      clear hbL hne hne2
                      go_loopw [17, 19] (fun se ag wr => ∃ (g q : Nat) (Y : Nat → Prop) (b : Tn) (Kt : Int → Option Kw) (N' : Nat), ag = .int .i64 (g : Int) ∧ (g : Int) ≤ 1 + y ∧ se = .int .i64 (q : Int) ∧ Hid ((q = 0 ∧ g = 0 ∧ Sn Kt D ((D : Int) + (j + 1 : Nat)) T) ∨ (q = 1 ∧ Sn Kt D ((D : Int) + (j + 1 : Nat) - 1) (max T ((D : Int) + (j + 1 : Nat))))) ∧ N' ≤ N3 + g ∧ Ev w wr s t X Y a1 b (fun _ => none) Kt N' (.slice (some ⟨g1, 0, none⟩) J cap1) vs1 D) (fun _ ag _ => 2 - (intOf ag).toNat)
                      case atStart => exact ⟨0, q, Y3, b3, Kt3, N3, rfl, by go_light; omega, rfl, by rcases hq.out with h | h; exact .inl ⟨h.1, rfl, h.2.2⟩; exact .inr h, by go_light; omega, hE8⟩
                      case round =>
                        obtain ⟨g, q4, Y4, b4, Kt4, N4, rfl, hg, rfl, hq4, hN4, hE9⟩ := hrel
                        clear hE8 lc hq
                        have lc := lcell wr hE9.m
                        by_cases hg1 : (g : Int) < 1 + y
                        · obtain ⟨g1', cap', e', hc⟩ := hE9.cell j (by have := HVL.out; omega)
                          simp only [Value.slice.injEq, Option.some.injEq, Addr.mk.injEq, and_true] at e'
                          have hgg : g1' = g1 := e'.1.symm
                          subst hgg
                          clear e'
                          have HU := hE9.unwrap (by have := HDJ.out; omega) L j (by go_light; omega) (by have := HVL.out; omega) (by have := HDJ.out; omega)
                          have eE : ((D + j + 1 : Nat) : Int) = (D : Int) + ((j + 1 : Nat) : Int) := by go_light; omega
                          have hjJ : (j : Int) < (J : Int) := by go_light; omega
                          rw [eE] at HU
                          generalize vs1.getD j undef = xv at hc HU
                          rcases hq4.out with ⟨rfl, rfl, hSA⟩ | ⟨rfl, hSB⟩
                          · obtain ⟨n1, n2⟩ := hSA.new (by go_light; omega) (by go_light; omega) (by rcases hTb.out with h | h <;> omega) (by rcases hTb.out with h | h <;> omega)
                            rw [n1] at HU
                            have HN2 : Hid (Sn (nwK Kt4 1 9 ((D : Int) + (j + 1 : Nat))) D ((D : Int) + (j + 1 : Nat) - 1) (max T ((D : Int) + (j + 1 : Nat)))) := n2
                            clear n1 n2 hSA hq4 eE
                            have hy := HY.out
                            go_wp2_with (fail)
                            clear hy
                            refine HU.mono ?_
                            rintro e w' ⟨ao', cap'', Y', rfl, hE10⟩
                            go_wp2
                            go_roundw
                            case rel => exact ⟨1, 1, Y', _, _, N4 + 1, by first | rfl | go_num, by go_light; omega, by first | rfl | go_num, .inr ⟨rfl, HN2.out⟩, by go_light; omega, hE10⟩
                            case measure => simp [intOf]
                          · obtain ⟨n1, n2⟩ := hSB.old (by go_light; omega) (by go_light; omega)
                            rw [show (D : Int) + ((j + 1 : Nat) : Int) - 1 + 1 = (D : Int) + ((j + 1 : Nat) : Int) by go_light; omega] at n1 n2
                            rw [n1] at HU
                            have HN2 : Hid (Sn (nwK Kt4 1 9 ((D : Int) + (j + 1 : Nat))) D ((D : Int) + (j + 1 : Nat) - 1) (max T ((D : Int) + (j + 1 : Nat)))) := n2
                            have hg2 : g ≤ 1 := by go_light; omega
                            clear n1 n2 hSB hq4 eE
                            have hy := HY.out
                            go_wp2_with (fail)
                            clear hy
                            refine HU.mono ?_
                            rintro e w' ⟨ao', cap'', Y', rfl, hE10⟩
                            go_wp2
                            go_roundw
                            case rel => exact ⟨g + 1, 1, Y', _, _, N4 + 1, by first | rfl | go_num, by go_light; omega, by first | rfl | go_num, .inr ⟨rfl, HN2.out⟩, by go_light; omega, hE10⟩
                            case measure => simp [intOf]; omega
                        · rcases hq4.out with ⟨_, rfl, _⟩ | ⟨rfl, hSB⟩
                          · omega
                          have HSB : Hid (Sn Kt4 D ((D : Int) + (j + 1 : Nat) - 1) (max T ((D : Int) + (j + 1 : Nat)))) := hSB
                          clear hq4 hSB
                          have hy := HY.out
                          go_wp2
                          clear hy
                          go_roundw
                          case rel => exact ⟨L + 1, 1, Y4, b4, Kt4, N4, by first | rfl | go_num, by go_light; omega, rfl, .inr ⟨rfl, HSB.out⟩, by go_light; omega, hE9⟩
                          case measure => simp [intOf]; try omega
                  · have hne : ((L : Int) != (I : Int) % 3) = true := by simp; omega
                    have hne2 : ((L : Int) != (I : Int).tmod 3) = true := by rw [Int.tmod_eq_emod_of_nonneg (by omega)]; exact hne
                    have HR : Hid (¬ L = I % 3) := hr
                    clear hr
                    cases hbL : (bits .and .i64 (x / 2 ^ L) 1 == 0)
                    · obtain ⟨y, hy, hy01⟩ : ∃ y, bits .and .i64 (x / 16) 1 = y ∧ (0 ≤ y ∧ y ≤ 1) := ⟨_, rfl, by rcases h4.out with h | h <;> rw [h] <;> decide⟩
                      have HY : Hid (bits .and .i64 (x / 16) 1 = y) := hy
                      clear h4 hy
                      go_wp2
                      clear hbL hne hne2
                      go_loopw [17, 19] (fun se ag wr => ∃ (g q : Nat) (Y : Nat → Prop) (b : Tn) (Kt : Int → Option Kw) (N' : Nat), ag = .int .i64 (g : Int) ∧ (g : Int) ≤ 1 + y ∧ se = .int .i64 (q : Int) ∧ Hid ((q = 0 ∧ g = 0 ∧ Sn Kt D ((D : Int) + (j + 1 : Nat)) T) ∨ (q = 1 ∧ Sn Kt D ((D : Int) + (j + 1 : Nat) - 1) (max T ((D : Int) + (j + 1 : Nat))))) ∧ N' ≤ N3 + g ∧ Ev w wr s t X Y a1 b (fun _ => none) Kt N' (.slice (some ⟨g1, 0, none⟩) J cap1) vs1 D) (fun _ ag _ => 2 - (intOf ag).toNat)
                      case atStart => exact ⟨0, q, Y3, b3, Kt3, N3, rfl, by go_light; omega, rfl, by rcases hq.out with h | h; exact .inl ⟨h.1, rfl, h.2.2⟩; exact .inr h, by go_light; omega, hE8⟩
                      case round =>
                        obtain ⟨g, q4, Y4, b4, Kt4, N4, rfl, hg, rfl, hq4, hN4, hE9⟩ := hrel
                        clear hE8 lc hq
                        have lc := lcell wr hE9.m
                        by_cases hg1 : (g : Int) < 1 + y
                        · obtain ⟨g1', cap', e', hc⟩ := hE9.cell j (by have := HVL.out; omega)
                          simp only [Value.slice.injEq, Option.some.injEq, Addr.mk.injEq, and_true] at e'
                          have hgg : g1' = g1 := e'.1.symm
                          subst hgg
                          clear e'
                          have HU := hE9.unwrap (by have := HDJ.out; omega) L j (by go_light; omega) (by have := HVL.out; omega) (by have := HDJ.out; omega)
                          have eE : ((D + j + 1 : Nat) : Int) = (D : Int) + ((j + 1 : Nat) : Int) := by go_light; omega
                          have hjJ : (j : Int) < (J : Int) := by go_light; omega
                          rw [eE] at HU
                          generalize vs1.getD j undef = xv at hc HU
                          rcases hq4.out with ⟨rfl, rfl, hSA⟩ | ⟨rfl, hSB⟩
                          · obtain ⟨n1, n2⟩ := hSA.new (by go_light; omega) (by go_light; omega) (by rcases hTb.out with h | h <;> omega) (by rcases hTb.out with h | h <;> omega)
                            rw [n1] at HU
                            have HN2 : Hid (Sn (nwK Kt4 1 9 ((D : Int) + (j + 1 : Nat))) D ((D : Int) + (j + 1 : Nat) - 1) (max T ((D : Int) + (j + 1 : Nat)))) := n2
                            clear n1 n2 hSA hq4 eE
                            have hy := HY.out
                            go_wp2_with (fail)
                            clear hy
                            refine HU.mono ?_
                            rintro e w' ⟨ao', cap'', Y', rfl, hE10⟩
                            go_wp2
                            go_roundw
                            case rel => exact ⟨1, 1, Y', _, _, N4 + 1, by first | rfl | go_num, by go_light; omega, by first | rfl | go_num, .inr ⟨rfl, HN2.out⟩, by go_light; omega, hE10⟩
                            case measure => simp [intOf]
                          · obtain ⟨n1, n2⟩ := hSB.old (by go_light; omega) (by go_light; omega)
                            rw [show (D : Int) + ((j + 1 : Nat) : Int) - 1 + 1 = (D : Int) + ((j + 1 : Nat) : Int) by go_light; omega] at n1 n2
                            rw [n1] at HU
                            have HN2 : Hid (Sn (nwK Kt4 1 9 ((D : Int) + (j + 1 : Nat))) D ((D : Int) + (j + 1 : Nat) - 1) (max T ((D : Int) + (j + 1 : Nat)))) := n2
                            have hg2 : g ≤ 1 := by go_light; omega
                            clear n1 n2 hSB hq4 eE
                            have hy := HY.out
                            go_wp2_with (fail)
                            clear hy
                            refine HU.mono ?_
                            rintro e w' ⟨ao', cap'', Y', rfl, hE10⟩
                            go_wp2
                            go_roundw
                            case rel => exact ⟨g + 1, 1, Y', _, _, N4 + 1, by first | rfl | go_num, by go_light; omega, by first | rfl | go_num, .inr ⟨rfl, HN2.out⟩, by go_light; omega, hE10⟩
                            case measure => simp [intOf]; omega
                        · rcases hq4.out with ⟨_, rfl, _⟩ | ⟨rfl, hSB⟩
                          · omega
                          have HSB : Hid (Sn Kt4 D ((D : Int) + (j + 1 : Nat) - 1) (max T ((D : Int) + (j + 1 : Nat)))) := hSB
                          clear hq4 hSB
                          have hy := HY.out
                          go_wp2
                          clear hy
                          go_roundw
                          case rel => exact ⟨L + 1, 1, Y4, b4, Kt4, N4, by first | rfl | go_num, by go_light; omega, rfl, .inr ⟨rfl, HSB.out⟩, by go_light; omega, hE9⟩
                          case measure => simp [intOf]; try omega
                    · go_wp2
                      clear hbL hne hne2 h4
                      go_roundw
                      case rel => exact ⟨L + 1, q, Y3, b3, Kt3, N3, by first | rfl | go_num, by go_light; omega, rfl, by rcases hq.out with h | h; exact .inl ⟨h.1, by have := HR.out; omega, h.2.2⟩; exact .inr h, by go_light; omega, hE8⟩
                      case measure => simp [intOf]; try omega
                · obtain rfl : L = 3 := by go_light; omega
                  rcases hq.out with ⟨_, h3, _⟩ | ⟨rfl, hSB⟩
                  · omega
                  have HSB : Hid (Sn Kt3 D ((D : Int) + (j + 1 : Nat) - 1) (max T ((D : Int) + (j + 1 : Nat)))) := hSB
                  clear hq hSB
                  go_wp2
                  go_roundw
                  case rel => exact ⟨j, max T ((D : Int) + (j + 1 : Nat)), Y3, b3, Kt3, N3, by first | rfl | go_num, by go_light; omega, by congr 1; have := HFV.out; omega, by go_light; omega, hE8, .inr (by rcases hTb.out with h | h <;> omega), by have := HSB.out; rw [show (D : Int) + (j + 1 : Nat) - 1 = (D : Int) + (j : Nat) by go_light; omega] at this; exact this⟩
                  case measure => simp [intOf]; try omega
            · obtain rfl : kk = 0 := by go_light; omega
              have hT0 : T = (D : Int) + J := by rcases hT.out with h | h <;> omega
              have hDJ := HDJ.out
              have hvl1 := HVL.out
              have HS3 : Hid (Sn Kt2 ((I + 1 : Nat) : Int) ((I + 1 : Nat) : Int) ((I + 1 : Nat) : Int)) := by
                have h := hS2.out
                rw [show (D : Int) + ((0 : Nat) : Int) = D by go_light; omega] at h
                have h2 := h.end_ (by go_light; omega) (by go_light; omega)
                rw [show T = ((I + 1 : Nat) : Int) by go_light; omega] at h2
                exact h2
              have hEg := hE7.gone
              rw [hvl1, hDJ] at hEg
              have eF : (D : Int) + ((J : Int) - ((0 : Nat) : Int)) = ((I + 1 : Nat) : Int) := by go_light; omega
              rw [eF]
              clear hS2 hT hT0 hE7 hDJ hvl1 eF
              go_wp2
              go_roundw
              case rel => exact ⟨I + 1, I + 1, [], _, Y2, a1, b2, Kt2, N2, rfl, rfl, by go_num, by go_light; omega, rfl, by simp, by go_light; omega, fun _ => rfl, hEg, HS3⟩
              case measure => simp [intOf]; omega

    · have hIn : I = n := by omega
      have hv0 := hend.out hIn
      subst hv0
      have hDn : D = n := by simpa [hIn] using hDI
      subst hDn
      clear hend hDI
      go_wp2
      go_ret
      exact ⟨by simp, hE.m⟩
namespace twinOnce
open Go.ChangeShapes Go.WideShapes Go.ChangeAt Go.RowKit
set_option maxRecDepth 100000 in
theorem lifted (os : Os) (started : os.Started) (H : Type) (enc : TypeId × Value → H) :
    ReturnsInHanded {} Try.checked os 6 .any (Rows.twinOnceSpec.pre6 enc Try.prog Try.f6 Rows.twinOnceRow.domain false) (Rows.twinOnceSpec.post enc Try.prog Try.f6 false true false false) := by
  refine returnsInHanded_of_change_sized (C := Try.checked) own started (by kernel_rfl) Try.func6
    (ChangeSpec.witness6 (enc := enc) (C := Try.checked) false ⟨#[], #[.bool false, .slice none 0 0], []⟩ 8 (by kernel_rfl) (by kernel_rfl) (by kernel_rfl) (by kernel_rfl)) ?_
  intro W base args ds gs before hval0 hW hcnd hsz0 _
  have hval : ∀ (j : Nat) t v, Try.f6.params[j]? = some t → args[j]? = some v → Value.okWide Try.prog W .any base t v := hval0
  have hsz : (DataW.weightsEach Try.prog (Try.f6.params.toList ++ Rows.twinOnceSpec.plain.varTypes Try.prog) (ds ++ gs)).all (· ≤ reachBytes) = true := hsz0
  have hW' := hW
  obtain ⟨p, q, hA0, hV, rfl, hfz, hnd⟩ := hW
  have hA : DataW.TrodAll enc Try.prog W 0 (fun _ => true) true Try.f6.params.toList args.toList ds p := hA0
  rw [Try.params6] at hA hval hsz
  obtain ⟨v0, vs0, d0, ds0, p0, q0, hargs, rfl, rfl, h0, r0⟩ := trodAll_cons hA
  obtain ⟨v1, vs1, d1, ds1, p1, q1, rfl, rfl, rfl, h1, r1⟩ := trodAll_cons r0
  obtain ⟨rfl, rfl, rfl⟩ := trodAll_nil r1
  obtain rfl : args = #[v0, v1] := by cases args; simp_all
  obtain ⟨rfl, rfl⟩ := trodVars_none hV
  obtain ⟨a0, rfl, rfl, rfl⟩ := open_bool Try.underlying4 (hval 0 4 v0 rfl rfl) h0
  have k1 := h1
  have lt1 : ∀ x ∈ p1, x.block < W.heap.size := by obtain ⟨m, hm⟩ := k1; exact DataW.trod_lt m _ _ _ hm
  obtain ⟨B1, hB1⟩ := open_l h1 (okWide_slice Try.underlying55 (hval 1 55 v1 rfl rfl))
  clear hA0 hval0
  refine (once_walk a0 v1 B1 W hB1).mono fun e W' ⟨he, hm⟩ => ?_
  subst he
  have bel : Below W.heap.size W W' := hm.below _ (Nat.le_refl _) (fun _ h => h.elim)
  exact ⟨_, rfl, _, _, _, [], _, [], hW', trodAll_mk1 (shut_bool Try.underlying4 _), (trodAll_cons_mk (shut_bool Try.underlying4 a0) (trodAll_cons_mk (Below.trod laidOut (by kernel_rfl) (of_decide_eq_true (by kernel_rfl)) k1 bel lt1) trodAll_mk0)), rfl, bel.frame _, fun h => by cases h⟩

theorem over : Rows.twinOnceRow.holds Try.pinned (OpenSpec.ofChange Rows.twinOnceSpec) :=
  OpenClaim.holds_of_wide 6 Try.f6 rfl rfl rfl rfl rfl rfl rfl ⟨rfl, rfl, rfl, rfl, rfl⟩ rfl rfl rfl rfl rfl (by kernel_rfl) Try.func6 (by kernel_rfl)
    (of_decide_eq_true (by kernel_rfl)) (by unfold Func.isWrapper; first | (rw [if_pos (by decide +kernel)]; kernel_rfl) | (rw [if_neg (by decide +kernel)]; exact ⟨rfl, rfl⟩))
    (fun os started H enc _ => lifted os started H enc)
end twinOnce
theorem twinOnce_holds : Rows.TwinOnceSaid := twinOnce.over
end Go.Proofs.Ytlkkbfcedjedoaa
