/- ChangeSame holds. No conditions. -/
import Derived.Test.YtampdkbcijdpcaaBq
namespace Go.Proofs.Ytampdkbcijdpcaa
open Go.RowKit Go.Maps
theorem rise30 : rise 2 1 5 1 = true := by decide +kernel
theorem few30 {J : Int → Option Dt} {a h N : Int} (hp : Wp J a h) (hh : h ≤ 30) (hN : 0 ≤ N) : Few J N 1000000 := fun m hm => by
  rcases Nat.lt_or_ge m 40 with h1 | h1
  · omega
  · have h2 := hp.high.2.2 _ (hm 35 (by omega))
    omega
theorem at30 {N k : Int} (hN : 0 ≤ N) : atOK (⟨2, 1, 0, 0, 30, false, 0⟩ : Cg) (⟨5, 1, 0, 0, 30, false, 9⟩ : Cg) N (kk k) = true := by
  unfold atOK
  rw [decide_eq_false (by omega), rise30, (kk_ok k).1]
  rfl
theorem Ks.at {J : Int → Option Dt} {m a : Int} {zs : List Int} (hk : Ks J m zs) (h : m ≤ a) : Ks J a (zs.filter fun x => decide (a < x)) := ⟨hk.up.sublist List.filter_sublist, fun x => by
  rw [List.mem_filter, hk.mem, decide_eq_true_eq]
  exact ⟨fun h => ⟨h.2, h.1.2⟩, fun h' => ⟨⟨by omega, h'.2⟩, h'.1⟩⟩⟩
theorem far_le {J : Int → Option Dt} {a h : Int} (hp : Wp J a h) {s : Int} {t k : Nat} (ht : (t : Int) ≤ a) (hn : Nc J s t k) : (t : Int) + (k : Int) ≤ a := by
  rcases Int.lt_or_le a ((t : Int) + (k : Int)) with h1 | h1
  · exfalso
    have h2 := cgo_some (hn.on (a - t).toNat (by omega))
    rw [show (t : Int) + ((a - t).toNat : Int) + 1 = a + 1 by omega, hp.aru.2.2] at h2
    cases h2
  · exact h1
set_option maxRecDepth 100000 in
set_option maxHeartbeats 16000000 in
theorem same_walk (v : Value) (L : List Int) (k done safe : Int) (w : World) (hs : Si w v L) (hd : I64 done) (hsf : I64 safe) : Calls Try.prog 4 #[.agg #[v, .int .i64 k], .int .i64 done, .int .i64 safe] w fun e w' => e = .returned (.bool true) ∧ Mod (fun _ => False) w w' := by
  obtain ⟨va, vc, rfl⟩ : ∃ ao c, v = .slice ao L.length c := by
    obtain ⟨ao, cap, e, _⟩ := hs.form
    exact ⟨ao, cap, e⟩
  obtain ⟨w1, ew1⟩ : ∃ W, W = w.alloc (.cells #[.slice va L.length vc, .int .i64 k] 57) := ⟨_, rfl⟩
  obtain ⟨kb, ekb⟩ : ∃ k, k = w.heap.size := ⟨_, rfl⟩
  have hM : Mod (fun _ => False) w w1 := by rw [ew1]; exact (Mod.refl _ w).alloc _
  have hB : Bk w1 kb 57 #[.slice va L.length vc, .int .i64 k] := by rw [ew1, ekb]; exact Bk.new w _ _
  have HM1 : Hid (Mod (fun _ => False) w w1) := hM
  have HB : Hid (Bk w1 kb 57 #[.slice va L.length vc, .int .i64 k]) := hB
  have HSI : Hid (Si w1 (.slice va L.length vc) L) := hs.mod hM
  have HBD := fun W => bring done 32 W (by decide) (by decide) hd
  have HBS := fun W => bring safe 32 W (by decide) (by decide) hsf
  have HN := br_rng done 32 (by decide)
  have HS := br_rng safe 32 (by decide)
  rw [show ((32 : Nat) : Int) = 32 from rfl] at HBD HBS HN HS
  generalize br done 32 = N at HBD HN
  generalize br safe 32 = s at HBS HS
  have HNR : Hid (0 ≤ N ∧ N < 32) := ⟨HN.1, HN.2.1⟩
  have HSR : Hid (0 ≤ s ∧ s < 32) := ⟨HS.1, HS.2.1⟩
  clear hs hd hsf hM hB HN HS
  go_enter Try.func4, Try.ntmps4
  go_upto_region 1 with (fail)
  rw [← ew1, ← ekb]
  clear ew1 ekb
  go_wp2_with (fail)
  refine (awake_any _).mono ?_
  rintro e w2 ⟨rfl, hm2⟩
  have HM2 : Hid (Mod (fun _ => False) w1 w2) := hm2
  clear hm2
  have c0 := (HB.out.mod HM2.out (fun h => h)).cellv (j := 0) rfl
  have c1 := (HB.out.mod HM2.out (fun h => h)).cellv (j := 1) rfl
  go_wp2_with (fail)
  refine (window_w _ L k _ (HSI.out.mod HM2.out)).mono ?_
  rintro e w3 ⟨p, rfl, J, a, h, n, hz, hn, hh, hgd⟩
  have HZ : Hid (Wz w2 w3 (fun _ => False) p J a h n ∧ n ≤ 60 ∧ h ≤ 30 ∧ gdJ J) := ⟨hz, hn, hh, hgd⟩
  clear c0 c1 hz hn hh hgd
  go_wp2_with (fail)
  refine (HBD _).mono ?_
  rintro e w4 ⟨rfl, e1⟩
  replace e1 := e1.symm
  subst e1
  go_wp2_with (fail)
  refine (HBS _).mono ?_
  rintro e w4 ⟨rfl, e1⟩
  replace e1 := e1.symm
  subst e1
  clear HBD HBS
  have hww : Wz w2 w3 (fun _ => False) p J a h n := HZ.out.1
  obtain ⟨X, hX, -, -⟩ := hww.ex
  have HP : Hid (Wp J a h) := hX.wp
  have HA30 : Hid (a ≤ 30) := by have h1 := hX.wp.a_le; have h2 := HZ.out.2.2.1; show _ ≤ _; omega
  have HD1 := delivered21 hX (by have := HZ.out.2.2.1; omega) N
  clear hX hww
  go_wp2_with (fail)
  refine HD1.mono ?_
  rintro e w4 ⟨t1, u1, rfl, ho1, ht1, hm4, hn1⟩
  have HO1 : Hid (Cr.Own w4 u1 ((dl J 0 t1).map (·.n)) ∧ ∀ g, u1.ownBlock = some g → w3.heap.size ≤ g) := ⟨ho1, hn1⟩
  have HT1 : Hid ((t1 : Int) ≤ a) := ht1
  have HM4 : Hid (Mod (fun _ => False) w3 w4) := hm4
  clear ho1 ht1 hm4 hn1 HD1
  obtain ⟨X, hX, -, -⟩ := (HZ.out.1.keep HM4.out).ex
  have HD2 := delivered21 hX (by have := HZ.out.2.2.1; omega) s
  clear hX
  go_wp2_with (fail)
  refine HD2.mono ?_
  rintro e w5 ⟨t2, u2, rfl, ho2, ht2, hm5, hn2⟩
  have HO2 : Hid (Cr.Own w5 u2 ((dl J 0 t2).map (·.n)) ∧ ∀ g, u2.ownBlock = some g → w4.heap.size ≤ g) := ⟨ho2, hn2⟩
  have HT2 : Hid ((t2 : Int) ≤ a) := ht2
  have HM5 : Hid (Mod (fun _ => False) w4 w5) := hm5
  clear ho2 ht2 hm5 hn2 HD2
  have HN1 : Hid ((t1 : Int) ≤ 30 ∧ (t2 : Int) ≤ 30) := by have h1 := HT1.out; have h2 := HT2.out; have h3 := HA30.out; exact ⟨by omega, by omega⟩
  have hZ1 : Hid (Bk _ _ _ _) := Bk.new w5 #[.int .i64 0, .int .i64 0, .int .i64 0, .int .i64 0, .int .i64 0, .bool false, .int .i64 0] 25
  have hA1 := (Mod.refl (fun _ => False) w5).alloc (.cells #[.int .i64 0, .int .i64 0, .int .i64 0, .int .i64 0, .int .i64 0, .bool false, .int .i64 0] 25)
  go_upto_region 9 with (refine wpList_store_row infoCfg rfl rfl _ _ rfl w5.heap.size #[.int .i64 2, .int .i64 1, .int .i64 0, .int .i64 0, .int .i64 30, .bool false, .int .i64 0] rfl rfl hZ1.out rfl rfl rfl ?_; intro w6 hB6 hM6)
  have hq6 : Mod (fun _ => False) w5 w6 := hA1.trans hM6 (V := fun _ => False) (fun _ _ h => h) (fun i hi h => by omega)
  obtain ⟨ga, ega⟩ : ∃ g, g = w5.heap.size := ⟨_, rfl⟩
  rw [← ega] at hB6 ⊢
  have HB6 : Hid (Bk w6 ga 25 #[.int .i64 2, .int .i64 1, .int .i64 0, .int .i64 0, .int .i64 30, .bool false, .int .i64 0]) := hB6
  have HM6 : Hid (Mod (fun _ => False) w5 w6) := hq6
  clear hB6 hM6 hq6 hA1 hZ1 ega
  have hZ2 : Hid (Bk _ _ _ _) := Bk.new w6 #[.int .i64 0, .int .i64 0, .int .i64 0, .int .i64 0, .int .i64 0, .bool false, .int .i64 0] 25
  have hA2 := (Mod.refl (fun _ => False) w6).alloc (.cells #[.int .i64 0, .int .i64 0, .int .i64 0, .int .i64 0, .int .i64 0, .bool false, .int .i64 0] 25)
  go_upto_region 10 with (refine wpList_store_row infoCfg rfl rfl _ _ rfl w6.heap.size #[.int .i64 5, .int .i64 1, .int .i64 0, .int .i64 0, .int .i64 30, .bool false, .int .i64 9] rfl rfl hZ2.out rfl rfl rfl ?_; intro w7 hB7 hM7)
  have hq7 : Mod (fun _ => False) w6 w7 := hA2.trans hM7 (V := fun _ => False) (fun _ _ h => h) (fun i hi h => by omega)
  obtain ⟨gb, egb⟩ : ∃ g, g = w6.heap.size := ⟨_, rfl⟩
  rw [← egb] at hB7 ⊢
  have HB7 : Hid (Bk w7 gb 25 #[.int .i64 5, .int .i64 1, .int .i64 0, .int .i64 0, .int .i64 30, .bool false, .int .i64 9]) := hB7
  have HM7 : Hid (Mod (fun _ => False) w6 w7) := hq7
  clear hB7 hM7 hq7 hA2 hZ2 egb
  have HM37 : Hid (Mod (fun _ => False) w3 w7) := ((HM4.out.and HM5.out).and HM6.out).and HM7.out
  have HM17 : Hid (Mod (fun _ => False) w1 w7) := (HM2.out.and HZ.out.1.mod).and HM37.out
  have HF : ∀ W, Mod (fun _ => False) w7 W → (W.cell? ⟨ga, 0, none⟩ = some (.int .i64 2) ∧ W.cell? ⟨ga, 1, none⟩ = some (.int .i64 1) ∧ W.cell? ⟨ga, 2, none⟩ = some (.int .i64 0) ∧ W.cell? ⟨ga, 3, none⟩ = some (.int .i64 0) ∧ W.cell? ⟨ga, 4, none⟩ = some (.int .i64 30) ∧ W.cell? ⟨ga, 5, none⟩ = some (.bool false) ∧ W.cell? ⟨ga, 6, none⟩ = some (.int .i64 0) ∧ W.cell? ⟨gb, 0, none⟩ = some (.int .i64 5) ∧ W.cell? ⟨gb, 1, none⟩ = some (.int .i64 1) ∧ W.cell? ⟨gb, 2, none⟩ = some (.int .i64 0) ∧ W.cell? ⟨gb, 3, none⟩ = some (.int .i64 0) ∧ W.cell? ⟨gb, 4, none⟩ = some (.int .i64 30) ∧ W.cell? ⟨gb, 5, none⟩ = some (.bool false) ∧ W.cell? ⟨gb, 6, none⟩ = some (.int .i64 9) ∧ W.cell? ⟨kb, 0, none⟩ = some (.slice va L.length vc) ∧ W.cell? ⟨kb, 1, none⟩ = some (.int .i64 k)) := fun W hW => by
    have h1 := (HB6.out.mod HM7.out (fun h => h)).mod hW (fun h => h)
    have h2 := HB7.out.mod hW (fun h => h)
    have h3 := HB.out.mod (HM17.out.and hW) (fun h => h)
    exact ⟨h1.cellv (j := 0) rfl, h1.cellv (j := 1) rfl, h1.cellv (j := 2) rfl, h1.cellv (j := 3) rfl, h1.cellv (j := 4) rfl, h1.cellv (j := 5) rfl, h1.cellv (j := 6) rfl, h2.cellv (j := 0) rfl, h2.cellv (j := 1) rfl, h2.cellv (j := 2) rfl, h2.cellv (j := 3) rfl, h2.cellv (j := 4) rfl, h2.cellv (j := 5) rfl, h2.cellv (j := 6) rfl, h3.cellv (j := 0) rfl, h3.cellv (j := 1) rfl⟩
  have HKIN := fun W => kin_w (.slice va L.length vc) k W ⟨va, _, vc, rfl⟩
  have HAT : ∀ (t : Nat) (sf : Int) (W : World), (t : Int) ≤ 30 → Mod (fun _ => False) w7 W → Calls Try.prog 11 #[.agg #[.int .i64 2, .int .i64 1, .int .i64 0, .int .i64 0, .int .i64 30, .bool false, .int .i64 0, .int .i64 (t : Int), .int .i64 sf], .pointer (some ⟨p, 0, none⟩), .int .i64 (kk k), .agg #[.int .i64 5, .int .i64 1, .int .i64 0, .int .i64 0, .int .i64 30, .bool false, .int .i64 9]] W fun e w' => ∃ (kN : Nat) (v : Value) (es : List (Ev × Value)) (zs : List Int), e = .returned (.tuple #[v, .int .i64 0]) ∧ (Nc J sf t kN ∧ Ks J ((t : Int) + kN) zs ∧ es.map (·.1) = tld J (⟨2, 1, 0, 0, 30, false, 0⟩ : Cg) (⟨5, 1, 0, 0, 30, false, 9⟩ : Cg) (kk k) t kN (zs.map (fun k => (J k).getD d0)) ∧ Re w' W.heap.size v es ∧ es.length ≤ 3000000) ∧ Mod (fun _ => False) W w' := fun t sf W ht hW => by
    obtain ⟨X, hX, -, -⟩ := (HZ.out.1.keep (HM37.out.and hW)).ex
    refine (At_w hX (by have := HZ.out.2.1; omega) (⟨2, 1, 0, 0, 30, false, 0⟩ : Cg) (⟨5, 1, 0, 0, 30, false, 9⟩ : Cg) t sf (kk k) (by unfold I64; omega) (kk_ok k).2 ⟨by decide, by decide⟩ ⟨by decide, by decide⟩ (at30 (by omega)) (few30 hX.wp HZ.out.2.2.1 (by omega))).mono ?_
    rintro e w' ⟨kN, v, es, zs, rfl, h1, -, h2, h3, h4, h5, h6⟩
    exact ⟨kN, v, es, zs, rfl, ⟨h1, h2, h3, h4, h5⟩, h6⟩
  have HM07 : Hid (Mod (fun _ => False) w w7) := HM1.out.and HM17.out
  generalize kk k = kq at *
  have hmod := (Mod.refl (fun _ => False) w7).drew
  obtain ⟨x0, x1, x2, x3, x4, x5, x6, x7, x8, x9, x10, x11, x12, x13, x14, x15⟩ := HF _ hmod
  have ht30 := HN1.out.1
  go_region_held3 (fun U => U.cell? ⟨ga, 0, none⟩ = some (.int .i64 2) ∧ U.cell? ⟨ga, 1, none⟩ = some (.int .i64 1) ∧ U.cell? ⟨ga, 2, none⟩ = some (.int .i64 0) ∧ U.cell? ⟨ga, 3, none⟩ = some (.int .i64 0) ∧ U.cell? ⟨ga, 4, none⟩ = some (.int .i64 30) ∧ U.cell? ⟨ga, 5, none⟩ = some (.bool false) ∧ U.cell? ⟨ga, 6, none⟩ = some (.int .i64 0) ∧ U.cell? ⟨gb, 0, none⟩ = some (.int .i64 5) ∧ U.cell? ⟨gb, 1, none⟩ = some (.int .i64 1) ∧ U.cell? ⟨gb, 2, none⟩ = some (.int .i64 0) ∧ U.cell? ⟨gb, 3, none⟩ = some (.int .i64 0) ∧ U.cell? ⟨gb, 4, none⟩ = some (.int .i64 30) ∧ U.cell? ⟨gb, 5, none⟩ = some (.bool false) ∧ U.cell? ⟨gb, 6, none⟩ = some (.int .i64 9) ∧ U.cell? ⟨kb, 0, none⟩ = some (.slice va L.length vc) ∧ U.cell? ⟨kb, 1, none⟩ = some (.int .i64 k)) (first | with_reducible exact ⟨x0, x1, x2, x3, x4, x5, x6, x7, x8, x9, x10, x11, x12, x13, x14, x15⟩ | with_reducible exact HF _ hmod | go_keep) (first
    | (go_at_call 18; with_reducible refine (HKIN _).mono ?_; rintro e wa ⟨rfl, hmx⟩; replace hmod := hmod.and hmx; obtain ⟨x0, x1, x2, x3, x4, x5, x6, x7, x8, x9, x10, x11, x12, x13, x14, x15⟩ := HF _ hmod)
    | (go_at_call 11; with_reducible refine (HAT t1 N _ ht30 hmod).mono ?_; rintro e wb ⟨k1, v1, es1, z1, rfl, hat, hmx⟩; replace hmod := hmod.and hmx; obtain ⟨x0, x1, x2, x3, x4, x5, x6, x7, x8, x9, x10, x11, x12, x13, x14, x15⟩ := HF _ hmod))
  clear x0 x1 x2 x3 x4 x5 x6 x7 x8 x9 x10 x11 x12 x13 x14 x15 ht30
  have HMB : Hid (Mod (fun _ => False) w7 wb) := hmod
  have HAT1 : Hid (Nc J N t1 k1 ∧ Ks J ((t1 : Int) + k1) z1 ∧ es1.map (·.1) = tld J (⟨2, 1, 0, 0, 30, false, 0⟩ : Cg) (⟨5, 1, 0, 0, 30, false, 9⟩ : Cg) kq t1 k1 (z1.map (fun k => (J k).getD d0)) ∧ Re wb wa.heap.size v1 es1 ∧ es1.length ≤ 3000000) := hat
  clear hmod hat hmx
  go_upto_region 11 with (fail)
  have hmod := (Mod.refl (fun _ => False) wb).drew
  replace HF : ∀ W, Mod (fun _ => False) wb W → (W.cell? ⟨ga, 0, none⟩ = some (.int .i64 2) ∧ W.cell? ⟨ga, 1, none⟩ = some (.int .i64 1) ∧ W.cell? ⟨ga, 2, none⟩ = some (.int .i64 0) ∧ W.cell? ⟨ga, 3, none⟩ = some (.int .i64 0) ∧ W.cell? ⟨ga, 4, none⟩ = some (.int .i64 30) ∧ W.cell? ⟨ga, 5, none⟩ = some (.bool false) ∧ W.cell? ⟨ga, 6, none⟩ = some (.int .i64 0) ∧ W.cell? ⟨gb, 0, none⟩ = some (.int .i64 5) ∧ W.cell? ⟨gb, 1, none⟩ = some (.int .i64 1) ∧ W.cell? ⟨gb, 2, none⟩ = some (.int .i64 0) ∧ W.cell? ⟨gb, 3, none⟩ = some (.int .i64 0) ∧ W.cell? ⟨gb, 4, none⟩ = some (.int .i64 30) ∧ W.cell? ⟨gb, 5, none⟩ = some (.bool false) ∧ W.cell? ⟨gb, 6, none⟩ = some (.int .i64 9) ∧ W.cell? ⟨kb, 0, none⟩ = some (.slice va L.length vc) ∧ W.cell? ⟨kb, 1, none⟩ = some (.int .i64 k)) := fun W hW => HF W (HMB.out.and hW)
  replace HAT := fun (t : Nat) (sf : Int) (W : World) (ht : (t : Int) ≤ 30) (hW : Mod (fun _ => False) wb W) => HAT t sf W ht (HMB.out.and hW)
  obtain ⟨x0, x1, x2, x3, x4, x5, x6, x7, x8, x9, x10, x11, x12, x13, x14, x15⟩ := HF _ hmod
  have ht30 := HN1.out.2
  go_region_held3 (fun U => U.cell? ⟨ga, 0, none⟩ = some (.int .i64 2) ∧ U.cell? ⟨ga, 1, none⟩ = some (.int .i64 1) ∧ U.cell? ⟨ga, 2, none⟩ = some (.int .i64 0) ∧ U.cell? ⟨ga, 3, none⟩ = some (.int .i64 0) ∧ U.cell? ⟨ga, 4, none⟩ = some (.int .i64 30) ∧ U.cell? ⟨ga, 5, none⟩ = some (.bool false) ∧ U.cell? ⟨ga, 6, none⟩ = some (.int .i64 0) ∧ U.cell? ⟨gb, 0, none⟩ = some (.int .i64 5) ∧ U.cell? ⟨gb, 1, none⟩ = some (.int .i64 1) ∧ U.cell? ⟨gb, 2, none⟩ = some (.int .i64 0) ∧ U.cell? ⟨gb, 3, none⟩ = some (.int .i64 0) ∧ U.cell? ⟨gb, 4, none⟩ = some (.int .i64 30) ∧ U.cell? ⟨gb, 5, none⟩ = some (.bool false) ∧ U.cell? ⟨gb, 6, none⟩ = some (.int .i64 9) ∧ U.cell? ⟨kb, 0, none⟩ = some (.slice va L.length vc) ∧ U.cell? ⟨kb, 1, none⟩ = some (.int .i64 k)) (first | with_reducible exact ⟨x0, x1, x2, x3, x4, x5, x6, x7, x8, x9, x10, x11, x12, x13, x14, x15⟩ | with_reducible exact HF _ hmod | go_keep) (first
    | (go_at_call 18; with_reducible refine (HKIN _).mono ?_; rintro e wc ⟨rfl, hmx⟩; replace hmod := hmod.and hmx; obtain ⟨x0, x1, x2, x3, x4, x5, x6, x7, x8, x9, x10, x11, x12, x13, x14, x15⟩ := HF _ hmod)
    | (go_at_call 11; have HMC0 : Hid (wb.heap.size ≤ wc.heap.size) := hmod.size; with_reducible refine (HAT t2 s _ ht30 hmod).mono ?_; rintro e wd ⟨k2, v2, es2, z2, rfl, hat, hmx⟩; replace hmod := hmod.and hmx; obtain ⟨x0, x1, x2, x3, x4, x5, x6, x7, x8, x9, x10, x11, x12, x13, x14, x15⟩ := HF _ hmod))
  clear x0 x1 x2 x3 x4 x5 x6 x7 x8 x9 x10 x11 x12 x13 x14 x15 ht30
  have HMD : Hid (Mod (fun _ => False) wb wd) := hmod
  have HMC : Hid (wb.heap.size ≤ wc.heap.size) := HMC0.out
  have HAT2 : Hid (Nc J s t2 k2 ∧ Ks J ((t2 : Int) + k2) z2 ∧ es2.map (·.1) = tld J (⟨2, 1, 0, 0, 30, false, 0⟩ : Cg) (⟨5, 1, 0, 0, 30, false, 9⟩ : Cg) kq t2 k2 (z2.map (fun k => (J k).getD d0)) ∧ Re wd wc.heap.size v2 es2 ∧ es2.length ≤ 3000000) := hat
  have HMW : Hid (Mod (fun _ => False) w4 wd) := ((((HM5.out.and HM6.out).and HM7.out).and HMB.out).and HMD.out)
  clear hmod hat hmx HF HAT HKIN HMC0
  go_wp2_with (fail)
  refine (numbersOf_w v1 es1 wd (HAT1.out.2.2.2.1.keep HMD.out).row (by have := HAT1.out.2.2.2.2; omega)).mono ?_
  rintro e we ⟨u3, rfl, ho3, hme, -⟩
  have HME : Hid (Mod (fun _ => False) wd we) := hme
  clear hme
  go_wp2_with (fail)
  refine (plain_w u3 _ we ho3 (by have := HAT1.out.2.2.2.2; simp; omega)).mono ?_
  rintro e wf ⟨u4, rfl, ho4, hmf, -⟩
  have HMF : Hid (Mod (fun _ => False) wd wf) := HME.out.and hmf
  have RA := Own.rgI (HO1.out.1.mod (HMW.out.and HMF.out) (fun _ _ h => h))
  have RB := Own.rgI ho4
  obtain ⟨au1, cu1, rfl⟩ := RA.shape
  obtain ⟨au4, cu4, rfl⟩ := RB.shape
  have LA : ((dl J 0 t1).map (·.n)).length ≤ 1000 := by have h1 := dl_len J 0 t1; have h2 := HN1.out.1; simp; omega
  have LB : (pos (es1.map fun x => evN x.1)).length ≤ 3000000 := by
    have h1 := List.length_filter_le (fun x => decide ((0 : Int) < x)) (es1.map fun x => evN x.1)
    have h2 := HAT1.out.2.2.2.2
    simp only [List.length_map] at h1
    show (List.filter _ _).length ≤ _
    omega
  have HLA : Hid (((dl J 0 t1).map (·.n)).length ≤ 1000 ∧ (pos (es1.map fun x => evN x.1)).length ≤ 3000000) := ⟨LA, LB⟩
  have HB1 : Hid (_ : Prop) := show (((dl J 0 t1).map (·.n)).length + (pos (es1.map fun x => evN x.1)).length) * 8 ≤ 140737488355328 by omega
  have HB2 : Hid (_ : Prop) := show ((dl J 0 t1).map (·.n)).length + (pos (es1.map fun x => evN x.1)).length ≤ 9223372036854775807 by omega
  have SGB := SG.of RB (Cr.U_one _)
  have HN1O : Hid (∀ g, (Value.slice au1 ((dl J 0 t1).map (·.n)).length cu1).ownBlock = some g → w3.heap.size ≤ g ∧ g < w4.heap.size) := fun g hg => ⟨HO1.out.2 g hg, HO1.out.1.lt g hg⟩
  clear ho3 ho4 hmf HME LA LB
  generalize hl1 : (dl J 0 t1).map (·.n) = l1 at *
  generalize hl4 : pos (es1.map fun x => evN x.1) = l4 at *
  go_upto_region 15 with (at_builtin; refine wpList_appG elI rfl _ _ rfl _ _ l1.length l4.length (Cr.U l1) (Cr.U l4) rfl rfl RA SGB HB1.out HB2.out (l1.length + l4.length) rfl ?_; intro ax cx wg hRG hmg hfg)
  have HRG : Hid (RG wg 3 1 (.slice ax (l1.length + l4.length) cx) (l1 ++ l4).length (Cr.U (l1 ++ l4))) := by
    show RG _ _ _ _ _ _
    rw [List.length_append, Cr.U_app]
    exact hRG
  have HMG : Hid (Mod (fun i => (Value.slice au1 l1.length cu1).ownBlock = some i) wd wg) := HMF.out.trans hmg (fun _ _ h => h.elim) (fun _ _ h => h)
  have HFG : Hid (∀ g, (Value.slice ax (l1.length + l4.length) cx).ownBlock = some g → (Value.slice au1 l1.length cu1).ownBlock = some g ∨ wd.heap.size ≤ g) := fun g hg => by
    rcases hfg g hg with h1 | h1
    · exact .inl h1
    · exact .inr (Nat.le_trans HMF.out.size h1)
  have HSZ : Hid (w4.heap.size ≤ wd.heap.size ∧ w4.heap.size ≤ wc.heap.size) := ⟨HMW.out.size, by have h1 := HMC.out; have h2 := (((HM5.out.and HM6.out).and HM7.out).and HMB.out).size; omega⟩
  have RE2 : Re wg wc.heap.size v2 es2 := HAT2.out.2.2.2.1.mod HMG.out (fun g hg1 hg2 hq => by have h1 := HN1O.out g hq; have h2 := HSZ.out; omega)
  have HO2G : Hid (Cr.Own wg u2 ((dl J 0 t2).map (·.n))) := (HO2.out.1.mod ((((HM6.out.and HM7.out).and HMB.out).and HMD.out)) (fun _ _ h => h)).mod HMG.out (fun g hg hq => by have h1 := HN1O.out g hq; have h2 := HO2.out.2 g hg; omega)
  clear hRG hmg hfg RA RB SGB HB1 HB2
  go_wp2_with (fail)
  refine (numbersOf_w v2 es2 wg RE2.row (by have := HAT2.out.2.2.2.2; omega)).mono ?_
  rintro e wh ⟨u5, rfl, ho5, hmh, -⟩
  have HMH : Hid (Mod (fun _ => False) wg wh) := hmh
  clear hmh RE2
  go_wp2_with (fail)
  refine (plain_w u5 _ wh ho5 (by have := HAT2.out.2.2.2.2; simp; omega)).mono ?_
  rintro e wi ⟨u6, rfl, ho6, hmi, -⟩
  have HMI : Hid (Mod (fun _ => False) wg wi) := HMH.out.and hmi
  have RA := Own.rgI (HO2G.out.mod HMI.out (fun _ _ h => h))
  have RB := Own.rgI ho6
  obtain ⟨au2, cu2, rfl⟩ := RA.shape
  obtain ⟨au6, cu6, rfl⟩ := RB.shape
  have LA : ((dl J 0 t2).map (·.n)).length ≤ 1000 := by have h1 := dl_len J 0 t2; have h2 := HN1.out.2; simp; omega
  have LB : (pos (es2.map fun x => evN x.1)).length ≤ 3000000 := by
    have h1 := List.length_filter_le (fun x => decide ((0 : Int) < x)) (es2.map fun x => evN x.1)
    have h2 := HAT2.out.2.2.2.2
    simp only [List.length_map] at h1
    show (List.filter _ _).length ≤ _
    omega
  have HB1 : Hid (_ : Prop) := show (((dl J 0 t2).map (·.n)).length + (pos (es2.map fun x => evN x.1)).length) * 8 ≤ 140737488355328 by omega
  have HB2 : Hid (_ : Prop) := show ((dl J 0 t2).map (·.n)).length + (pos (es2.map fun x => evN x.1)).length ≤ 9223372036854775807 by omega
  have SGB := SG.of RB (Cr.U_one _)
  have HN2O : Hid (∀ g, (Value.slice au2 ((dl J 0 t2).map (·.n)).length cu2).ownBlock = some g → w4.heap.size ≤ g ∧ g < w5.heap.size) := fun g hg => ⟨HO2.out.2 g hg, HO2.out.1.lt g hg⟩
  clear ho5 ho6 hmi HMH LA LB HO2G
  generalize hl2 : (dl J 0 t2).map (·.n) = l2 at *
  generalize hl6 : pos (es2.map fun x => evN x.1) = l6 at *
  go_upto_region 16 with (at_builtin; refine wpList_appG elI rfl _ _ rfl _ _ l2.length l6.length (Cr.U l2) (Cr.U l6) rfl rfl RA SGB HB1.out HB2.out (l2.length + l6.length) rfl ?_; intro ay cy wj hRG hmj hfj)
  have HEQ : l2 ++ l6 = l1 ++ l4 := by
    have e1 := same_tot HP.out (c := (⟨2, 1, 0, 0, 30, false, 0⟩ : Cg)) (x := (⟨5, 1, 0, 0, 30, false, 9⟩ : Cg)) (kin := kq) HAT1.out.2.1
    have e2 := same_tot HP.out (c := (⟨2, 1, 0, 0, 30, false, 0⟩ : Cg)) (x := (⟨5, 1, 0, 0, 30, false, 9⟩ : Cg)) (kin := kq) HAT2.out.2.1
    have f1 := far_le HP.out HT1.out HAT1.out.1
    have f2 := far_le HP.out HT2.out HAT2.out.1
    rw [← HAT1.out.2.2.1, List.map_map] at e1
    rw [← HAT2.out.2.2.1, List.map_map] at e2
    have g1 : l1 ++ l4 = tot J kq (t1 + k1) (z1.map (gt J)) := by rw [← hl1, ← hl4]; exact e1
    have g2 : l2 ++ l6 = tot J kq (t2 + k2) (z2.map (gt J)) := by rw [← hl2, ← hl6]; exact e2
    rw [g1, g2]
    exact same_eq HP.out (by omega) (by omega) (by simpa using HAT2.out.2.1) (by simpa using HAT1.out.2.1) (HAT1.out.2.1.at f1)
  have RY : RG wj 3 1 (.slice ay (l2.length + l6.length) cy) (l1 ++ l4).length (Cr.U (l1 ++ l4)) := by
    rw [← HEQ, List.length_append, Cr.U_app]
    exact hRG
  have RX := (HRG.out.mod HMI.out (fun _ _ h => h)).mod hmj (fun g hg hq => by
    have h1 := HN2O.out g hq
    have h2 := HM5.out.size
    rcases HFG.out g hg with h3 | h3
    · have h4 := HN1O.out g h3; omega
    · have h4 := ((((HM6.out.and HM7.out).and HMB.out).and HMD.out)).size; omega)
  have hfin : Mod (fun _ => False) w wj := by
    have h1 : Mod (fun _ => False) w w3 := (HM1.out.and HM2.out).and HZ.out.1.mod
    have h2 : Mod (fun _ => False) w wd := (h1.and HM4.out).and HMW.out
    have h3 := h1.size
    have h4 : Mod (fun _ => False) w wg := h2.trans HMG.out (fun _ _ h => h) (fun i hi hq => by have := HN1O.out i hq; omega)
    have h5 := HM4.out.size
    exact (h4.and HMI.out).trans hmj (fun _ _ h => h) (fun i hi hq => by have := HN2O.out i hq; omega)
  have HFIN : Hid (Mod (fun _ => False) w wj) := hfin
  have HLL : Hid ((l1 ++ l4).length ≤ 100000000) := by have h := HLA.out; show _ ≤ _; rw [List.length_append]; omega
  clear hRG hmj hfj RA RB SGB HB1 HB2 hfin
  go_wp2_with (fail)
  refine (eqRG RX RY HLL.out).mono ?_
  rintro e wk ⟨rfl, hmk⟩
  have HFK : Hid (Mod (fun _ => False) w wk) := HFIN.out.and hmk
  clear hmk RX RY
  go_wp2
  go_ret
  exact ⟨rfl, HFK.out⟩
namespace changeSame
open Go.ChangeShapes Go.WideShapes Go.ChangeAt Go.RowKit
set_option maxRecDepth 100000 in
theorem lifted (os : Os) (started : os.Started) (H : Type) (enc : TypeId × Value → H) :
    ReturnsInHanded {} Try.checked os 4 .any (Rows.changeSameSpec.pre6 enc Try.prog Try.f4 Rows.changeSameRow.domain false) (Rows.changeSameSpec.post enc Try.prog Try.f4 false true false false) := by
  refine returnsInHanded_of_change_sized (C := Try.checked) own started (by kernel_rfl) Try.func4
    (ChangeSpec.witness6 (enc := enc) (C := Try.checked) false ⟨#[], #[.agg #[.slice none 0 0, .int .i64 0], .int .i64 0, .int .i64 0], []⟩ 8 (by kernel_rfl) (by kernel_rfl) (by kernel_rfl) (by kernel_rfl)) ?_
  intro W base args ds gs before hval0 hW hcnd hsz0 _
  have hval : ∀ (j : Nat) t v, Try.f4.params[j]? = some t → args[j]? = some v → Value.okWide Try.prog W .any base t v := hval0
  have hsz : (DataW.weightsEach Try.prog (Try.f4.params.toList ++ Rows.changeSameSpec.plain.varTypes Try.prog) (ds ++ gs)).all (· ≤ reachBytes) = true := hsz0
  have hW' := hW
  obtain ⟨p, q, hA0, hV, rfl, hfz, hnd⟩ := hW
  have hA : DataW.TrodAll enc Try.prog W 0 (fun _ => true) true Try.f4.params.toList args.toList ds p := hA0
  rw [Try.params4] at hA hval hsz
  obtain ⟨v0, vs0, d0, ds0, p0, q0, hargs, rfl, rfl, h0, r0⟩ := trodAll_cons hA
  obtain ⟨v1, vs1, d1, ds1, p1, q1, rfl, rfl, rfl, h1, r1⟩ := trodAll_cons r0
  obtain ⟨v2, vs2, d2, ds2, p2, q2, rfl, rfl, rfl, h2, r2⟩ := trodAll_cons r1
  obtain ⟨rfl, rfl, rfl⟩ := trodAll_nil r2
  obtain rfl : args = #[v0, v1, v2] := by cases args; simp_all
  obtain ⟨rfl, rfl⟩ := trodVars_none hV
  have k0 := h0
  have lt0 : ∀ x ∈ p0, x.block < W.heap.size := by obtain ⟨m, hm⟩ := k0; exact DataW.trod_lt m _ _ _ hm
  obtain ⟨u0, L0, k0x, rfl, hS0, _⟩ := open_story (hval 0 57 v0 rfl rfl) h0
  obtain ⟨a1, rfl, rfl, rfl, w1⟩ := open_int Try.underlying3 (hval 1 3 v1 rfl rfl) h1
  obtain ⟨a2, rfl, rfl, rfl, w2⟩ := open_int Try.underlying3 (hval 2 3 v2 rfl rfl) h2
  clear hA0 hval0
  refine (same_walk u0 L0 k0x a1 a2 W hS0 (i64_of_wf w1) (i64_of_wf w2)).mono fun e W' ⟨he, hm⟩ => ?_
  subst he
  have bel : Below W.heap.size W W' := hm.below _ (Nat.le_refl _) (fun _ h => h.elim)
  exact ⟨_, rfl, _, _, _, [], _, [], hW', trodAll_mk1 (shut_bool Try.underlying4 _), (trodAll_cons_mk (Below.trod laidOut (by kernel_rfl) (of_decide_eq_true (by kernel_rfl)) k0 bel lt0) (trodAll_cons_mk (shut_int Try.underlying3 w1) (trodAll_cons_mk (shut_int Try.underlying3 w2) trodAll_mk0))), rfl, bel.frame _, fun h => by cases h⟩

theorem over : Rows.changeSameRow.holds Try.pinned (OpenSpec.ofChange Rows.changeSameSpec) :=
  OpenClaim.holds_of_wide 4 Try.f4 rfl rfl rfl rfl rfl rfl rfl ⟨rfl, rfl, rfl, rfl, rfl⟩ rfl rfl rfl rfl rfl (by kernel_rfl) Try.func4 (by kernel_rfl)
    (of_decide_eq_true (by kernel_rfl)) (by unfold Func.isWrapper; first | (rw [if_pos (by decide +kernel)]; kernel_rfl) | (rw [if_neg (by decide +kernel)]; exact ⟨rfl, rfl⟩))
    (fun os started H enc _ => lifted os started H enc)
end changeSame
theorem changeSame_holds : Rows.ChangeSameSaid := changeSame.over
end Go.Proofs.Ytampdkbcijdpcaa
