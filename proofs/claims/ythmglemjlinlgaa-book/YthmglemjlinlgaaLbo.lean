/- LaneBook: nothing comes from nowhere, and nothing is lost by itself: each that is taken is the one of its place in the book. No conditions. -/
import Derived.Test.YthmglemjlinlgaaLsb
import Derived.Deep.RegionWith
namespace Go.Proofs.Ythmglemjlinlgaa
open Go.RowKit
theorem owns_shape2 {w : World} {B n z : Nat} {e : TypeId} {v : Value} {xs : List Value} (h : w.ownsRow B e z v n xs) : ∃ ao k cap, v = .slice ao k cap ∧ Hid (k = n) := by
  rcases h.2 with ⟨rfl, h0⟩ | ⟨g, cap, cur, rfl, _⟩
  · exact ⟨_, _, _, rfl, h0.symm⟩
  · exact ⟨_, _, _, rfl, rfl⟩
set_option maxRecDepth 100000 in
set_option maxHeartbeats 16000000 in
theorem book_walk (v : Value) (ds : List Dd) (w : World) (hd : Deeds w v ds) : Calls Try.prog 4 #[v] w fun e w' => e = .returned (.bool true) ∧ Mod (fun _ => False) w w' := by
  obtain ⟨i0, hii, hz0, hz1, hz2⟩ := info_parts infoDg
  obtain ⟨ao, cap, rfl, hdl, _⟩ := hd.form
  go_enter Try.func4, Try.ntmps4
  go_wp2_with (fail)
  refine (works w).mono ?_
  rintro e w1 ⟨rfl, hm1⟩
  go_wp2_with (fail)
  refine (New_any w1).mono ?_
  rintro e w2 ⟨p, F, rfl, hL, hm2, hn2⟩
  have T : Sb w w2 p [] 0 F (.slice none 0 0) [] (fun _ => False) := {
    la := hL
    gr := Gr.nil _
    far := fun k hk hF => by
      rcases hF with h | ⟨u, hu, _⟩
      · simp [Value.ownBlock] at h
      · simp at hu
    nf := fun k hk => Nat.le_trans hm1.size (hn2 k hk)
    ng := fun k hF => by
      rcases hF with h | ⟨u, hu, _⟩
      · simp [Value.ownBlock] at h
      · simp at hu
    x := fun k hk => hk.elim
    mod := hm1.and hm2 }
  have I : Hid (Ib w w2 p (.slice none 0 0) 0) := ⟨0, F, [], T, Nat.le_refl _⟩
  clear hL hm1 hm2 hn2 T
  go_wp2_with (fail)
  go_loopw [4, 5] (fun bv i wr => ∃ (k : Nat), i = .int .i64 k ∧ k ≤ 200 ∧ k ≤ ds.length ∧ Hid (Ib w wr p bv k)) (fun _ i _ => 200 - (intOf i).toNat)
  case atStart => exact ⟨0, rfl, by omega, by omega, I⟩
  case round =>
    rename_i bv iv wr hrel
    obtain ⟨k, rfl, hk2, hk, IK⟩ := hrel
    clear I
    unfold maxLen at hdl
    obtain ⟨s, F, R, T, hR⟩ := IK.out
    clear IK
    obtain ⟨aoR, capR, rfl, hRc, hRm, _⟩ := T.gr.shape
    by_cases hlt : k < ds.length ∧ k < 200
    · obtain ⟨hlt, hlt2⟩ := hlt
      obtain ⟨d, hdk⟩ : ∃ d, ds[k]? = some d := ⟨ds[k], by simp [hlt]⟩
      obtain ⟨lb, lo', rfl, hcells⟩ := hd.at hdk
      obtain ⟨_, hbl, ik, ia, ib, iff, it⟩ := hd.each d (List.mem_of_getElem? hdk)
      obtain ⟨⟨q0, q1, q2, q3, q4, q5⟩, _⟩ := hcells _ T.mod
      have HSL := fun w' hm => (hcells w' hm).2
      have hki : (k : Int) < ds.length := by omega
      have hki2 : (k : Int) < 200 := by omega
      obtain ⟨aob, cpb, eb, _⟩ := (HSL _ T.mod).form
      obtain ⟨x, da, db, dd, bv⟩ := d
      dsimp only at *
      subst eb
      have T1 := T.alloc (.cells #[.int .i64 x, .int .i64 da, .int .i64 db, .int .i64 dd.f, .int .i64 dd.t, .slice aob dd.b.length cpb] 34)
      have B1 := heap_alloc_new wr (.cells #[.int .i64 x, .int .i64 da, .int .i64 db, .int .i64 dd.f, .int .i64 dd.t, .slice aob dd.b.length cpb] 34)
      have hgx := T1.x wr.heap.size (.inr rfl)
      clear hcells hdk T
      have HB6 := fun w => bring_any x 6 w (by omega) (by omega) ik.1 ik.2
      have hy6 : 0 ≤ x % (6 : Nat) ∧ x % (6 : Nat) < 6 := by omega
      generalize x % (6 : Nat) = y at HB6 hy6
      go_wp2_with (fail)
      generalize wr.heap.size = g at *
      generalize wr.alloc (.cells #[.int .i64 x, .int .i64 da, .int .i64 db, .int .i64 dd.f, .int .i64 dd.t, .slice aob dd.b.length cpb] 34) = W at *
      refine (HB6 _).mono ?_
      rintro e wq ⟨rfl, hq⟩
      replace hq := hq.symm
      subst hq
      have c0 : W.cell? ⟨g, 0, none⟩ = some (.int .i64 x) := by simp [World.cell?, B1]
      have c1 : W.cell? ⟨g, 1, none⟩ = some (.int .i64 da) := by simp [World.cell?, B1]
      have c2 : W.cell? ⟨g, 2, none⟩ = some (.int .i64 db) := by simp [World.cell?, B1]
      have c3 : W.cell? ⟨g, 3, none⟩ = some (.int .i64 dd.f) := by simp [World.cell?, B1]
      have c4 : W.cell? ⟨g, 4, none⟩ = some (.int .i64 dd.t) := by simp [World.cell?, B1]
      have c5 : W.cell? ⟨g, 5, none⟩ = some (.slice aob dd.b.length cpb) := by simp [World.cell?, B1]
      clear q0 q1 q2 q3 q4 q5 B1
      rcases (by omega : y = 5 ∨ (y = 0 ∨ y = 1) ∨ (y = 2 ∨ y = 3 ∨ y = 4)) with rfl | hy | hy
      · -- Cut
        as_aux_lemma =>
          clear c0 c2 c3 c4 c5 HB6
          go_wp2_with (fail)
          refine (Cut_any T1.la da).mono ?_
          rintro e w6 ⟨rfl, hL, hG⟩
          have TT := (T1.onL hL (Gone.same hG)).less (Y := fun _ => False) (fun _ h => h.elim)
          have hR2 : R.length ≤ k + 1 := by omega
          clear T1 hL hG c1 hgx
          have hLL : (((R.map Prod.fst).length : Int) != (R.length : Int)) = false := by simp
          go_wp2_with (fail)
          refine (Len_any TT.la).mono ?_
          rintro e wq ⟨rfl, hq⟩
          replace hq := hq.symm
          subst hq
          have I : Hid (Ib w _ p (.slice aoR R.length capR) (k + 1)) := ⟨da, F, R, TT, hR2⟩
          clear TT
          go_wp2
          go_roundw
          case rel => exact ⟨k + 1, by go_num, by omega, by omega, I⟩
          case measure => simp [intOf]; omega
      · -- Put
        as_aux_lemma =>
          have HBf := fun w => bring_any dd.f 8 w (by omega) (by omega) iff.1 iff.2
          have HBt := fun w => bring_any dd.t 8 w (by omega) (by omega) it.1 it.2
          have hf8 : 0 ≤ dd.f % (8 : Nat) ∧ dd.f % (8 : Nat) < 8 := by omega
          have ht8 : 0 ≤ dd.t % (8 : Nat) ∧ dd.t % (8 : Nat) < 8 := by omega
          have hoc : Oct dd.b := ⟨(HSL _ T1.mod).rng, hbl⟩
          obtain ⟨df, dt, dbs⟩ := dd
          dsimp only at *
          generalize df % (8 : Nat) = f8 at HBf hf8
          generalize dt % (8 : Nat) = t8 at HBt ht8
          obtain ⟨yf, hyf⟩ : ∃ yf, 1 + f8 = yf := ⟨_, rfl⟩
          obtain ⟨yt, hyt⟩ : ∃ yt, 1 + t8 = yt := ⟨_, rfl⟩
          have hwf : IntKind.i64.wrap (1 + f8) = yf := by rw [IntKind.wrap_i64]; omega
          have hwt : IntKind.i64.wrap (1 + t8) = yt := by rw [IntKind.wrap_i64]; omega
          have hnd : (nd yf && nd yt) = true := by
            unfold nd
            simp only [Bool.and_eq_true, decide_eq_true_eq]
            omega
          have hpE : pE (R.map Prod.fst) ⟨yf, yt, dbs⟩ = 0 ∧ pL (R.map Prod.fst) ⟨yf, yt, dbs⟩ = (R ++ [((⟨yf, yt, dbs⟩ : Dg), Value.slice none 0 0)]).map Prod.fst := by
            have hlR : (R.map Prod.fst).length = R.length := by simp
            unfold pE pL aE aL
            rw [if_pos hnd, if_pos hnd, hlR, if_neg (by omega), if_neg (by omega)]
            simp
          have hl4 : R.length ≤ 200 := by omega
          have HC := copy_any (.slice aob dbs.length cpb) dbs
          clear c0 c1 c2 HB6 hnd hyf hyt
          have hy01 : (y == 0) = true ∨ ((y == 0) = false ∧ (y == 1) = true) := by
            rcases hy with rfl | rfl
            · exact .inl rfl
            · exact .inr ⟨rfl, rfl⟩
          clear hy hy6
          rcases hy01 with hy0 | ⟨hy0, hy1⟩
          all_goals
            go_wp2_with (fail)
            have T1a := (T1.alloc (.cells #[.int .i64 0, .int .i64 0, .slice none 0 0] 30)).quiet ((Mod.refl (fun _ => False) (W.alloc (.cells #[.int .i64 0, .int .i64 0, .slice none 0 0] 30))).drew)
            have hAd : Mod (fun _ => False) W (W.alloc (.cells #[.int .i64 0, .int .i64 0, .slice none 0 0] 30)).drew := ((Mod.refl (fun _ => False) W).alloc (.cells #[.int .i64 0, .int .i64 0, .slice none 0 0] 30)).drew
            have B7 : (W.alloc (.cells #[.int .i64 0, .int .i64 0, .slice none 0 0] 30)).drew.heap[W.heap.size]? = some (.cells #[.int .i64 0, .int .i64 0, .slice none 0 0] 30 (0, 0)) := heap_alloc_new W (.cells #[.int .i64 0, .int .i64 0, .slice none 0 0] 30)
            have c3a := hAd.cell c3 (fun h => h)
            have c4a := hAd.cell c4 (fun h => h)
            have c5a := hAd.cell c5 (fun h => h)
            have T1b := T1.quiet ((Mod.refl (fun _ => False) W).drew)
            have lg := hgx.2.2.1
            have hne7 : ¬ W.heap.size = g := by omega
            go_region_held3 (fun y => y.cell? ⟨g, 3, none⟩ = some (.int .i64 df) ∧ y.cell? ⟨g, 4, none⟩ = some (.int .i64 dt) ∧ y.cell? ⟨g, 5, none⟩ = some (.slice aob dbs.length cpb)) (first | exact ⟨c3, c4, c5⟩ | exact ⟨c3a, c4a, c5a⟩ | exact ⟨s3, s4, s5⟩ | exact ⟨s3 _ _ _, s4 _ _ _, s5 _ _ _⟩ | go_keep)
              (first | (go_at_call_of 9 df; refine (HBf _).mono ?_; rintro e w6 ⟨rfl, hq⟩; replace hq := hq.symm; subst hq) | (go_at_call_of 9 dt; refine (HBt _).mono ?_; rintro e w6 ⟨rfl, hq⟩; replace hq := hq.symm; subst hq) | (go_at_call 27; refine (HC _ (HSL _ T1a.mod) hbl).mono ?_; rintro e w6 ⟨uy, rfl, OY, hm6, hn6⟩; have s3 := hm6.cell c3a (fun h => h); have s4 := hm6.cell c4a (fun h => h); have s5 := hm6.cell c5a (fun h => h); have T2 := T1a.fresh hm6 OY hn6; obtain ⟨aoy, cpy, ey⟩ := OY.shape; subst ey; have B8 := hm6.obj B7 (fun h => h); have z0 : w6.cell? ⟨W.heap.size, 0, none⟩ = some (.int .i64 0) := by { simp [World.cell?, B8] }; have z1 : w6.cell? ⟨W.heap.size, 1, none⟩ = some (.int .i64 0) := by { simp [World.cell?, B8] }; have z2 : w6.cell? ⟨W.heap.size, 2, none⟩ = some (.slice none 0 0) := by { simp [World.cell?, B8] }; have y0 : w6.frozen? ⟨W.heap.size, 0, none⟩ = false := by { simp [World.frozen?, B8] }; have y1 : w6.frozen? ⟨W.heap.size, 1, none⟩ = false := by { simp [World.frozen?, B8] }; have y2 : w6.frozen? ⟨W.heap.size, 2, none⟩ = false := by { simp [World.frozen?, B8] }) | (go_at_call 27; refine (HC _ (HSL _ T1b.mod) hbl).mono ?_; rintro e w6 ⟨uy, rfl, OY, hm6, hn6⟩; have s3 := hm6.cell c3 (fun h => h); have s4 := hm6.cell c4 (fun h => h); have s5 := hm6.cell c5 (fun h => h); have T2 := T1b.fresh hm6 OY hn6; obtain ⟨aoy, cpy, ey⟩ := OY.shape; subst ey))
            all_goals
              first
              | (have hB8 := B8
                 have hS : Mod (fun q => q = W.heap.size) w6 (((w6.setCell ⟨W.heap.size, 0, none⟩ (.int .i64 yf)).setCell ⟨W.heap.size, 1, none⟩ (.int .i64 yt)).setCell ⟨W.heap.size, 2, none⟩ (.slice aoy dbs.length cpy)) := (((Mod.refl (fun q => q = W.heap.size) w6).setCell _ _ (.inl rfl)).setCell _ _ (.inl rfl)).setCell _ _ (.inl rfl)
                 have h2 : (W.alloc (.cells #[.int .i64 0, .int .i64 0, .slice none 0 0] 30)).drew.heap.size = W.heap.size + 1 := by show (W.alloc (.cells #[.int .i64 0, .int .i64 0, .slice none 0 0] 30)).heap.size = _; simp
                 obtain ⟨V, gy, hV, hgy, BY, OYV, TV⟩ : ∃ V gy, V = (((w6.setCell ⟨W.heap.size, 0, none⟩ (.int .i64 yf)).setCell ⟨W.heap.size, 1, none⟩ (.int .i64 yt)).setCell ⟨W.heap.size, 2, none⟩ (.slice aoy dbs.length cpy)) ∧ gy = W.heap.size ∧ V.heap[gy]? = some (.cells #[.int .i64 yf, .int .i64 yt, .slice aoy dbs.length cpy] 30 (0, 0)) ∧ Own V (.slice aoy dbs.length cpy) dbs ∧ Sb w V p (R.map Prod.fst) s F (.slice aoR R.length capR) R (fun k => (k = gy) ∨ (Value.slice aoy dbs.length cpy).ownBlock = some k) := ⟨_, _, rfl, rfl, by simp [World.setCell, Array.getElem?_modify, hB8], OY.mod hS (fun q hq (e : q = W.heap.size) => by have h1 := hn6 q hq; omega), (T2.onX hS (fun q e => .inl (.inr e))).less (fun q hq => hq.elim (fun hq => .inl (.inr hq)) (fun hq => .inr hq))⟩
                 rw [← hV]
                 rw [← hgy]
                 clear hB8 hS h2 hV hgy B8 z0 z1 z2 y0 y1 y2)
              | (have hA6 := (Mod.refl (fun _ => False) w6).alloc (.cells #[.int .i64 yf, .int .i64 yt, .slice aoy dbs.length cpy] 30)
                 obtain ⟨V, gy, hV, hgy, BY, OYV, TV⟩ : ∃ V gy, V = (w6.alloc (.cells #[.int .i64 yf, .int .i64 yt, .slice aoy dbs.length cpy] 30)) ∧ gy = w6.heap.size ∧ V.heap[gy]? = some (.cells #[.int .i64 yf, .int .i64 yt, .slice aoy dbs.length cpy] 30 (0, 0)) ∧ Own V (.slice aoy dbs.length cpy) dbs ∧ Sb w V p (R.map Prod.fst) s F (.slice aoR R.length capR) R (fun k => (k = gy) ∨ (Value.slice aoy dbs.length cpy).ownBlock = some k) := ⟨_, _, rfl, rfl, heap_alloc_new w6 _, OY.mod hA6 (fun _ _ h => h), (T2.alloc (.cells #[.int .i64 yf, .int .i64 yt, .slice aoy dbs.length cpy] 30)).less (fun q hq => hq.elim (fun hq => .inr hq) (fun hq => .inl (.inr hq)))⟩
                 rw [← hV]
                 rw [← hgy]
                 clear hA6 hV hgy)
              as_aux_lemma =>
                have HP := Put_any (d := ⟨yf, yt, dbs⟩) TV.la (OYV.sl hoc.1) hbl
                rw [hpE.1, hpE.2] at HP
                have hgyx := TV.x gy (.inl rfl)
                clear T1a T1b T2 hAd B7 c3 c4 c5 c3a c4a c5a s3 s4 s5 OY hm6 hn6 HC HBf HBt
                have v0 : V.cell? ⟨gy, 0, none⟩ = some (.int .i64 yf) := by simp [World.cell?, BY]
                have v1 : V.cell? ⟨gy, 1, none⟩ = some (.int .i64 yt) := by simp [World.cell?, BY]
                have v2 : V.cell? ⟨gy, 2, none⟩ = some (.slice aoy dbs.length cpy) := by simp [World.cell?, BY]
                go_wp2_with (fail)
                refine HP.mono ?_
                rintro e w7 ⟨rfl, F2, hL, hG⟩
                have T4 := TV.onL hL hG
                have BZ := hG.1.obj BY hgyx.1
                have OZ := OYV.mod hG.1 (fun q hq => (TV.x q (.inr hq)).1)
                clear HP hL hG TV BY OYV v0 v1 v2
                have v0 : w7.cell? ⟨gy, 0, none⟩ = some (.int .i64 yf) := by simp [World.cell?, BZ]
                have v1 : w7.cell? ⟨gy, 1, none⟩ = some (.int .i64 yt) := by simp [World.cell?, BZ]
                have v2 : w7.cell? ⟨gy, 2, none⟩ = some (.slice aoy dbs.length cpy) := by simp [World.cell?, BZ]
                have hrow := fun o => owns_mod T4.gr.row ((Mod.refl (fun _ => False) w7).alloc o) (fun _ _ h => h)
                go_wp2_with (at_builtin; refine wpList_append_lies _ rfl _ _ 45 rfl 0 30 i0 _ 3 40 Try.underlying45 hii hz0 hz1 hz2 rfl (by decide) (.slice aoR R.length capR) R.length (cel R) rfl (hrow _) ⟨w7.heap.size, 0, none⟩ 1 1 [.int .i64 yf, .int .i64 yt, .slice aoy dbs.length cpy] rfl rfl (app3 _ _ _ _ _) (by simp [Value.oneCell']) (by omega) (by simp only [maxLen]; omega) (by omega) (Nat.zero_le _) (w7.heap.size + 1) (by simp) ?_; intro g1 cap1 w9 hown1 hgrow hg9 hlt9)
                have hm9 : Mod (fun k => (Value.slice aoR R.length capR).ownBlock = some k) w7 w9 := ((Mod.refl _ w7).alloc _).grown hgrow (fun k hk _ => hk)
                have G := T4.gr.app2 (d := ⟨yf, yt, dbs⟩) OZ hoc (fun q hq => (T4.x q (.inr hq)).2.1) hown1 hm9 (fun q hq => by
                  simp only [Value.ownBlock, Option.some.injEq] at hq
                  subst hq
                  rcases hg9 with h1 | h1
                  · exact .inl h1
                  · exact .inr (by omega))
                have TT := T4.onG (Y := fun _ => False) G.1 (hm9.mono fun k _ hk => .inl hk) (fun q hq => by
                  rcases G.2 q hq with h1 | h1 | h1
                  · exact .inl h1
                  · exact .inr (.inl (.inr h1))
                  · exact .inr (.inr h1)) (fun _ h => h.elim)
                rw [show (R ++ [((⟨yf, yt, dbs⟩ : Dg), Value.slice none 0 0)]).map Prod.fst = (R ++ [((⟨yf, yt, dbs⟩ : Dg), Value.slice aoy dbs.length cpy)]).map Prod.fst by simp] at TT
                have hR2 : (R ++ [((⟨yf, yt, dbs⟩ : Dg), Value.slice aoy dbs.length cpy)]).length ≤ k + 1 := by simp; omega
                have hlen : ((R ++ [((⟨yf, yt, dbs⟩ : Dg), Value.slice aoy dbs.length cpy)]).length : Int) = R.length + 1 := by simp
                clear T4 G hm9 hown1 hgrow hrow OZ BZ v0 v1 v2
                generalize R ++ [((⟨yf, yt, dbs⟩ : Dg), Value.slice aoy dbs.length cpy)] = R2 at *
                have hLL : (((R2.map Prod.fst).length : Int) != (R.length : Int) + 1) = false := by rw [List.length_map, hlen]; simp
                refine (Len_any TT.la).mono ?_
                rintro e wq ⟨rfl, hq⟩
                replace hq := hq.symm
                subst hq
                have I : Hid (Ib w _ p (.slice (some ⟨g1, 0, none⟩) (R.length + 1) cap1) (k + 1)) := ⟨s, F2, R2, TT, hR2⟩
                clear TT
                go_wp2
                go_roundw
                case rel => exact ⟨k + 1, by go_num, by omega, by omega, I⟩
                case measure => simp [intOf]; omega
      · by_cases hR0 : R.length = 0
        · have hR1 : ((R.length : Int) == 0) = true := by simp [hR0]
          have TT := T1.less (Y := fun _ => False) (fun _ h => h.elim)
          have hR2 : R.length ≤ k + 1 := by omega
          have I : Hid (Ib w W p (.slice aoR R.length capR) (k + 1)) := ⟨s, F, R, TT, hR2⟩
          clear T1 TT HB6 hgx c1 c2 c3 c4 c5 c0 hR0 hR2
          rcases hy with rfl | rfl | rfl
          all_goals
            go_wp2
            go_roundw
            case rel => exact ⟨k + 1, by go_num, by omega, by omega, I⟩
            case measure => simp [intOf]; omega
        · have hR1 : ((R.length : Int) == 0) = false := beq_eq_false_iff_ne.2 (by omega)
          have HBA := fun w => bring_any da R.length w (by omega) (by omega) ia.1 ia.2
          have hn0 : 0 ≤ da % (R.length : Int) ∧ da % (R.length : Int) < R.length := ⟨Int.emod_nonneg _ (by omega), Int.emod_lt_of_pos _ (by omega)⟩
          generalize da % (R.length : Int) = n' at HBA hn0
          obtain ⟨n, rfl⟩ : ∃ n : Nat, n' = n := ⟨n'.toNat, by omega⟩
          have hn : n < R.length := by omega
          obtain ⟨gR, cR, xx, eR, _, _, hxx, e0, e1, e2, o1, o2⟩ := T1.gr.at hn
          simp only [Value.slice.injEq, true_and] at eR
          obtain ⟨rfl, rfl⟩ := eR
          obtain ⟨aox, cpx, ex⟩ := o1.shape
          obtain ⟨b, ub⟩ := xx
          dsimp only at *
          subst ex
          have hni : (n : Int) < R.length := by omega
          have T2 := T1.alloc (.cells #[.int .i64 b.f, .int .i64 b.t, .slice aox b.b.length cpx] 30)
          have BB := heap_alloc_new W (.cells #[.int .i64 b.f, .int .i64 b.t, .slice aox b.b.length cpx] 30)
          have hA := (Mod.refl (fun _ => False) W).alloc (.cells #[.int .i64 b.f, .int .i64 b.t, .slice aox b.b.length cpx] 30)
          have hgb := T2.x W.heap.size (.inr rfl)
          have hgg := T2.x g (.inl (.inr rfl))
          replace o1 := o1.mod hA (fun _ _ h => h)
          have lg := hgx.2.2.1
          have r0 := hA.cell c0 (fun h => h)
          have r2 := hA.cell c2 (fun h => h)
          have hget := getD_of (L := R.map Prod.fst) rfl hxx
          have HB6' := HB6
          rcases hy with rfl | rfl | rfl
          · -- Take
            as_aux_lemma =>
              have hl4 : R.length ≤ 200 := by omega
              have hlR : (R.map Prod.fst).length = R.length := by simp
              have hTE : tE (R.map Prod.fst) n = 0 ∧ tL (R.map Prod.fst) n = (R.eraseIdx n).map Prod.fst ∧ tD (R.map Prod.fst) n = b := by
                have h1 : ¬ ((n : Int) < 0 ∨ ((R.map Prod.fst).length : Int) ≤ n) := by rw [hlR]; omega
                unfold tE tL tD
                rw [if_neg h1, if_neg h1, if_neg h1, Int.toNat_natCast, hget, map_eraseIdx']
                exact ⟨rfl, rfl, rfl⟩
              go_wp2_with (fail)
              refine (HBA _).mono ?_
              rintro e wq ⟨rfl, hq⟩
              replace hq := hq.symm
              subst hq
              go_wp2_with (fail)
              generalize W.heap.size = gb at *
              generalize W.alloc (.cells #[.int .i64 b.f, .int .i64 b.t, .slice aox b.b.length cpx] 30) = W6 at *
              refine (HB6 _).mono ?_
              rintro e wq ⟨rfl, hq⟩
              replace hq := hq.symm
              subst hq
              have H1 := Take_any (i := (n : Int)) T2.la
              rw [hTE.1, hTE.2.1, hTE.2.2] at H1
              clear hTE hlR c0 c1 c2 c3 c4 c5 T1 hA HB6 HB6' HBA r0 r2
              go_wp2_with (fail)
              refine H1.mono ?_
              rintro e w7 ⟨ug, F2, rfl, hL, hG, hT⟩
              have T3 := T2.taken hL hG hT
              replace BB := hG.1.obj BB hgb.1
              replace o1 := o1.mod hG.1 (fun q hq hF => T2.far q hF (Ft.of hxx hq))
              obtain ⟨aog, cpg, eg⟩ := hT.own.shape
              subst eg
              have hA7 := (Mod.refl (fun _ => False) w7).alloc (.cells #[.int .i64 b.f, .int .i64 b.t, .slice aog b.b.length cpg] 30)
              have OG := hT.own.mod hA7 (fun _ _ h => h)
              have OC := hT.oct
              have T4 := T3.quiet hA7
              replace BB := hA7.obj BB (fun h => h)
              replace o1 := o1.mod hA7 (fun _ _ h => h)
              have BG := heap_alloc_new w7 (.cells #[.int .i64 b.f, .int .i64 b.t, .slice aog b.b.length cpg] 30)
              clear T2 T3 H1 hL hG hT hA7 e0 e1 e2
              have z0 : (w7.alloc (.cells #[.int .i64 b.f, .int .i64 b.t, .slice aog b.b.length cpg] 30)).cell? ⟨gb, 0, none⟩ = some (.int .i64 b.f) := by simp only [World.cell?, BB]; rfl
              have z1 : (w7.alloc (.cells #[.int .i64 b.f, .int .i64 b.t, .slice aog b.b.length cpg] 30)).cell? ⟨gb, 1, none⟩ = some (.int .i64 b.t) := by simp only [World.cell?, BB]; rfl
              have z2 : (w7.alloc (.cells #[.int .i64 b.f, .int .i64 b.t, .slice aog b.b.length cpg] 30)).cell? ⟨gb, 2, none⟩ = some (.slice aox b.b.length cpx) := by simp only [World.cell?, BB]; rfl
              have H := is_self (d := b) (w := w7.alloc (.cells #[.int .i64 b.f, .int .i64 b.t, .slice aog b.b.length cpg] 30)) (OG.sl OC.1) (o1.sl OC.1)
              clear BB BG OG o1 OC
              go_wp2_with (fail)
              refine H.mono ?_
              rintro e w8 ⟨rfl, hm8⟩
              have T5 := (T4.quiet hm8).less (Y := fun _ => False) (fun _ h => h.elim)
              clear T4 H hm8 z0 z1 z2 hgb hgg
              obtain ⟨m, hmm⟩ : ∃ m, R.length = n + 1 + m := ⟨R.length - (n + 1), by omega⟩
              have HM : Hid (R.length = n + 1 + m) := hmm
              have hcl := cel_len R
              have hone := T5.gr.ones
              have hcel : ∀ W, Mod (fun _ => False) w8 W → ∀ j u, (cel R)[j]? = some u → W.cell? ⟨gR, j, none⟩ = some u := fun W hW => by
                obtain ⟨ao', cap', e, _, _, h3⟩ := (T5.gr.mod hW (fun _ _ h => h)).shape
                simp only [Value.slice.injEq] at e
                obtain ⟨rfl, _, rfl⟩ := e
                obtain ⟨g', e, hc⟩ := h3 (by omega)
                simp only [Option.some.injEq, Addr.mk.injEq, and_true] at e
                subst e
                exact hc
              have HT : Hid (Sb w w8 p ((R.eraseIdx n).map Prod.fst) s F2 (.slice (some ⟨gR, 0, none⟩) R.length capR) R (fun _ => False)) := T5
              have HKI : Hid (k < 200 ∧ k < ds.length ∧ R.length ≤ k) := ⟨hlt2, hlt, hR⟩
              clear T5
              have hw : IntKind.i64.wrap ((n : Int) + 1) = ((n + 1 : Nat) : Int) := by rw [IntKind.wrap_i64]; omega
              have hl1 : ((cel R).take (n * 3)).length = n * 3 := by rw [List.length_take]; omega
              have hl2 : ((cel R).drop ((n + 1) * 3)).length = m * 3 := by rw [List.length_drop]; omega
              have hc1 : n + 1 + m ≤ capR := by omega
              have hc2 := hRm
              unfold maxLen at hc2
              have hi4 : n + 1 + m ≤ 200 := by omega
              have j3 : ¬ capR = n := by omega
              have j4 : 0 ≤ (n : Int) + 1 := by omega
              have j5 : (n : Int) ≤ capR := by omega
              have j7 : (n : Int) + 1 ≤ (n : Int) + 1 + m := by omega
              have j8 : (n : Int) < (n : Int) + 1 + m := by omega
              have hone1 : ∀ u ∈ (cel R).take (n * 3), u.oneCell' = true := fun u hu => hone u (List.mem_of_mem_take hu)
              have hone2 : ∀ u ∈ (cel R).drop ((n + 1) * 3), u.oneCell' = true := fun u hu => hone u (List.mem_of_mem_drop hu)
              have hnw1 : ∀ W, Mod (fun _ => False) w8 W → ∀ j u, ((cel R).take (n * 3))[j]? = some u → W.cell? ((⟨gR, 0, none⟩ : Addr).add j) = some u := fun W hW j u hu => by
                rw [List.getElem?_take] at hu
                split at hu
                · rw [add_at, Nat.zero_add]; exact hcel W hW j u hu
                · cases hu
              have hnw2 : ∀ W, Mod (fun _ => False) w8 W → ∀ j u, ((cel R).drop ((n + 1) * 3))[j]? = some u → W.cell? ((⟨gR, (n + 1) * 3, none⟩ : Addr).add j) = some u := fun W hW j u hu => by
                rw [List.getElem?_drop] at hu
                rw [add_at]
                exact hcel W hW _ u hu
              have HF1 : ∀ (v2 : Value) (w2 : World), w8.grownBy w2 (Value.slice none 0 0).ownBlock → (v2.ownBlock = (Value.slice none 0 0).ownBlock ∨ v2.ownBlock = some w8.heap.size) → Mod (fun _ => False) w8 w2 ∧ (∀ k, v2.ownBlock = some k → w8.heap.size ≤ k) := fun v2 w2 hg hat => by
                refine ⟨(Mod.refl _ _).grown hg (fun k hk => by simp [Value.ownBlock] at hk), fun k hk => ?_⟩
                rcases hat with h1 | h1
                · rw [h1] at hk; simp [Value.ownBlock] at hk
                · rw [h1] at hk; simp at hk; omega
              have HF2 : ∀ (v2 : Value) (w2 : World), Mod (fun _ => False) w8 w2 → (∀ k, v2.ownBlock = some k → w8.heap.size ≤ k) → ∀ (v3 : Value) (w3 : World), w2.grownBy w3 v2.ownBlock → (v3.ownBlock = v2.ownBlock ∨ v3.ownBlock = some w2.heap.size) → Mod (fun _ => False) w8 w3 ∧ (∀ k, v3.ownBlock = some k → w8.heap.size ≤ k) := fun v2 w2 hM3 hv2 v3 w3 hg hat => by
                have hs3 := hM3.size
                have hm3 : Mod (fun k => v2.ownBlock = some k) w2 w3 := (Mod.refl _ _).grown hg (fun k hk _ => hk)
                refine ⟨hM3.trans hm3 (fun _ _ h => h) (fun k hk e => by have := hv2 k e; omega), fun k hk => ?_⟩
                rcases hat with h1 | h1
                · rw [h1] at hk; exact hv2 k hk
                · rw [h1] at hk; simp at hk; omega
              have HE : ∀ ao3 n3 cp3 w3, w3.ownsRow 0 30 3 (.slice ao3 n3 cp3) (0 + n + m) ([] ++ (cel R).take (n * 3) ++ (cel R).drop ((n + 1) * 3)) → n3 = 0 + n + m → Mod (fun _ => False) w8 w3 → (∀ k, (Value.slice ao3 n3 cp3).ownBlock = some k → w8.heap.size ≤ k) → Hid (Sb w w3 p ((R.eraseIdx n).map Prod.fst) s F2 (.slice ao3 n3 cp3) (R.eraseIdx n) (fun _ => False)) ∧ (R.eraseIdx n).length = n3 := fun ao3 n3 cp3 w3 hown3 hn3 hM4 hv3 => by
                have he4 : (R.eraseIdx n).length = 0 + n + m := by
                  rw [List.length_eraseIdx_of_lt (by omega)]
                  omega
                have G := HT.out.gr.out (i := n) (by rw [he4, cel_erase]; simpa using hown3) hM4.none
                refine ⟨HT.out.onG G hM4.none (fun q hq => ?_) (fun _ h => h.elim), by omega⟩
                rcases hq with hq | hq
                · exact .inr (.inr (hv3 q hq))
                · exact .inl (Ft.out hq)
              have hcs : (m = 0 ∧ capR = n + 1) ∨ n + 1 < capR := by omega
              rw [hmm]
              clear hmm hRc hR hxx hget hcel hone hcl o2 hn0 hni hn hR0 hl4 hd hlt hlt2 hki hki2 hk hk2 hdl ia ib ik iff it hbl HSL lg hgx hRm HM
              rcases hcs with ⟨rfl, rfl⟩ | hcc
              · have j9 : (n : Int) ≤ (n : Int) + 1 := by omega
                have j10 : n ≤ n + 1 := by omega
                go_wp2_with (first | (at_builtin; refine wpList_append_own_at _ rfl _ _ 45 rfl 0 30 i0 _ 3 40 Try.underlying45 hii hz0 hz1 hz2 rfl (by decide) (.slice none 0 0) 0 [] rfl (World.ownsRow_nil _ _ _ _) ⟨gR, 0, none⟩ n _ ((cel R).take (n * 3)) rfl hl1 (hnw1 _ (Mod.refl _ _)) hone1 (by simp only [maxLen]; omega) (by omega) (Nat.zero_le _) ?_; intro v2 w2 hown2 hgrow2 hnil2 hat2; obtain ⟨hM3, hv2⟩ := HF1 v2 w2 hgrow2 hat2) | (at_builtin; refine wpList_append_own_at _ rfl _ _ 45 rfl 0 30 i0 _ 3 40 Try.underlying45 hii hz0 hz1 hz2 rfl (by decide) v2 (0 + n) ([] ++ (cel R).take (n * 3)) rfl hown2 ⟨gR, 0, none⟩ 0 _ ((cel R).drop ((n + 1) * 3)) rfl hl2 (by intro j u hu; rw [List.getElem?_eq_none (by omega)] at hu; cases hu) hone2 (by simp only [maxLen]; omega) (by omega) (Nat.zero_le _) ?_; intro v3 w3 hown3 hgrow3 hnil3 hat3; obtain ⟨ao3, n3, cp3, e3, hn3⟩ := owns_shape2 hown3; subst e3; obtain ⟨hM4, hv3⟩ := HF2 v2 w2 hM3 hv2 _ w3 hgrow3 hat3))
                obtain ⟨TT, hlen⟩ := HE _ _ _ _ hown3 hn3.out hM4 hv3
                replace TT := TT.out
                obtain ⟨hlt2, hlt, hR⟩ := HKI.out
                have hR2 : (R.eraseIdx n).length ≤ k + 1 := by have := List.length_eraseIdx_le (l := R) (i := n); omega
                clear hown2 hgrow2 hnil2 hat2 hM3 hv2 hown3 hgrow3 hnil3 hat3 hM4 hv3 HE HF1 HF2 HT HKI hnw1 hnw2 hone1 hone2 hl1 hl2 hw hn3 j3 j4 j5 j7 j8
                generalize R.eraseIdx n = R2 at *
                have hLL : (((R2.map Prod.fst).length : Int) != (n3 : Int)) = false := by rw [List.length_map, hlen]; simp
                refine (Len_any TT.la).mono ?_
                rintro e wq ⟨rfl, hq⟩
                replace hq := hq.symm
                subst hq
                have I : Hid (Ib w _ p (.slice ao3 n3 cp3) (k + 1)) := ⟨s, F2, R2, TT, hR2⟩
                clear TT
                go_wp2
                go_roundw
                case rel => exact ⟨k + 1, by go_num, by omega, by omega, I⟩
                case measure => simp [intOf]; omega
              · have i5 : ¬ capR = n + 1 := by omega
                go_wp2_with (first | (at_builtin; refine wpList_append_own_at _ rfl _ _ 45 rfl 0 30 i0 _ 3 40 Try.underlying45 hii hz0 hz1 hz2 rfl (by decide) (.slice none 0 0) 0 [] rfl (World.ownsRow_nil _ _ _ _) ⟨gR, 0, none⟩ n _ ((cel R).take (n * 3)) rfl hl1 (hnw1 _ (Mod.refl _ _)) hone1 (by simp only [maxLen]; omega) (by omega) (Nat.zero_le _) ?_; intro v2 w2 hown2 hgrow2 hnil2 hat2; obtain ⟨hM3, hv2⟩ := HF1 v2 w2 hgrow2 hat2) | (at_builtin; refine wpList_append_own_at _ rfl _ _ 45 rfl 0 30 i0 _ 3 40 Try.underlying45 hii hz0 hz1 hz2 rfl (by decide) v2 (0 + n) ([] ++ (cel R).take (n * 3)) rfl hown2 ⟨gR, (n + 1) * 3, none⟩ m _ ((cel R).drop ((n + 1) * 3)) rfl hl2 (hnw2 _ hM3) hone2 (by simp only [maxLen]; omega) (by omega) (Nat.zero_le _) ?_; intro v3 w3 hown3 hgrow3 hnil3 hat3; obtain ⟨ao3, n3, cp3, e3, hn3⟩ := owns_shape2 hown3; subst e3; obtain ⟨hM4, hv3⟩ := HF2 v2 w2 hM3 hv2 _ w3 hgrow3 hat3))
                obtain ⟨TT, hlen⟩ := HE _ _ _ _ hown3 hn3.out hM4 hv3
                replace TT := TT.out
                obtain ⟨hlt2, hlt, hR⟩ := HKI.out
                have hR2 : (R.eraseIdx n).length ≤ k + 1 := by have := List.length_eraseIdx_le (l := R) (i := n); omega
                clear hown2 hgrow2 hnil2 hat2 hM3 hv2 hown3 hgrow3 hnil3 hat3 hM4 hv3 HE HF1 HF2 HT HKI hnw1 hnw2 hone1 hone2 hl1 hl2 hw hn3 j3 j4 j5 j7 j8
                generalize R.eraseIdx n = R2 at *
                have hLL : (((R2.map Prod.fst).length : Int) != (n3 : Int)) = false := by rw [List.length_map, hlen]; simp
                refine (Len_any TT.la).mono ?_
                rintro e wq ⟨rfl, hq⟩
                replace hq := hq.symm
                subst hq
                have I : Hid (Ib w _ p (.slice ao3 n3 cp3) (k + 1)) := ⟨s, F2, R2, TT, hR2⟩
                clear TT
                go_wp2
                go_roundw
                case rel => exact ⟨k + 1, by go_num, by omega, by omega, I⟩
                case measure => simp [intOf]; omega
          · -- Double
            as_aux_lemma =>
              have hdE : dE (R.map Prod.fst) n = 0 ∧ dL (R.map Prod.fst) n = (R ++ [(b, Value.slice none 0 0)]).map Prod.fst := by
                have hlR : (R.map Prod.fst).length = R.length := by simp
                have h1 : ¬ ((n : Int) < 0 ∨ ((R.map Prod.fst).length : Int) ≤ n) := by rw [hlR]; omega
                unfold dE dL aE aL
                rw [if_neg h1, if_neg h1, hlR, if_neg (by omega), if_neg (by omega), Int.toNat_natCast, hget]
                simp
              have hl4 : R.length ≤ 200 := by omega
              go_wp2_with (fail)
              refine (HBA _).mono ?_
              rintro e wq ⟨rfl, hq⟩
              replace hq := hq.symm
              subst hq
              go_wp2_with (fail)
              generalize W.heap.size = gb at *
              generalize W.alloc (.cells #[.int .i64 b.f, .int .i64 b.t, .slice aox b.b.length cpx] 30) = W6 at *
              refine (HB6 _).mono ?_
              rintro e wq ⟨rfl, hq⟩
              replace hq := hq.symm
              subst hq
              have H1 := Double_any (i := (n : Int)) T2.la
              rw [hdE.1, hdE.2] at H1
              clear hdE
              go_wp2_with (fail)
              refine H1.mono ?_
              rintro e w7 ⟨rfl, F2, hL, hG⟩
              have T3 := T2.onL hL hG
              replace BB := hG.1.obj BB hgb.1
              replace o1 := o1.mod hG.1 (fun k hk hF => T2.far k hF (Ft.of hxx hk))
              clear T2 hL hG H1 r0 r2 c0 c1 c2 c3 c4 c5 T1 hA HB6 HB6' HBA
              have z0 : w7.cell? ⟨gb, 0, none⟩ = some (.int .i64 b.f) := by simp [World.cell?, BB]
              have z1 : w7.cell? ⟨gb, 1, none⟩ = some (.int .i64 b.t) := by simp [World.cell?, BB]
              have z2 : w7.cell? ⟨gb, 2, none⟩ = some (.slice aox b.b.length cpx) := by simp [World.cell?, BB]
              have HC := copy_any (.slice aox b.b.length cpx) b.b w7.drew ((o1.mod ((Mod.refl (fun _ => False) w7).drew) (fun _ _ h => h)).sl o2.1) o2.2
              go_wp2_with (fail)
              go_region_held3 (fun y => y.cell? ⟨gb, 0, none⟩ = some (.int .i64 b.f) ∧ y.cell? ⟨gb, 1, none⟩ = some (.int .i64 b.t) ∧ y.cell? ⟨gb, 2, none⟩ = some (.slice aox b.b.length cpx)) (first | exact ⟨z0, z1, z2⟩ | exact ⟨k0, k1, k2⟩ | go_keep)
                (first | (go_at_call 27; refine HC.mono ?_; rintro e w8 ⟨uy, rfl, OY, hm8, hn8⟩; replace z0 : w8.cell? ⟨gb, 0, none⟩ = some (.int .i64 b.f) := hm8.cell z0 (fun h => h); replace z1 : w8.cell? ⟨gb, 1, none⟩ = some (.int .i64 b.t) := hm8.cell z1 (fun h => h); replace z2 : w8.cell? ⟨gb, 2, none⟩ = some (.slice aox b.b.length cpx) := hm8.cell z2 (fun h => h); obtain ⟨aoy, cpy, ey⟩ := OY.shape; subst ey; have T4 := (T3.quiet ((Mod.refl (fun _ => False) w7).drew)).fresh hm8 OY hn8; have hrow := fun o => owns_mod T4.gr.row ((Mod.refl (fun _ => False) w8).alloc o) (fun _ _ h => h); have hzz : ∀ (o : Obj) (w9 : World), (w8.alloc o).grownBy w9 (Value.slice (some ⟨gR, 0, none⟩) R.length capR).ownBlock → w9.cell? ⟨gb, 0, none⟩ = some (.int .i64 b.f) ∧ w9.cell? ⟨gb, 1, none⟩ = some (.int .i64 b.t) ∧ w9.cell? ⟨gb, 2, none⟩ = some (.slice aox b.b.length cpx) := fun o w9 hg => by { have hm1 : Mod (fun k => (Value.slice (some ⟨gR, 0, none⟩) R.length capR).ownBlock = some k) w8 w9 := ((Mod.refl _ w8).alloc o).grown hg (fun k hk _ => hk); have hnn : ¬ (Value.slice (some ⟨gR, 0, none⟩) R.length capR).ownBlock = some gb := fun e => hgb.2.1 (.inl e); exact ⟨hm1.cell z0 hnn, hm1.cell z1 hnn, hm1.cell z2 hnn⟩ }) |
                  (refine step_append_lies _ (by rfl) _ _ 45 (by rfl) 0 30 i0 _ 3 40 Try.underlying45 hii hz0 hz1 hz2 rfl (by decide) (.slice (some ⟨gR, 0, none⟩) R.length capR) R.length (cel R) (by rfl) (hrow _) ⟨w8.heap.size, 0, none⟩ 1 1 [.int .i64 b.f, .int .i64 b.t, .slice aoy b.b.length cpy] (by rfl) rfl (by exact app3 _ _ _ _ _) (by simp [Value.oneCell']) (by omega) (by simp only [maxLen]; omega) (by omega) (Nat.zero_le _) (w8.heap.size + 1) (by simp) ?_; intro g1 cap1 w9 hown1 hgrow hg9 hlt9; obtain ⟨k0, k1, k2⟩ := hzz _ w9 hgrow))
              have hm9 : Mod (fun k => (Value.slice (some ⟨gR, 0, none⟩) R.length capR).ownBlock = some k) w8 w9 := ((Mod.refl _ w8).alloc _).grown hgrow (fun k hk _ => hk)
              have G := T4.gr.app2 (d := b) OY o2 (fun k hk => (T4.x k (.inr hk)).2.1) hown1 hm9 (fun k hk => by
                simp only [Value.ownBlock, Option.some.injEq] at hk
                subst hk
                rcases hg9 with h1 | h1
                · exact .inl h1
                · exact .inr (by omega))
              have TT := T4.onG (Y := fun _ => False) G.1 (hm9.mono fun k _ hk => .inl hk) (fun k hk => by
                rcases G.2 k hk with h1 | h1 | h1
                · exact .inl h1
                · exact .inr (.inl (.inr h1))
                · exact .inr (.inr h1)) (fun _ h => h.elim)
              rw [show (R ++ [(b, Value.slice none 0 0)]).map Prod.fst = (R ++ [(b, Value.slice aoy b.b.length cpy)]).map Prod.fst by simp] at TT
              have hR2 : (R ++ [(b, Value.slice aoy b.b.length cpy)]).length ≤ k + 1 := by simp; omega
              have hlen : ((R ++ [(b, Value.slice aoy b.b.length cpy)]).length : Int) = R.length + 1 := by simp
              clear T3 T4 HC G hm9 hown1 hgrow hzz hrow k0 k1 k2 z0 z1 z2 OY o1 o2 hm8 hn8
              generalize R ++ [(b, Value.slice aoy b.b.length cpy)] = R2 at *
              have hLL : (((R2.map Prod.fst).length : Int) != (R.length : Int) + 1) = false := by rw [List.length_map, hlen]; simp
              go_wp2_with (fail)
              refine (Len_any TT.la).mono ?_
              rintro e wq ⟨rfl, hq⟩
              replace hq := hq.symm
              subst hq
              have I : Hid (Ib w _ p (.slice (some ⟨g1, 0, none⟩) (R.length + 1) cap1) (k + 1)) := ⟨s, F2, R2, TT, hR2⟩
              clear TT
              go_wp2
              go_roundw
              case rel => exact ⟨k + 1, by go_num, by omega, by omega, I⟩
              case measure => simp [intOf]; omega
          · -- Flip
            as_aux_lemma =>
              have hbl2 := o2.2
              have HBT : ∀ w, Calls Try.prog 9 #[.int .i64 db, .int .i64 (8 * (b.b.length : Int) + 1)] w fun e w' => e = .returned (.int .i64 (db % (8 * (b.b.length : Int) + 1))) ∧ w' = w := fun w => by
                have := bring_any db (8 * b.b.length + 1) w (by omega) (by omega) ib.1 ib.2
                rwa [show ((8 * b.b.length + 1 : Nat) : Int) = 8 * (b.b.length : Int) + 1 by omega] at this
              have ht0 : 0 ≤ db % (8 * (b.b.length : Int) + 1) ∧ db % (8 * (b.b.length : Int) + 1) < 8 * (b.b.length : Int) + 1 := ⟨Int.emod_nonneg _ (by omega), Int.emod_lt_of_pos _ (by omega)⟩
              generalize db % (8 * (b.b.length : Int) + 1) = t' at HBT ht0
              obtain ⟨t, rfl⟩ : ∃ t : Nat, t' = t := ⟨t'.toNat, by omega⟩
              have ht : t ≤ 8 * b.b.length := by omega
              have hlR : (R.map Prod.fst).length = R.length := by simp
              have hwa : IntKind.i64.wrap (8 * (b.b.length : Int)) = 8 * (b.b.length : Int) := by rw [IntKind.wrap_i64]; omega
              have hwb : IntKind.i64.wrap (8 * (b.b.length : Int) + 1) = 8 * (b.b.length : Int) + 1 := by rw [IntKind.wrap_i64]; omega
              have hwc : wrap64 (8 * (b.b.length : Int)) = 8 * (b.b.length : Int) := by unfold wrap64; omega
              have hwd : wrap64 (8 * (b.b.length : Int) + 1) = 8 * (b.b.length : Int) + 1 := by unfold wrap64; omega
              have HTM : Hid ((t : Int) ≤ 9223372036854775807) := by unfold Hid; omega
              clear hbl2
              go_wp2_with (fail)
              refine (HBA _).mono ?_
              rintro e wq ⟨rfl, hq⟩
              replace hq := hq.symm
              subst hq
              go_wp2_with (fail)
              generalize W.heap.size = gb at *
              generalize W.alloc (.cells #[.int .i64 b.f, .int .i64 b.t, .slice aox b.b.length cpx] 30) = W6 at *
              refine (HB6 _).mono ?_
              rintro e wq ⟨rfl, hq⟩
              replace hq := hq.symm
              subst hq
              have z2 : W6.cell? ⟨gb, 2, none⟩ = some (.slice aox b.b.length cpx) := by simp [World.cell?, BB]
              clear c0 c1 c2 c3 c4 c5 T1 hA HB6 HB6' HBA r0
              go_wp2_with (fail)
              refine (HBT _).mono ?_
              rintro e wq ⟨rfl, hq⟩
              replace hq := hq.symm
              subst hq
              have HWA : Hid (IntKind.i64.wrap (8 * (b.b.length : Int)) = 8 * (b.b.length : Int)) := hwa
              have HWC : Hid (wrap64 (8 * (b.b.length : Int)) = 8 * (b.b.length : Int)) := hwc
              clear hwa hwb hwc hwd
              have H1 := Flip_any (i := (n : Int)) (t := (t : Int)) T2.la HTM.out
              clear r2 HBT
              by_cases hlt9 : t < 8 * b.b.length
              · have hfE : fE (R.map Prod.fst) n t = 0 ∧ fL (R.map Prod.fst) n t = (R.map Prod.fst).modify n fun d => fD d t := by
                  have h1 : ¬ (((n : Int) < 0 ∨ ((R.map Prod.fst).length : Int) ≤ n) ∨ (t : Int) < 0 ∨ (((R.map Prod.fst).getD (Int.toNat n) ⟨0, 0, []⟩).b.length : Int) ≤ (t : Int) / 8) := by
                    rw [hlR, Int.toNat_natCast, hget]
                    show ¬ ((_ ∨ _) ∨ _ ∨ (b.b.length : Int) ≤ (t : Int) / 8)
                    omega
                  unfold fE fL
                  rw [if_neg h1, if_neg h1, Int.toNat_natCast, Int.toNat_natCast]
                  exact ⟨rfl, rfl⟩
                rw [hfE.1, hfE.2] at H1
                clear hfE
                go_wp2_with (fail)
                refine H1.mono ?_
                rintro e w7 ⟨rfl, hL, hG⟩
                have T3 := T2.onL hL (Gone.same hG)
                replace BB := hG.obj BB hgb.1
                replace o1 := o1.mod hG (fun k hk hF => T2.far k hF (Ft.of hxx hk))
                clear T2 hL hG H1 z2
                have z2 : w7.cell? ⟨gb, 2, none⟩ = some (.slice aox b.b.length cpx) := by simp [World.cell?, BB]
                have hK2 : t / 8 < b.b.length := by omega
                obtain ⟨g2, cp2, e2', _⟩ := o1.form (by omega)
                simp only [Value.slice.injEq, true_and] at e2'
                obtain ⟨rfl, rfl⟩ := e2'
                have hcr : 0 ≤ b.b.getD (t / 8) 0 ∧ b.b.getD (t / 8) 0 ≤ 255 := o2.1 _ (by simp [hK2])
                have hJ2 : t % 8 < 8 := Nat.mod_lt _ (by omega)
                have hfr := flp_rng hcr hJ2
                have hcell : w7.cell? ⟨g2, t / 8, none⟩ = some (.int .u8 (b.b.getD (t / 8) 0)) := by
                  obtain ⟨_, _, e3, _, _, _, h4⟩ := (o1.sl o2.1).form
                  obtain ⟨_, _, e4, h5⟩ := h4 (by intro e; rw [e] at hK2; simp at hK2)
                  rw [Value.slice.injEq] at e3
                  obtain ⟨e3, _, _⟩ := e3
                  rw [← e3] at e4
                  cases e4
                  have := h5 (t / 8) hK2
                  rwa [Nat.zero_add] at this
                obtain ⟨cur, hcur⟩ := o1.kind (g := g2) rfl
                have hfz : w7.frozen? ⟨g2, t / 8, none⟩ = false := by simp [World.frozen?, hcur]
                have G := T3.gr.setb hxx (g := g2) (j := t / 8) rfl hK2 hfr
                have hin : Ft (.slice (some ⟨gR, 0, none⟩) R.length capR) R g2 := Ft.of hxx rfl
                have TT := T3.onG (Y := fun _ => False) G.1 (G.2.mono fun k _ e => e ▸ hin) (fun k hk => by rw [Ft.setb] at hk; exact .inl hk) (fun _ h => h.elim)
                have hst := stb_fst R n (t / 8) (t % 8) hxx
                dsimp only at hst
                have hst' : (R.map Prod.fst).modify n (fun d => fD d t) = (stb R n (t / 8) (flp (b.b.getD (t / 8) 0) (t % 8))).map Prod.fst := hst.symm
                rw [hst'] at TT
                have hR2 : (stb R n (t / 8) (flp (b.b.getD (t / 8) 0) (t % 8))).length = R.length := by simp [stb]
                have HfbH : Hid (bits .xor .u8 (b.b.getD (t / 8) 0) ((2 : Int) ^ min (t % 8) 8 % 256) = flp (b.b.getD (t / 8) 0) (t % 8)) := flp_bits' hcr hJ2
                have HTT : Hid (Sb _ _ _ _ _ _ _ _ _) := TT
                have hi8 : (t : Int) < 8 * (b.b.length : Int) := by omega
                have hKi : ((t / 8 : Nat) : Int) < b.b.length := by omega
                have HK3 : Hid ((t : Int).tdiv 8 = ((t / 8 : Nat) : Int)) := by unfold Hid; rw [Int.tdiv_eq_ediv_of_nonneg (by omega)]; omega
                have HJ3 : Hid ((t : Int).tmod 8 = ((t % 8 : Nat) : Int)) := by unfold Hid; rw [Int.tmod_eq_emod_of_nonneg (by omega)]; omega
                have HW1 : Hid (wrap64 ((t / 8 : Nat) : Int) = ((t / 8 : Nat) : Int)) := by have := HTM.out; unfold Hid wrap64; omega
                have HW2 : Hid (wrap64 ((t % 8 : Nat) : Int) = ((t % 8 : Nat) : Int)) := by unfold Hid wrap64; omega
                clear TT T3 G hst hst' hcur hfr hin BB o1 e0 e1 e2
                generalize stb R n (t / 8) (flp (b.b.getD (t / 8) 0) (t % 8)) = R2 at *
                generalize flp (b.b.getD (t / 8) 0) (t % 8) = y at *
                generalize b.b.getD (t / 8) 0 = cc at *
                generalize t / 8 = K at *
                generalize t % 8 = J at *
                have hK3 := HK3.out
                have hJ3 := HJ3.out
                have hw1 := HW1.out
                have hw2 := HW2.out
                have hwa := HWA.out
                have hwc := HWC.out
                have hfb := HfbH.out
                go_wp2_with (fail)
                have hR2' : R2.length ≤ k + 1 := by have := hR2; omega
                have HKI : Hid (k < 200 ∧ k < ds.length) := ⟨hlt2, hlt⟩
                clear hwa hwc HK3 HJ3 HW1 HW2 HWA HWC HfbH HTM hgb hgg hgx lg hxx hget hlR hcr hJ2 hK2 hlt9 ht ht0 hi8 hd hlt hlt2 hki hki2 hk hk2 hR hR0 hR1 hn0 hn hni hRc hRm hdl ia ib ik iff it hbl HSL hz0 hz1 hz2 hii o2
                go_region
                all_goals
                  have TT := HTT.out.quiet ((Mod.refl (fun _ => False) _).drew)
                  clear hcell hfz hfb hK3 hJ3 hw1 hw2 HTT z2
                  obtain ⟨hlt2, hlt⟩ := HKI.out
                  have hlen2 : (R2.length : Int) = R.length := by rw [hR2]
                  clear hR2
                  have hR2 := hR2'
                  have hLL : (((R2.map Prod.fst).length : Int) != (R.length : Int)) = false := by rw [List.length_map, hlen2]; simp
                  go_wp2_with (fail)
                  refine (Len_any TT.la).mono ?_
                  rintro e wq ⟨rfl, hq⟩
                  replace hq := hq.symm
                  subst hq
                  have I : Hid (Ib w _ p (.slice (some ⟨gR, 0, none⟩) R.length capR) (k + 1)) := ⟨s, F, R2, TT, hR2⟩
                  clear TT
                  go_wp2
                  go_roundw
                  case rel => exact ⟨k + 1, by go_num, by omega, by omega, I⟩
                  case measure => simp [intOf]; omega

              · have hfE : fE (R.map Prod.fst) n t = 9 ∧ fL (R.map Prod.fst) n t = R.map Prod.fst := by
                  have h1 : (((n : Int) < 0 ∨ ((R.map Prod.fst).length : Int) ≤ n) ∨ (t : Int) < 0 ∨ (((R.map Prod.fst).getD (Int.toNat n) ⟨0, 0, []⟩).b.length : Int) ≤ (t : Int) / 8) := by
                    rw [Int.toNat_natCast, hget]
                    refine .inr (.inr ?_)
                    show (b.b.length : Int) ≤ (t : Int) / 8
                    omega
                  unfold fE fL
                  rw [if_pos h1, if_pos h1]
                  exact ⟨rfl, rfl⟩
                rw [hfE.1, hfE.2] at H1
                clear hfE
                have hi8 : ¬ (t : Int) < 8 * (b.b.length : Int) := by omega
                go_wp2_with (fail)
                refine H1.mono ?_
                rintro e w7 ⟨rfl, hL, hG⟩
                have TT := (T2.onL hL (Gone.same hG)).less (Y := fun _ => False) (fun _ h => h.elim)
                replace BB := hG.obj BB hgb.1
                clear T2 hL hG H1 z2
                have z2 : w7.cell? ⟨gb, 2, none⟩ = some (.slice aox b.b.length cpx) := by simp [World.cell?, BB]
                have hR2 : R.length ≤ k + 1 := by omega
                clear BB o1 o2 e0 e1 e2
                have hwa := HWA.out
                have hwc := HWC.out
                have hLL : (((R.map Prod.fst).length : Int) != (R.length : Int)) = false := by simp
                go_wp2_with (fail)
                refine (Len_any TT.la).mono ?_
                rintro e wq ⟨rfl, hq⟩
                replace hq := hq.symm
                subst hq
                have I : Hid (Ib w _ p (.slice (some ⟨gR, 0, none⟩) R.length capR) (k + 1)) := ⟨s, F, R, TT, hR2⟩
                clear TT
                go_wp2
                go_roundw
                case rel => exact ⟨k + 1, by go_num, by omega, by omega, I⟩
                case measure => simp [intOf]; omega
    · as_aux_lemma =>
        have hex : ¬ ((k : Int) < ds.length) ∨ ((k : Int) < ds.length ∧ k = 200) := by omega
        have T0 : Hid (Sb w wr p ((R.drop 0).map Prod.fst) s F (.slice aoR R.length capR) R (fun _ => False)) := T
        unfold maxLen at hRm
        clear hlt hd T
        rcases hex with hex | ⟨hex, rfl⟩
        all_goals
          go_wp2_with (fail)
          clear hex hk
          go_loopw [15] (fun i wr => ∃ (m : Nat) (F' : Nat → Prop), i = .int .i64 m ∧ m ≤ R.length ∧ Hid (Sb w wr p ((R.drop m).map Prod.fst) s F' (.slice aoR R.length capR) R (fun _ => False))) (fun i _ => R.length - (intOf i).toNat)
          case atStart => exact ⟨0, F, rfl, by omega, T0⟩
          case round =>
            rename_i iv wr hrel
            obtain ⟨m, F', rfl, hm, TM⟩ := hrel
            clear T0
            by_cases hlt : m < R.length
            · have hmi : (m : Int) < R.length := by omega
              have T := TM.out
              clear TM
              obtain ⟨gR, cR, xx, eR, _, _, hxx, _⟩ := T.gr.at hlt
              simp only [Value.slice.injEq, true_and] at eR
              obtain ⟨rfl, rfl⟩ := eR
              have hdrop : (R.drop m).map Prod.fst = xx.1 :: (R.drop (m + 1)).map Prod.fst := by
                rw [List.drop_eq_getElem_cons hlt]
                have : R[m] = xx := by rw [List.getElem?_eq_getElem hlt] at hxx; exact Option.some.inj hxx
                rw [this, List.map_cons]
              have H1 := Take_any (i := 0) T.la
              have hE : tE ((R.drop m).map Prod.fst) 0 = 0 ∧ tL ((R.drop m).map Prod.fst) 0 = (R.drop (m + 1)).map Prod.fst ∧ tD ((R.drop m).map Prod.fst) 0 = xx.1 := by
                rw [hdrop]
                exact ⟨rfl, rfl, rfl⟩
              rw [hE.1, hE.2.1, hE.2.2] at H1
              clear hE hdrop
              go_wp2_with (fail)
              refine H1.mono ?_
              rintro e w6 ⟨ux, F2, rfl, hL, hG, hT⟩
              have T2 := T.taken hL hG hT
              obtain ⟨aox, cpx, ex⟩ := hT.own.shape
              subst ex
              have hA := (Mod.refl (fun _ => False) w6).alloc (.cells #[.int .i64 xx.1.f, .int .i64 xx.1.t, .slice aox xx.1.b.length cpx] 30)
              have OX := hT.own.mod hA (fun _ _ h => h)
              have T3 := T2.quiet hA
              have BX := heap_alloc_new w6 (.cells #[.int .i64 xx.1.f, .int .i64 xx.1.t, .slice aox xx.1.b.length cpx] 30)
              have OC := hT.oct
              obtain ⟨_, _, yy, eR, _, _, hyy, e0, e1, e2, o1, o2⟩ := T3.gr.at hlt
              obtain rfl : yy = xx := by rw [hxx] at hyy; exact (Option.some.inj hyy).symm
              simp only [Value.slice.injEq, Option.some.injEq, Addr.mk.injEq, and_true, true_and] at eR
              obtain ⟨rfl, rfl⟩ := eR
              obtain ⟨b, ub⟩ := yy
              dsimp only at *
              obtain ⟨aob, cpb, eb⟩ := o1.shape
              subst eb
              have H := fun W' hm => is_self (d := b) (w := W') ((OX.mod hm (fun _ _ h => h)).sl OC.1) ((o1.mod hm (fun _ _ h => h)).sl OC.1)
              clear T H1 hL hG hT T2 hA hxx hyy
              go_wp2_with (fail)
              generalize w6.heap.size = gx at *
              generalize w6.alloc (.cells #[.int .i64 b.f, .int .i64 b.t, .slice aox b.b.length cpx] 30) = W6 at *
              have x0 : W6.cell? ⟨gx, 0, none⟩ = some (.int .i64 b.f) := by simp [World.cell?, BX]
              have x1 : W6.cell? ⟨gx, 1, none⟩ = some (.int .i64 b.t) := by simp [World.cell?, BX]
              have x2 : W6.cell? ⟨gx, 2, none⟩ = some (.slice aox b.b.length cpx) := by simp [World.cell?, BX]
              clear BX
              go_region_held3 (fun y => (y.cell? ⟨gx, 0, none⟩ = some (.int .i64 b.f) ∧ y.cell? ⟨gx, 1, none⟩ = some (.int .i64 b.t) ∧ y.cell? ⟨gx, 2, none⟩ = some (.slice aox b.b.length cpx)) ∧ y.cell? ⟨gR, m * 3, none⟩ = some (.int .i64 b.f) ∧ y.cell? ⟨gR, m * 3 + 1, none⟩ = some (.int .i64 b.t) ∧ y.cell? ⟨gR, m * 3 + 2, none⟩ = some (.slice aob b.b.length cpb)) (first | exact ⟨⟨x0, x1, x2⟩, e0, e1, e2⟩ | go_keep)
                (first | (go_at_call 28; refine (H _ ((Mod.refl _ W6).drew)).mono ?_; rintro e w7 ⟨rfl, hm7⟩; replace x0 : w7.cell? ⟨gx, 0, none⟩ = some (.int .i64 b.f) := hm7.cell x0 (fun h => h); replace x1 : w7.cell? ⟨gx, 1, none⟩ = some (.int .i64 b.t) := hm7.cell x1 (fun h => h); replace x2 : w7.cell? ⟨gx, 2, none⟩ = some (.slice aox b.b.length cpx) := hm7.cell x2 (fun h => h); replace e0 : w7.cell? ⟨gR, m * 3, none⟩ = some (.int .i64 b.f) := hm7.cell e0 (fun h => h); replace e1 : w7.cell? ⟨gR, m * 3 + 1, none⟩ = some (.int .i64 b.t) := hm7.cell e1 (fun h => h); replace e2 : w7.cell? ⟨gR, m * 3 + 2, none⟩ = some (.slice aob b.b.length cpb) := hm7.cell e2 (fun h => h)))
              have TT : Hid (Sb w w7 p ((R.drop (m + 1)).map Prod.fst) s F2 (.slice (some ⟨gR, 0, none⟩) R.length capR) R (fun _ => False)) := ((T3.quiet ((Mod.refl (fun _ => False) W6).drew)).quiet hm7).less (fun _ h => h.elim)
              clear T3 H x0 x1 x2 e0 e1 e2 hm7 OX OC o1 o2
              go_wp2
              go_roundw
              case rel => exact ⟨m + 1, F2, by go_num, by omega, TT⟩
              case measure => simp [intOf]; omega
            · obtain rfl : m = R.length := by omega
              have T := TM.out
              clear TM
              rw [List.drop_eq_nil_of_le (Nat.le_refl _)] at T
              have H := Len_any T.la
              clear hlt
              go_wp2_with (fail)
              refine H.mono ?_
              rintro e wq ⟨rfl, hq⟩
              replace hq := hq.symm
              subst hq
              go_wp2
              go_ret
              exact ⟨rfl, T.mod⟩
namespace laneBook
open Go.ChangeShapes Go.WideShapes Go.ChangeAt Go.RowKit
set_option maxRecDepth 100000 in
theorem lifted (os : Os) (started : os.Started) (H : Type) (enc : TypeId × Value → H) :
    ReturnsInHanded {} Try.checked os 4 .any (Rows.laneBookSpec.pre6 enc Try.prog Try.f4 Rows.laneBookRow.domain false) (Rows.laneBookSpec.post enc Try.prog Try.f4 false true false false) := by
  refine returnsInHanded_of_change_sized (C := Try.checked) own started (by kernel_rfl) Try.func4
    (ChangeSpec.witness6 (enc := enc) (C := Try.checked) false ⟨#[], #[.slice none 0 0], []⟩ 8 (by kernel_rfl) (by kernel_rfl) (by kernel_rfl) (by kernel_rfl)) ?_
  intro W base args ds gs before hval0 hW hcnd hsz0 _
  have hval : ∀ (j : Nat) t v, Try.f4.params[j]? = some t → args[j]? = some v → Value.okWide Try.prog W .any base t v := hval0
  have hsz : (DataW.weightsEach Try.prog (Try.f4.params.toList ++ Rows.laneBookSpec.plain.varTypes Try.prog) (ds ++ gs)).all (· ≤ reachBytes) = true := hsz0
  have hW' := hW
  obtain ⟨p, q, hA0, hV, rfl, hfz, hnd⟩ := hW
  have hA : DataW.TrodAll enc Try.prog W 0 (fun _ => true) true Try.f4.params.toList args.toList ds p := hA0
  rw [Try.params4] at hA hval hsz
  obtain ⟨v0, vs0, d0, ds0, p0, q0, hargs, rfl, rfl, h0, r0⟩ := trodAll_cons hA
  obtain ⟨rfl, rfl, rfl⟩ := trodAll_nil r0
  obtain rfl : args = #[v0] := by cases args; simp_all
  obtain ⟨rfl, rfl⟩ := trodVars_none hV
  have k0 := h0
  have lt0 : ∀ x ∈ p0, x.block < W.heap.size := by obtain ⟨m, hm⟩ := k0; exact DataW.trod_lt m _ _ _ hm
  obtain ⟨dl0, hd0⟩ := open_deeds h0 (okWide_slice Try.underlying22 (hval 0 22 v0 rfl rfl)) (fun n hn => by have := List.all_eq_true.1 hsz n (DataW.weights_mem_each (j := 0) (t := 22) rfl rfl n hn); simpa using this)
  clear hA0 hval0
  refine (book_walk v0 dl0 W hd0).mono fun e W' ⟨he, hm⟩ => ?_
  subst he
  have bel : Below W.heap.size W W' := hm.below _ (Nat.le_refl _) (fun _ h => h.elim)
  exact ⟨_, rfl, _, _, _, [], _, [], hW', trodAll_mk1 (shut_bool Try.underlying4 _), (trodAll_cons_mk (Below.trod laidOut (by kernel_rfl) (of_decide_eq_true (by kernel_rfl)) k0 bel lt0) trodAll_mk0), rfl, bel.frame _, fun h => by cases h⟩

theorem over : Rows.laneBookRow.holds Try.pinned (OpenSpec.ofChange Rows.laneBookSpec) :=
  OpenClaim.holds_of_wide 4 Try.f4 rfl rfl rfl rfl rfl rfl rfl ⟨rfl, rfl, rfl, rfl, rfl⟩ rfl rfl rfl rfl rfl (by kernel_rfl) Try.func4 (by kernel_rfl)
    (of_decide_eq_true (by kernel_rfl)) (by unfold Func.isWrapper; first | (rw [if_pos (by decide +kernel)]; kernel_rfl) | (rw [if_neg (by decide +kernel)]; exact ⟨rfl, rfl⟩))
    (fun os started H enc _ => lifted os started H enc)
end laneBook
theorem laneBook_holds : Rows.LaneBookSaid := laneBook.over
end Go.Proofs.Ythmglemjlinlgaa
