/- Contract of the document's Open of frames (hauberkref11): it answers as twin's does. Conditions: bytes of at most 2^47. -/
import Derived.Test.YtlkkbfcedjedoaaTDa
import Derived.Test.YtlkkbfcedjedoaaTq
namespace Go.Proofs.Ytlkkbfcedjedoaa
open Go.RowKit
theorem infoI : (Try.prog.info? 3).map (fun i => (i.zero, i.size, i.bytes)) = some (some (.int .i64 0), 1, 8) := by kernel_rfl
theorem app1w (w : World) (c : Value) (t : TypeId) : ∀ j u, [c][j]? = some u → (w.alloc (.cells #[c] t)).cell? ((⟨w.heap.size, 0, none⟩ : Addr).add j) = some u := by
  intro j u hj
  match j, hj with
  | 0, hj => simp at hj; subst hj; simp [Addr.add]
  | j + 1, hj => simp at hj
def Vi (l : List Int) : List Value := l.map (Value.int .i64)
set_option maxRecDepth 100000 in
set_option maxHeartbeats 4000000 in
theorem dOpen_any (v : Value) (b : List Int) (w : World) (hs : Sl w v b) (hb : b.length ≤ 140737488355328) : Calls Try.prog 16 #[v] w (OpPost b w) := by
  obtain ⟨i0, hi, hz0, hz1, hz2⟩ := info_parts infoI
  have hs0 := hs.mod ((Mod.refl (fun _ => False) w).alloc (.cells #[.int .i64 0, .int .i64 0, .int .i64 0, .slice none 0 0] 24)) (fun _ _ h => h)
  have hB0 := Bk.new w #[.int .i64 0, .int .i64 0, .int .i64 0, .slice none 0 0] 24
  have hM0 := (Mod.refl (fun _ => False) w).alloc (.cells #[.int .i64 0, .int .i64 0, .int .i64 0, .slice none 0 0] 24)
  have G := Sm.rOpen_any v b _ hs0 hb
  have hrng := hs.rng
  have hlD := openD_len b
  have hmD := openD_mem b
  clear hs hs0
  go_enter Try.func16, Try.ntmps16
  go_wp2_with (fail)
  refine G.mono ?_
  rintro e w1 ⟨v1, rfl, ho1, hm1, hg1⟩
  have hB1 := hB0.mod hm1 (fun h => h)
  have hM1 := hM0.and hm1
  clear G hB0 hM0 hm1 hg1
  by_cases h1 : Sm.openE b = 0
  · rw [h1]
    have hs1 : Sl w1 v1 (Sm.openD b) := ho1.sl (fun c hc => hrng c (hmD c hc))
    have hDe : Hid (opE b = if rfE (Sm.openD b) ≠ 0 then rfE (Sm.openD b) else if 0 < (rfR (Sm.openD b)).length ∨ okF (rfN (Sm.openD b) 0) (rfN (Sm.openD b) 1) (rfN (Sm.openD b) 2) (rfB (Sm.openD b)).length = false then 4 else 0) := by
      show _ = _
      unfold opE
      rw [if_neg (by simp [h1])]
    have hDN : Hid (opE b = 0 → opN b 0 = rfN (Sm.openD b) 0 ∧ opN b 1 = rfN (Sm.openD b) 1 ∧ opN b 2 = rfN (Sm.openD b) 2 ∧ opB b = rfB (Sm.openD b)) := fun h => by simp [opN, opB, h]
    have hl2 : (Sm.openD b).length ≤ 140737488355328 := by omega
    generalize Sm.openD b = L at hs1 hDe hDN hl2
    clear h1 ho1 hlD hmD hrng
    go_wp2_with (fail)
    refine (rNew v1 L w1 hs1 hl2).mono ?_
    rintro e w2 ⟨r, rfl, v2, hR2, hm2, hr2, hg2⟩
    have hB2 := hB1.mod hm2 (fun h => h)
    have hM2 := hM1.and hm2
    have hlt := hB1.lt
    have hg2' : ∀ g, v2.ownBlock = some g → w.heap.size < g := fun g hg => by have := hg2 g hg; omega
    clear hB1 hM1 hs1 hm2 hg2
    go_wp2
    go_loopw [7, 8] (fun nv i wr => ∃ (k : Nat) (v' nv' : Value), nv' = nv ∧ i = .int .i64 (k : Int) ∧ k ≤ 3 ∧ Hid (rde k L = 0) ∧ Rf wr r v' (rdr k L) ∧ (∀ g, v'.ownBlock = some g → w.heap.size < g) ∧ Mod (fun _ => False) w wr ∧ Bk wr w.heap.size 24 #[.int .i64 0, .int .i64 0, .int .i64 0, .slice none 0 0] ∧ wr.ownsRow 0 3 1 nv' k (Vi (rdv k L)) ∧ (∀ g, nv'.ownBlock = some g → w.heap.size < g ∧ g ≠ r ∧ (rdr k L ≠ [] → v'.ownBlock ≠ some g))) (fun _ i _ => 3 - (intOf i).toNat)
    case atStart => exact ⟨0, v2, _, rfl, rfl, by omega, rfl, hR2, hg2', hM2, hB2, World.ownsRow_nil _ _ _ _, by intro g hg; simp [Value.ownBlock] at hg⟩
    case round =>
      obtain ⟨k, v', nv', rfl, rfl, hk, hE, hR, hgv, hM, hB, hrow, hgn⟩ := hrel
      clear hR2 hg2' hM2 hB2
      by_cases hlt3 : k < 3
      · have G := rGet r v' (rdr k L) wr hR
        have hi3 : (k : Int) < 3 := by omega
        have hlen : (rdv k L).length = k := rdv_len k L hE.out
        have hSt := rd_stop k (2 - k) L hE.out
        rw [show k + (2 - k + 1) = 3 by omega] at hSt
        have hOn := rd_one k L hE.out
        generalize hx : (num 0 0 (rdr k L)).1 = x at G hOn
        generalize he : (num 0 0 (rdr k L)).2.2 = er at G hOn hSt
        generalize hq : (rdr k L).drop (num 0 0 (rdr k L)).2.1.toNat = Rk at G hOn
        have hq' : (rdr k L).drop (num 0 0 (rdr k L)).2.1.toNat = Rk := hq
        have HQ : Hid ((rdr k L).drop (num 0 0 (rdr k L)).2.1.toNat = Rk) := hq'
        clear hx hq he hq'
        go_wp2_with (fail)
        refine G.mono ?_
        rintro e w3 ⟨rfl, v3, hR3, hm3, hg3⟩
        have hB3 := hB.mod hm3 (by omega)
        have hM3 := hM.trans hm3 (V := fun _ => False) (fun _ _ h => h) (fun i hi h => by omega)
        have hrow3 := row_mod hrow hm3 (fun g hg => (hgn g hg).2.1)
        clear G hR hB hM hrow
        by_cases h0 : er = 0
        · subst h0
          obtain ⟨o1, o2, o3⟩ := hOn rfl
          have HE : Hid (rde (k + 1) L = 0) := o1
          have hVi : Vi (rdv k L) ++ [.int .i64 x] = Vi (rdv (k + 1) L) := by rw [o2]; simp [Vi]
          rw [← o3] at hR3
          have HSub : Hid (rdr (k + 1) L ≠ [] → rdr k L ≠ []) := fun h e => h (by rw [o3, ← HQ.out, e]; simp)
          have hrow4 := row_mod hrow3 ((Mod.refl (fun _ => False) w3).alloc (.cells #[.int .i64 x] 3)) (fun _ _ h => h)
          have hlen0 : (Vi (rdv k L)).length = k := by simp [Vi, hlen]
          have HVi : Hid (Vi (rdv k L) ++ [.int .i64 x] = Vi (rdv (k + 1) L)) := hVi
          have o9 : k + 1 ≤ maxLen := by simp only [maxLen]; omega
          have o8 : (k + 1) * 8 ≤ 140737488355328 := by omega
          generalize Vi (rdv k L) = XS at hrow4 HVi hlen0
          clear o1 o2 o3 hOn hSt hVi hlen hlen0
          go_wp2_with (at_builtin; refine wpList_append_lies _ rfl _ _ 55 rfl 0 3 i0 (.int .i64 0) 1 8 Try.underlying55 hi hz0 hz1 hz2 rfl (by decide) nv' k XS rfl hrow4 ⟨w3.heap.size, 0, none⟩ 1 1 [.int .i64 x] rfl rfl (app1w w3 (.int .i64 x) _) (by intro u hu; simp only [List.mem_singleton] at hu; subst hu; rfl) (Nat.zero_lt_one) o9 o8 (Nat.zero_le _) (w3.heap.size + 1) (by simp) ?_; intro g1 cap1 w5 hown1 hgrow hg hlt5)
          have hm5 : Mod (fun j => nv'.ownBlock = some j) w3 w5 := ((Mod.refl _ w3).alloc _).grown hgrow (fun j hj _ => hj)
          have hrl := lt_of_block hR3.blk
          have hvl : ∀ g, v3.ownBlock = some g → v'.ownBlock = some g := hg3
          have hsub : rdr (k + 1) L ≠ [] → rdr k L ≠ [] := HSub.out
          have hnew : ∀ g, (Value.slice (some ⟨g1, 0, none⟩) (k + 1) cap1).ownBlock = some g → w.heap.size < g ∧ g ≠ r ∧ (rdr (k + 1) L ≠ [] → v3.ownBlock ≠ some g) := by
            intro g hgg
            simp only [Value.ownBlock, Option.some.injEq] at hgg
            subst hgg
            rcases hg with h | h
            · obtain ⟨x1, x2, x3⟩ := hgn _ h
              exact ⟨x1, x2, fun hne e => x3 (hsub hne) (hvl _ e)⟩
            · refine ⟨by have := hM3.size; omega, by omega, fun hne e => ?_⟩
              have := hR3.sl.lt hne _ e
              omega
          go_roundw
          case rel => exact ⟨k + 1, v3, _, rfl, by go_num, by omega, HE, hR3.mod2 hm5 (fun h => (hgn r h).2.1 rfl) (fun hne g hg h => (hgn g h).2.2 (hsub hne) (hvl g hg)), fun g hg => hgv g (hvl g hg), hM3.trans hm5 (fun _ _ h => h) (fun i hi h => by have := hgn i h; omega), hB3.mod hm5 (fun h => by have := hgn _ h; omega), HVi.out ▸ hown1, hnew⟩
          case measure => simp [intOf]; omega
        · have hE3 := hSt h0
          have HE : Hid (opE b = er) := by show opE b = er; rw [hDe.out]; have : rfE L = er := by unfold rfE; rw [if_pos (by rw [hE3]; exact h0), hE3]
                                           rw [this, if_pos h0]
          obtain ⟨hN0, hBn⟩ := op_bad HE.out h0
          have HN : Hid (∀ i, opN b i = 0) := hN0
          have HBn : Hid (opB b = []) := hBn
          have hz : ¬ er = 0 := h0
          clear hSt hOn hE3 h0 hN0 hBn hDe hDN
          go_wp2_with (refine wpList_store_row infoFr rfl rfl _ _ rfl w.heap.size #[.int .i64 0, .int .i64 0, .int .i64 0, .slice none 0 0] rfl rfl hB3 rfl rfl rfl ?_; intro wF hBF hMF)
          refine bodyPost_ret (resT2 infoFr Try.underlying24 rfl rfl rfl rfl hBF rfl) rfl ⟨.slice none 0 0, by rw [HE.out, HN.out, HN.out, HN.out]; rfl, hM3.trans hMF (fun _ _ h => h) (fun i hi h => by omega), by rw [HBn.out]; exact Own.nil _, by intro g hg; simp [Value.ownBlock] at hg⟩
      · obtain rfl : k = 3 := by omega
        have hlen : (rdr 3 L).length ≤ 140737488355328 := by have := rdr_len 3 L hE.out; omega
        have hE3 : rfE L = octE 512 (rdr 3 L) := by unfold rfE; rw [if_neg (by simp [hE.out])]
        have hl3 := rdv_len 3 L hE.out
        by_cases h0 : octE 512 (rdr 3 L) = 0
        · have G := rOctets_ok r v' (rdr 3 L) 512 wr hR hlen h0
          have hEz := hE3.trans h0
          have HD : Hid (opE b = if 0 < (rfR L).length ∨ okF (rfN L 0) (rfN L 1) (rfN L 2) (rfB L).length = false then 4 else 0) := by show _ = _; rw [hDe.out, if_neg (by simp [hEz])]
          clear hE3 h0 hR hlen hEz hDe
          go_wp2_with (fail)
          refine G.mono ?_
          rintro e w3 ⟨bv, v3, rfl, ho3, hR3, hm3, hg3, hg4⟩
          have hB3 := hB.mod hm3 (by omega)
          have hM3 := hM.trans hm3 (V := fun _ => False) (fun _ _ h => h) (fun i hi h => by omega)
          have hrow3 := row_mod hrow hm3 (fun g hg => (hgn g hg).2.1)
          have hsz := hM.size
          have hltB := hB.lt
          obtain ⟨g, cap, rfl, _, hgl⟩ := World.ownsRow.form hrow3 (by omega)
          have n0 : w3.cell? ⟨g, 0, none⟩ = some (.int .i64 (rfN L 0)) := by rw [World.ownsRow.cellAt hrow3 0 (by omega)]; unfold Vi rfN; match rdv 3 L, hl3 with | [a, b, c], _ => rfl
          have n1 : w3.cell? ⟨g, 1, none⟩ = some (.int .i64 (rfN L 1)) := by rw [World.ownsRow.cellAt hrow3 1 (by omega)]; unfold Vi rfN; match rdv 3 L, hl3 with | [a, b, c], _ => rfl
          have n2 : w3.cell? ⟨g, 2, none⟩ = some (.int .i64 (rfN L 2)) := by rw [World.ownsRow.cellAt hrow3 2 (by omega)]; unfold Vi rfN; match rdv 3 L, hl3 with | [a, b, c], _ => rfl
          have e1 : (rdr 3 L).drop ((num 0 0 (rdr 3 L)).2.1.toNat + (num 0 0 (rdr 3 L)).1.toNat) = rfR L := rfl
          have e2 : ((rdr 3 L).drop (num 0 0 (rdr 3 L)).2.1.toNat).take (num 0 0 (rdr 3 L)).1.toNat = rfB L := rfl
          rw [e1] at hR3
          rw [e2] at ho3
          clear e1 e2 G hB hM hrow hm3 hrow3 hl3
          obtain ⟨ao3, cap3, hsh⟩ := ho3.shape
          have hgo : ∀ g, bv.ownBlock = some g → w.heap.size < g := fun g hg => by have := hg3 g hg; omega
          generalize rfN L 0 = s at *
          generalize rfN L 1 = l at *
          generalize rfN L 2 = n at *
          generalize rfB L = RB at *
          generalize rfR L = RR at *
          subst hsh
          go_wp2_with (fail)
          go_region
          have hm4 := ((Mod.refl (fun _ => False) w3).alloc (.cells #[.int .i64 s, .int .i64 l, .int .i64 n, .slice ao3 RB.length cap3] 24)).drew
          have hB4 := hB3.mod hm4 (fun h => h)
          have hR4 := hR3.mod2 hm4 (fun h => h) (fun _ _ _ h => h)
          have ho4 := ho3.mod hm4 (fun _ _ h => h)
          have hM4 := hM3.and hm4
          have hF4 := (Bk.new w3 #[.int .i64 s, .int .i64 l, .int .i64 n, .slice ao3 RB.length cap3] 24).drew
          have hlt3 := hB3.lt
          have HL := rLeft r v3 RR _ hR4
          have HM := dMay_any s l n ao3 RB.length cap3
          obtain ⟨fb, hfb⟩ : ∃ fb, fb = w3.heap.size := ⟨_, rfl⟩
          rw [← hfb] at hF4 hlt3 ⊢
          have HFB : Hid (fb = w3.heap.size) := hfb
          clear hB3 hM3 hR3 ho3 hm4 hfb n0 n1 n2
          generalize (w3.alloc (.cells #[.int .i64 s, .int .i64 l, .int .i64 n, .slice ao3 RB.length cap3] 24)).drew = W4 at *
          by_cases hlen : 0 < RR.length
          · have HE : Hid (opE b = 4) := by show _ = _; rw [HD.out, if_pos (.inl hlen)]
            have hi : 0 < (RR.length : Int) := by omega
            obtain ⟨hN0, hBn⟩ := op_bad HE.out (by decide)
            have HN : Hid (∀ i, opN b i = 0) := hN0
            have HBn : Hid (opB b = []) := hBn
            clear hN0 hBn HD hDN
            go_wp2_with (first | (go_at_call 51; refine HL.mono ?_; rintro e w4 ⟨rfl, rfl⟩) | (refine wpList_store_row infoFr rfl rfl _ _ rfl w.heap.size _ rfl rfl hB4 rfl rfl rfl ?_; intro wF hBF hMF))
            refine bodyPost_ret (resT2 infoFr Try.underlying24 rfl rfl rfl rfl hBF rfl) rfl ⟨.slice none 0 0, by rw [HE.out, HN.out, HN.out, HN.out]; rfl, hM4.trans hMF (fun _ _ h => h) (fun i hi h => by omega), by rw [HBn.out]; exact Own.nil _, by intro g hg; simp [Value.ownBlock] at hg⟩
          · have hz : RR.length = 0 := by omega
            have hi : ¬ 0 < (RR.length : Int) := by omega
            cases hf : okF s l n RB.length with
            | false =>
              have HE : Hid (opE b = 4) := by show _ = _; rw [HD.out, if_pos (.inr hf)]
              obtain ⟨hN0, hBn⟩ := op_bad HE.out (by decide)
              have HN : Hid (∀ i, opN b i = 0) := hN0
              have HBn : Hid (opB b = []) := hBn
              rw [hf] at HM
              clear hN0 hBn HD hDN hf hz
              go_wp2_with (fail)
              refine HL.mono ?_
              rintro e w4 ⟨rfl, hw4⟩
              rw [hw4]
              clear hw4
              have d0 := hF4.cellv (j := 0) rfl
              have d1 := hF4.cellv (j := 1) rfl
              have d2 := hF4.cellv (j := 2) rfl
              have d3 := hF4.cellv (j := 3) rfl
              go_wp2_with (fail)
              refine (HM _).mono ?_
              rintro e w5 ⟨rfl, hm5⟩
              have hB5 := hB4.mod hm5 (fun h => h)
              have hM5 := hM4.and hm5
              go_wp2_with (refine wpList_store_row infoFr rfl rfl _ _ rfl w.heap.size _ rfl rfl hB5 rfl rfl rfl ?_; intro wF hBF hMF)
              refine bodyPost_ret (resT2 infoFr Try.underlying24 rfl rfl rfl rfl hBF rfl) rfl ⟨.slice none 0 0, by rw [HE.out, HN.out, HN.out, HN.out]; rfl, hM5.trans hMF (fun _ _ h => h) (fun i hi h => by omega), by rw [HBn.out]; exact Own.nil _, by intro g hg; simp [Value.ownBlock] at hg⟩
            | true =>
              have HE : Hid (opE b = 0) := by show _ = _; rw [HD.out, if_neg (by rw [hf]; rintro (h | h); omega; cases h)]
              obtain ⟨n0, n1, n2, nb⟩ := hDN.out HE.out
              have HN : Hid (opN b 0 = s ∧ opN b 1 = l ∧ opN b 2 = n ∧ opB b = RB) := ⟨n0, n1, n2, nb⟩
              rw [hf] at HM
              clear n0 n1 n2 nb HD hDN hf hz
              go_wp2_with (fail)
              refine HL.mono ?_
              rintro e w4 ⟨rfl, hw4⟩
              rw [hw4]
              clear hw4
              have d0 := hF4.cellv (j := 0) rfl
              have d1 := hF4.cellv (j := 1) rfl
              have d2 := hF4.cellv (j := 2) rfl
              have d3 := hF4.cellv (j := 3) rfl
              go_wp2_with (fail)
              refine (HM _).mono ?_
              rintro e w5 ⟨rfl, hm5⟩
              have hB5 := hB4.mod hm5 (fun h => h)
              have hF5 := hF4.mod hm5 (fun h => h)
              have ho5 := ho4.mod hm5 (fun _ _ h => h)
              have hM5 := hM4.and hm5
              clear d0 d1 d2 d3
              go_wp2_with (first | refine wpList_load_row infoFr Try.underlying24 rfl rfl _ rfl fb rfl hF5 rfl ?_ | (refine wpList_store_row infoFr rfl rfl _ _ rfl w.heap.size _ rfl rfl hB5 rfl rfl rfl ?_; intro wF hBF hMF))
              refine bodyPost_ret (resT2 infoFr Try.underlying24 rfl rfl rfl rfl hBF rfl) rfl ⟨.slice ao3 RB.length cap3, by rw [HE.out, HN.out.1, HN.out.2.1, HN.out.2.2.1]; rfl, hM5.trans hMF (fun _ _ h => h) (fun i hi h => by omega), by rw [HN.out.2.2.2]; exact ho5.mod hMF (fun g hg e => by have := hgo g hg; omega), fun g hg => by have := hgo g hg; omega⟩
        · have G := rOctets_bad r v' (rdr 3 L) 512 wr hR h0
          have HE : Hid (opE b = octE 512 (rdr 3 L)) := by show _ = _; rw [hDe.out, hE3, if_pos h0]
          generalize octE 512 (rdr 3 L) = er at *
          obtain ⟨hN0, hBn⟩ := op_bad HE.out h0
          have HN : Hid (∀ i, opN b i = 0) := hN0
          have HBn : Hid (opB b = []) := hBn
          have hz : ¬ er = 0 := h0
          clear hE3 h0 hN0 hBn hDe hDN hlen hl3
          go_wp2_with (fail)
          refine G.mono ?_
          rintro e w3 ⟨rfl, rfl⟩
          go_wp2_with (refine wpList_store_row infoFr rfl rfl _ _ rfl w.heap.size #[.int .i64 0, .int .i64 0, .int .i64 0, .slice none 0 0] rfl rfl hB rfl rfl rfl ?_; intro wF hBF hMF)
          refine bodyPost_ret (resT2 infoFr Try.underlying24 rfl rfl rfl rfl hBF rfl) rfl ⟨.slice none 0 0, by rw [HE.out, HN.out, HN.out, HN.out]; rfl, hM.trans hMF (fun _ _ h => h) (fun i hi h => by omega), by rw [HBn.out]; exact Own.nil _, by intro g hg; simp [Value.ownBlock] at hg⟩
  · have HE : Hid (opE b = Sm.openE b) := by show _ = _; unfold opE; rw [if_pos h1]
    generalize Sm.openE b = er at HE h1
    obtain ⟨hN0, hBn⟩ := op_bad HE.out h1
    have HN : Hid (∀ i, opN b i = 0) := hN0
    have HBn : Hid (opB b = []) := hBn
    have hz : ¬ er = 0 := h1
    clear hN0 hBn h1
    go_wp2_with (refine wpList_store_row infoFr rfl rfl _ _ rfl w.heap.size _ rfl rfl hB1 rfl rfl rfl ?_; intro wF hBF hMF)
    refine bodyPost_ret (resT2 infoFr Try.underlying24 rfl rfl rfl rfl hBF rfl) rfl ⟨.slice none 0 0, by rw [HE.out, HN.out, HN.out, HN.out]; rfl, hM1.trans hMF (fun _ _ h => h) (fun i hi h => by omega), by rw [HBn.out]; exact Own.nil _, by intro g hg; simp [Value.ownBlock] at hg⟩
end Go.Proofs.Ytlkkbfcedjedoaa
