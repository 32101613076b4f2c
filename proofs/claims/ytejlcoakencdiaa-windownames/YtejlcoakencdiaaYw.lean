/- Contract of the document's Above: its walk. Conditions: as many data as a slice can have; of each number one. -/
import Derived.Test.YtejlcoakencdiaaYv
namespace Go.Proofs.Ytejlcoakencdiaa
open Go.RowKit Go.Maps
set_option maxRecDepth 100000 in
set_option maxHeartbeats 8000000 in
theorem dAbove {w : World} {p : Nat} {X : Nat → Prop} {L : List Dt} {top : Int} (hd : Dwn w p X L top) (hl : L.length ≤ 100000) (hdis : Dis L) (s : Int) : Calls Try.prog 26 #[.pointer (some ⟨p, 0, none⟩), .int .i64 s] w fun e w' => ∃ v os zs, e = .returned v ∧ Rd18 w' w.heap.size v os ∧ Ks (jl L) s zs ∧ os.map (·.1) = zs.map (fun k => (jl L k).getD d0) ∧ Mod (fun _ => False) w w' := by
  obtain ⟨v, ds, h1, h2, h3, h4, h5⟩ := hd.ex
  have hdl : ds.length ≤ 100000 := by have := congrArg List.length h3; simp at this; omega
  have HB : Hid (Bk w p 64 #[v, .int .i64 top]) := h1
  have HR : Hid (RG w 35 18 v ds.length (fd ds)) := h2
  have HDS : Hid (ds.map (·.1) = L) := h3
  have HE : Hid (∀ x ∈ ds, Own w x.2 x.1.m.body ∧ (∀ g, x.2.ownBlock = some g → X g) ∧ (∀ c ∈ x.1.m.body, 0 ≤ c ∧ c ≤ 255) ∧ x.1.m.body.length ≤ 140737488355328) := h5
  have HDIS : Hid (Dis L) := hdis
  have HGET : Hid (∀ (t : Nat) (x : Dt × Value), ds[t]? = some x → L[t]? = some x.1) := fun t x hx => by rw [← h3, List.getElem?_map, hx]; rfl
  have HGET2 : Hid (∀ (t : Nat) (d : Dt), L[t]? = some d → ∃ u, ds[t]? = some (d, u)) := fun t d hx => by
    rw [← h3, List.getElem?_map] at hx
    obtain ⟨⟨d', u⟩, hy, rfl⟩ := Option.map_eq_some_iff.1 hx
    exact ⟨u, hy⟩
  obtain ⟨av, cv, rfl⟩ := h2.shape
  clear h1 h2 h3 h4 h5 hd hdis
  have HCELL : Hid (∀ wx, Mod (fun _ => False) w wx → wx.cell? ⟨p, 0, none⟩ = some (.slice av ds.length cv)) := fun wx hm => (HB.out.mod hm (fun h => h)).cellv (j := 0) rfl
  have HROW : Hid (∃ gb of, (0 < ds.length → av = some ⟨gb, of, none⟩) ∧ ∀ wx, Mod (fun _ => False) w wx → ∀ (t : Nat) (x : Dt × Value), ds[t]? = some x → wx.rangeAt gb (of + t * 18) (dcl x.1 x.2)) := by
    by_cases h0 : 0 < ds.length
    · obtain ⟨gb, of, cp, e, hrg⟩ := HR.out.range h0
      cases e
      refine ⟨gb, of, fun _ => rfl, fun wx hm t x hx j c hj => ?_⟩
      have := hm.cell (hrg (t * 18 + j) c (fd_get ds t x hx j c hj)) (fun h => h)
      rwa [← Nat.add_assoc] at this
    · exact ⟨0, 0, fun h => absurd h h0, fun wx hm t x hx => by have := (List.getElem?_eq_some_iff.1 hx).1; omega⟩
  obtain ⟨gb, of, HAV, HRG0⟩ := HROW.out
  have HRG : Hid (∀ wx, Mod (fun _ => False) w wx → ∀ (t : Nat) (x : Dt × Value), ds[t]? = some x → wx.rangeAt gb (of + t * 18) (dcl x.1 x.2)) := HRG0
  have HAVH : Hid (0 < ds.length → av = some ⟨gb, of, none⟩) := HAV
  clear HRG0 HAV HROW HR HB
  go_enter Try.func26, Try.ntmps26
  go_wp2_with (fail)
  go_loopw [5, 6] (fun o la wr => ∃ (last : Int) (os : List (Dt × Value)) (zs : List Int), la = .int .i64 last ∧ Rd18 wr w.heap.size o os ∧ Hid (os.map (·.1) = zs.map (fun k => (jl L k).getD d0)) ∧ Hid (Up (jl L) s last zs) ∧ Hid (zs.length + ab L last ≤ ds.length) ∧ Mod (fun _ => False) w wr) (fun _ la _ => ab L (intOf la))
  case atStart => exact ⟨s, [], [], rfl, Rd18.nil _ _, by show _ = _; rfl, ⟨List.Pairwise.nil, fun x => by simp; intros; omega, Int.le_refl _⟩, by show _ ≤ _; have := ab_le L s; have := congrArg List.length HDS.out; simp at this ⊢; omega, Mod.refl _ _⟩
  case round =>
    obtain ⟨last, os, zs, rfl, hRd, hmap, hup, hcnt, hMr⟩ := hrel
    obtain ⟨ao, co, rfl⟩ := hRd.row.shape
    obtain ⟨wk, ewk⟩ : ∃ wk, wk = wr := ⟨_, rfl⟩
    rw [← ewk] at hRd hMr ⊢
    have HWK : Hid (wk = wr) := ewk
    clear ewk
    have HRd : Hid (Rd18 wk w.heap.size (.slice ao os.length co) os) := hRd
    have HMk : Hid (Mod (fun _ => False) w wk) := hMr
    clear hRd hMr
    go_wp2_with (fail)
    go_loopw [7, 8] (fun at_ i wr => ∃ (j : Nat) (tt : Int) (q : Nat), i = .int .i64 (j : Int) ∧ at_ = .int .i64 tt ∧ j ≤ ds.length ∧ Hid (Best ds last j tt) ∧ wr = wk.drewN q) (fun _ i _ => ds.length - (intOf i).toNat)
    case atStart => exact ⟨0, -1, 0, rfl, rfl, Nat.zero_le _, .inl ⟨rfl, fun t z ht => by omega⟩, rfl⟩
    case round =>
      obtain ⟨j, tt, q, rfl, rfl, hj, hbest, rfl⟩ := hrel
      have c0 : wk.cell? ⟨p, 0, none⟩ = some (.slice av ds.length cv) := HCELL.out wk HMk.out
      by_cases hlt : j < ds.length
      · have hlt' : (j : Int) < (ds.length : Int) := by omega
        obtain rfl := HAVH.out (by omega)
        obtain ⟨x, hx⟩ : ∃ x, ds[j]? = some x := ⟨ds[j], List.getElem?_eq_getElem hlt⟩
        have my : wk.cell? ⟨gb, of + j * 18 + 2, none⟩ = some (.int .i64 x.1.n) := HRG.out wk HMk.out j x hx 2 _ rfl
        have hb1 : (0 : Int) ≤ (j : Int) := by omega
        have hjb : (j : Int) + 1 ≤ 1000000 := by omega
        have HLT : Hid (j < ds.length) := hlt
        have HX : Hid (ds[j]? = some x) := hx
        clear hx
        rcases hbest.out with ⟨ett, hnone⟩ | ⟨t, y, ht, ett, hy, hly, hmin⟩
        · subst ett
          have HN1 : Hid (∀ t z, t < j → ds[t]? = some z → ¬ last < z.1.n) := hnone
          clear hnone
          by_cases hc : last < x.1.n
          · have HBe : Hid (Best ds last (j + 1) (j : Int)) := hbest.out.take HX.out hc (fun t y e _ => by omega)
            generalize x.1.n = yn at my hc
            go_wp2_with (fail)
            go_quiet (fail)
            go_wp2_with (fail)
            go_roundw
            case rel => exact ⟨j + 1, _, q + nq, by go_num, rfl, HLT.out, HBe, by simp⟩
            case measure => have := HLT.out; simp [intOf]; omega
          · have HBe : Hid (Best ds last (j + 1) (-1)) := hbest.out.keep HX.out (fun h => absurd h hc)
            generalize x.1.n = yn at my hc
            have hcd : decide (last < yn) = false := decide_eq_false hc
            have hle : yn ≤ last := by omega
            clear hc
            go_wp2_with (fail)
            go_quiet (fail)
            go_wp2_with (fail)
            go_roundw
            case rel => exact ⟨j + 1, _, q + nq, by go_num, rfl, HLT.out, HBe, by simp⟩
            case measure => have := HLT.out; simp [intOf]; omega
        · subst ett
          have mz : wk.cell? ⟨gb, of + t * 18 + 2, none⟩ = some (.int .i64 y.1.n) := HRG.out wk HMk.out t y hy 2 _ rfl
          have ht0 : (0 : Int) ≤ (t : Int) := by omega
          have htl : (t : Int) < (ds.length : Int) := by omega
          have htn : ¬ (t : Int) < 0 := by omega
          have HY : Hid (ds[t]? = some y ∧ last < y.1.n) := ⟨hy, hly⟩
          clear hmin hy hly ht
          by_cases hc : last < x.1.n
          · by_cases hc2 : x.1.n < y.1.n
            · have HBe : Hid (Best ds last (j + 1) (j : Int)) := hbest.out.take HX.out hc (fun t2 y2 e hy2 => by
                obtain rfl : t = t2 := by omega
                rw [HY.out.1] at hy2
                cases hy2
                exact hc2)
              generalize x.1.n = yn at my hc hc2
              generalize y.1.n = zn at mz hc2
              go_wp2_with (fail)
              go_quiet (fail)
              go_wp2_with (fail)
              go_roundw
              case rel => exact ⟨j + 1, _, q + nq, by go_num, rfl, HLT.out, HBe, by simp⟩
              case measure => have := HLT.out; simp [intOf]; omega
            · have HBe : Hid (Best ds last (j + 1) (t : Int)) := hbest.out.keep HX.out (fun _ => ⟨t, y, rfl, HY.out.1, by omega⟩)
              generalize x.1.n = yn at my hc hc2
              generalize y.1.n = zn at mz hc2
              have hcd : decide (yn < zn) = false := decide_eq_false hc2
              obtain ⟨b1, hb1'⟩ : ∃ b1, decide (last < yn) = b1 := ⟨_, rfl⟩
              obtain ⟨b2, hb2'⟩ : ∃ b2, decide (yn < zn) = b2 := ⟨_, rfl⟩
              obtain rfl : b1 = true := by rw [← hb1']; exact decide_eq_true hc
              obtain rfl : b2 = false := by rw [← hb2']; exact hcd
              clear hc2 hc hcd
              have htd : decide ((t : Int) < 0) = false := decide_eq_false htn
              clear htn
              go_wp2_with (fail)
              go_quiet (fail)
              clear my mz c0 hj hb1' hb2'
              go_wp2_with (fail)
              go_roundw
              case rel => exact ⟨j + 1, _, q + nq, by go_num, rfl, HLT.out, HBe, by simp⟩
              case measure => have := HLT.out; simp [intOf]; omega
          · have HBe : Hid (Best ds last (j + 1) (t : Int)) := hbest.out.keep HX.out (fun h => absurd h hc)
            generalize x.1.n = yn at my hc
            generalize y.1.n = zn at mz
            have hcd : decide (last < yn) = false := decide_eq_false hc
            clear hc
            go_wp2_with (fail)
            go_quiet (fail)
            go_wp2_with (fail)
            go_roundw
            case rel => exact ⟨j + 1, _, q + nq, by go_num, rfl, HLT.out, HBe, by simp⟩
            case measure => have := HLT.out; simp [intOf]; omega
      · have HJE : Hid (j = ds.length) := by show _ = _; omega
        rw [HJE.out] at hbest
        have hMq : Mod (fun _ => False) w (wk.drewN q) := HMk.out.drewN q
        have hRq := HRd.out.keep ((Mod.refl (fun _ => False) wk).drewN q)
        rcases hbest.out with ⟨ett, hnone⟩ | ⟨t, y, ht, ett, hy, hly, hmin⟩
        · subst ett
          have HK : Hid (Ks (jl L) s zs) := hup.out.done fun t' z hz => by
            obtain ⟨u, hu⟩ := HGET2.out t' z hz
            exact hnone t' _ (List.getElem?_eq_some_iff.1 hu).1 hu
          clear hnone hbest
          go_wp2_with (fail)
          go_ret
          exact ⟨_, os, zs, rfl, hRq, HK.out, hmap.out, hMq⟩
        · subst ett
          obtain rfl := HAVH.out (by omega)
          obtain ⟨d, u⟩ := y
          have hyL := HGET.out t _ hy
          have hdj := HDIS.out.jl hyL
          have HUP2 : Hid (Up (jl L) s d.n (zs ++ [d.n])) := hup.out.step hyL hdj hly fun t' z hz hlz => by
            obtain ⟨u', hu'⟩ := HGET2.out t' z hz
            exact hmin t' _ (List.getElem?_eq_some_iff.1 hu').1 hu' hlz
          have HAB : Hid (ab L d.n < ab L last) := ab_lt (List.mem_of_getElem? hyL) hly
          have HDJ : Hid (jl L d.n = some d) := hdj
          obtain ⟨ho, -, hr, hb⟩ := HE.out _ (List.mem_of_getElem? hy)
          have HO : Hid (Own (wk.drewN q) u d.m.body) := ho.mod hMq (fun _ _ h => h)
          have hra : (wk.drewN q).rangeAt gb (of + t * 18) (dcl d u) := HRG.out _ hMq t (d, u) hy
          have mz : wk.cell? ⟨gb, of + t * 18 + 2, none⟩ = some (.int .i64 d.n) := HRG.out wk HMk.out t (d, u) hy 2 _ rfl
          obtain ⟨au, cu, rfl⟩ := HO.out.shape
          have HRR : Hid ((∀ c ∈ d.m.body, 0 ≤ c ∧ c ≤ 255) ∧ d.m.body.length ≤ 140737488355328) := ⟨hr, hb⟩
          have HC := copy_dt d _ (wk.drewN q) (HO.out.sl hr) hb
          have ht0 : (0 : Int) ≤ (t : Int) := by omega
          have htl : (t : Int) < (ds.length : Int) := by omega
          have htn : ¬ (t : Int) < 0 := by omega
          have HLEN : Hid ((os.length + 1) * 160 ≤ 140737488355328 ∧ os.length + 1 ≤ 9223372036854775807) := by
            have := congrArg List.length hmap.out
            simp at this
            have := hcnt.out
            constructor <;> omega
          clear hmin hy hyL hdj hly ho hr hb hbest ht
          go_wp2_with (refine wpList_load_at info18 Try.underlying35 rfl rfl _ rfl gb (of + t * 18) rfl _ hra rfl ?_; unfold dcl; simp only [Act.put, List.setIfInBounds_toArray, List.set_cons_succ, List.set_cons_zero])
          refine HC.mono ?_
          rintro e w2 ⟨v2, rfl, ho2, hm2, hg2⟩
          obtain ⟨a2, c2, rfl⟩ := ho2.shape
          have hA := (Mod.refl (fun _ => False) w2).alloc (.cells (dcl d (.slice a2 d.m.body.length c2)).toArray 35)
          have hR2 := (hRq.keep hm2).keep hA
          have hSG := SG.lit w2 35 (dcl d (.slice a2 d.m.body.length c2)) (dcl_one d a2 _ c2)
          have hoA := ho2.mod hA (fun _ _ h => h)
          have hMA := (hMq.and hm2).and hA
          have HSZ : Hid (w.heap.size ≤ w2.heap.size ∧ w.heap.size ≤ (wk.drewN q).heap.size) := ⟨by have := hMq.size; have := hm2.size; omega, hMq.size⟩
          have HG2 : Hid (∀ g, (Value.slice a2 d.m.body.length c2).ownBlock = some g → (wk.drewN q).heap.size ≤ g) := hg2
          clear HC c0 mz hra ho2 hg2 hm2 hRq hMq hA
          unfold dv
          unfold dcl at hSG
          go_wp2_with (at_builtin; refine wpList_appG elD rfl _ _ rfl _ _ os.length 1 (fd os) _ rfl rfl hR2.row hSG HLEN.out.1 HLEN.out.2 (os.length + 1) rfl ?_; intro ax cx w4 hRG4 hm4 hf4)
          have HR4 := hR2.more hm4 hRG4 hf4 (by have := HSZ.out.1; simp; omega) hoA (fun g hg => Nat.le_trans HSZ.out.2 (HG2.out g hg)) HRR.out.1
          have HM4 : Hid (Mod (fun _ => False) w w4) := hMA.trans hm4 (fun _ _ h => h) (fun g hg e => by have := hR2.new g e; omega)
          have HMAP : Hid ((os ++ [(d, Value.slice a2 d.m.body.length c2)]).map (·.1) = (zs ++ [d.n]).map (fun k => (jl L k).getD d0)) := by
            show _ = _
            rw [List.map_append, hmap.out, List.map_append]
            simp [HDJ.out]
          have HR5 : Hid (Rd18 w4 _ _ _) := HR4
          have HCN : Hid ((zs ++ [d.n]).length + ab L d.n ≤ ds.length) := by show _ ≤ _; have := hcnt.out; have := HAB.out; simp; omega
          clear HR4 hm4 hf4 hRG4 hMA hR2 hoA hSG
          go_roundw
          case rel => exact ⟨d.n, _, _, rfl, HR5.out, HMAP, HUP2, HCN, HM4.out⟩
          case measure => exact HAB.out
end Go.Proofs.Ytejlcoakencdiaa
