/- Regain's New: what is to be sent again of a window. Conditions: a window of at most a million data. -/
import Derived.Test.YthiijonmnebjgaaMa
import Derived.Test.YthiijonmnebjgaaCl
import Derived.Test.YthiijonmnebjgaaFrx
namespace Go.Proofs.Ythiijonmnebjgaa
open Go.RowKit
/-- What is sent again of data, if anything. -/
def oldm (d : Dt) : Ms := od5 d.t d.q d.r d.n d.s d.m
def olD (d : Dt) : Int := olE d.t d.q d.r d.n d.s d.m
def snt (l : List Dt) : List Ms := (l.filter (fun d => olD d == 0)).map oldm
theorem snt_yes {l : List Dt} {d : Dt} (h : olD d = 0) : snt (l ++ [d]) = snt l ++ [oldm d] := by simp [snt, List.filter_append, h]
theorem snt_no {l : List Dt} {d : Dt} (h : ¬ olD d = 0) : snt (l ++ [d]) = snt l := by simp [snt, List.filter_append, h]
theorem oldm_len {d : Dt} (h : olD d = 0) : (oldm d).body.length ≤ 140737488355328 := by
  have : olE d.t d.q d.r d.n d.s d.m = 0 := h
  unfold olE at this
  split at this
  · rename_i hc
    have := (chk_parts hc.2).1
    show (od5 d.t d.q d.r d.n d.s d.m).body.length ≤ _
    omega
  · omega
theorem oldm_rng {d : Dt} (hr : ∀ c ∈ d.m.body, 0 ≤ c ∧ c ≤ 255) : ∀ c ∈ (oldm d).body, 0 ≤ c ∧ c ≤ 255 := pk_rng d.m hr
/-- Old of data, as a call of regain's. -/
theorem Old_d (d : Dt) (v : Value) (w : World) (hs : Sl w v d.m.body) :
    Calls Try.prog 24 #[dv d v] w fun e w' => ∃ m v', e = .returned (.tuple #[mvl m v', .int .i64 (olD d)]) ∧ Mod (fun _ => False) w w' ∧ (olD d = 0 → m = oldm d ∧ Own w' v' (oldm d).body ∧ (∀ g, v'.ownBlock = some g → w.heap.size ≤ g)) ∧ (olD d ≠ 0 → m = m0 ∧ v' = .slice none 0 0) := by
  obtain ⟨ao, cap, rfl⟩ := hs.shape
  obtain ⟨dq, dr, dn, ds, dt, k, o, lf, i, p, ps, g, s, st, rs, rr, sq, l⟩ := d
  refine (Old_any dq dr dn ds dt k o lf i p ps g s st rs rr sq ao cap l w hs).mono ?_
  rintro e w' ⟨k', o', lf', i', p', ps', g', s', st', rs', rr', sq', bv', rfl, hm, h0, h1⟩
  by_cases h : olE dt dq dr dn ds ⟨k, o, lf, i, p, ps, g, s, st, rs, rr, sq, l⟩ = 0
  · obtain ⟨⟨e1, e2, e3, e4, e5, e6, e7, e8, e9, e10, e11, e12⟩, ho, hg⟩ := h0 h
    exact ⟨oldm ⟨dq, dr, dn, ds, dt, ⟨k, o, lf, i, p, ps, g, s, st, rs, rr, sq, l⟩⟩, bv', by subst_vars; rfl, hm, fun _ => ⟨rfl, ho, hg⟩, fun hh => absurd h hh⟩
  · obtain ⟨e1, e2, e3, e4, e5, e6, e7, e8, e9, e10, e11, e12, e13⟩ := h1 h
    exact ⟨m0, bv', by subst_vars; rfl, hm, fun hh => absurd hh h, fun _ => ⟨rfl, e13⟩⟩
/-- Behind the append and its store. -/
structure P9 (w wx : World) (q B : Nat) (L : List Ms) : Prop where
  rg : Rg wx q (fun i => i = q ∨ B ≤ i ∧ i < wx.heap.size) L
  md : Mod (fun i => i = q ∨ B ≤ i) w wx
/-- One more in the row, and the slice stored. -/
theorem Rg.put {w w3 w4 : World} {q B : Nat} {v v' u : Value} {ds : List (Ms × Value)} {m : Ms} (h1 : Bk w q 66 #[.bool true, v]) (h2 : RG w 39 13 v ds.length (fm ds)) (h4 : ∀ g, v.ownBlock = some g → B ≤ g) (h5 : ∀ x ∈ ds, Own w x.2 x.1.body ∧ (∀ g, x.2.ownBlock = some g → B ≤ g) ∧ (∀ c ∈ x.1.body, 0 ≤ c ∧ c ≤ 255) ∧ x.1.body.length ≤ 140737488355328) (hq : q < w.heap.size) (hB : B ≤ w.heap.size)
    (hm3 : Mod (fun _ => False) w w3) (ho : Own w u m.body) (hu : ∀ g, u.ownBlock = some g → B ≤ g) (hr : ∀ c ∈ m.body, 0 ≤ c ∧ c ≤ 255) (hb : m.body.length ≤ 140737488355328)
    (hm4 : Mod (fun k => v.ownBlock = some k) w3 w4) (hf : Fr w3 v v') (hR : RG w4 39 13 v' (ds.length + 1) (fm ds ++ mcl m u)) :
    P9 w (w4.setCell ⟨q, 1, none⟩ v') q B (ds.map (·.1) ++ [m]) := by
  have hpv := h1.ne_rm (by decide) h2
  have b4 : Bk w4 q 66 #[.bool true, v] := (h1.mod hm3 (fun h => h)).mod hm4 hpv
  have b5 := b4.set 1 v'
  simp only [List.setIfInBounds_toArray, List.set_cons_zero, List.set_cons_succ] at b5
  have hm5 := (Mod.refl (fun i => i = q) w4).setCell ⟨q, 1, none⟩ v' (.inl rfl)
  have hsz := hm3.size
  have hsz4 := hm4.size
  have hsz5 := hm5.size
  have neu : ∀ x l, Own w3 x l → ∀ g, x.ownBlock = some g → ¬ v.ownBlock = some g := fun x l hx g hg e => by
    obtain ⟨c1, k1⟩ := (h2.mod hm3 (fun _ _ h => h)).kind e
    obtain ⟨c2, k2⟩ := hx.kind hg
    rw [k1] at k2
    simp at k2
  have hR5 := hR.mod hm5 (fun g hg e => b4.ne_rm (by decide) hR (e ▸ hg))
  have own5 : ∀ x l, Own w x l → Own (w4.setCell ⟨q, 1, none⟩ v') x l := fun x l hx => by
    have a3 := hx.mod hm3 (fun _ _ h => h)
    have a4 := a3.mod hm4 (neu _ _ a3)
    exact a4.mod hm5 (fun g hg e => b4.ne_ow (by decide) a4 (e ▸ hg))
  refine ⟨⟨⟨v', ds ++ [(m, u)], b5, ?_, by simp, fun g hg => ?_, fun x hx => ?_⟩, .inl rfl, fun i hi => ?_⟩, ?_⟩
  · rw [List.length_append, fm_app, show fm [(m, u)] = mcl m u by simp [fm]]
    exact hR5
  · have hl := hR.lt g hg
    refine .inr ⟨?_, by omega⟩
    rcases hf g hg with h | h
    · exact h4 g h
    · omega
  · rcases List.mem_append.1 hx with hx | hx
    · obtain ⟨a1, a2, a3⟩ := h5 x hx
      exact ⟨own5 _ _ a1, fun g hg => .inr ⟨a2 g hg, (own5 _ _ a1).lt g hg⟩, a3⟩
    · simp at hx
      subst hx
      exact ⟨own5 _ _ ho, fun g hg => .inr ⟨hu g hg, (own5 _ _ ho).lt g hg⟩, hr, hb⟩
  · rcases hi with hi | hi
    · omega
    · exact hi.2
  · refine (hm3.none.trans hm4 (V := fun i => i = q ∨ B ≤ i) (fun _ _ h => h) (fun i _ e => .inr (h4 i e))).trans hm5 (fun _ _ h => h) (fun i _ e => .inl e)
set_option maxRecDepth 100000 in
set_option maxHeartbeats 8000000 in
theorem New_w {w : World} {p : Nat} {X : Nat → Prop} {J : Int → Option Dt} {a h : Int} {n : Nat} (hw : Wn w p X J a h n) (hn : n ≤ 1000000) (low : Int) : Calls Try.prog 10 #[.pointer (some ⟨p, 0, none⟩), .int .i64 low] w fun e w' => ∃ q zs, e = .returned (.tuple #[.pointer (some ⟨q, 0, none⟩), .int .i64 0]) ∧ Ks J low zs ∧ zs.length ≤ n ∧ Rg w' q (fun i => w.heap.size ≤ i ∧ i < w'.heap.size) (snt (zs.map (fun k => (J k).getD d0))) ∧ Mod (fun _ => False) w w' := by
  have HNW := noWin hw
  have hA := (Mod.refl (fun _ => False) w).alloc (.cells #[.bool true, .slice none 0 0] 66)
  have HAB := Above_w (hw.keep hA) hn low
  have hB := Bk.new w #[.bool true, .slice none 0 0] 66
  have HB : Hid (Bk _ _ _ _) := hB
  have HA : Hid (Mod _ _ _) := hA
  clear hA hB hw
  go_enter Try.func10, Try.ntmps10
  go_wp2_with (first | (go_at_call 23; refine HNW.mono ?_; rintro e w' ⟨rfl, rfl⟩))
  refine HAB.mono ?_
  rintro e w1 ⟨v, ds, zs, rfl, hR, hK, hmap, hl, hm⟩
  obtain ⟨av, cv, rfl⟩ := hR.row.shape
  obtain ⟨q, eq⟩ : ∃ q, q = w'.heap.size := ⟨_, rfl⟩
  have hsz1 := hm.size
  simp at hsz1
  have HB1 : Hid (Bk w1 q 66 #[.bool true, .slice none 0 0]) := eq ▸ HB.out.mod hm (fun h => h)
  have HM1 : Hid (Mod (fun _ => False) w' w1) := HA.out.and hm
  have HQ : Hid (q = w'.heap.size) := eq
  have HQ1 : Hid (q < w1.heap.size) := by show _ < _; omega
  have HRD : Hid (Rd18 w1 (q + 1) (.slice av ds.length cv) ds) := hR.base (by simp; omega)
  rw [← eq]
  have HKS : Hid (Ks J low zs ∧ zs.length ≤ n ∧ ds.map (·.1) = zs.map (fun k => (J k).getD d0)) := ⟨hK, hl, hmap⟩
  have hdl : ds.length ≤ 1000000 := by have := congrArg List.length hmap; simp at this; omega
  have hdlI : (ds.length : Int) ≤ 1000000 := by omega
  clear hR hK hmap hl hm HB HA HAB HNW eq hsz1
  go_wp2_with (fail)
  obtain ⟨B, eB⟩ : ∃ B, B = w1.heap.size := ⟨_, rfl⟩
  have HBQ : Hid (B = w1.heap.size ∧ q < B) := ⟨eB, by have := HQ1.out; omega⟩
  go_loopw [19] (fun i wr => ∃ (j : Nat), i = .int .i64 (j : Int) ∧ j ≤ ds.length ∧ Rg wr q (fun i => i = q ∨ B ≤ i ∧ i < wr.heap.size) (snt ((ds.take j).map (·.1))) ∧ Mod (fun i => i = q) w1 wr) (fun i _ => ds.length - (intOf i).toNat)
  case atStart => exact ⟨0, rfl, Nat.zero_le _, ⟨⟨_, [], HB1.out, RG.nil _ _ _, by simp [snt], by simp [Value.ownBlock], by simp⟩, .inl rfl, fun i hi => by have := HBQ.out; rcases hi with hi | hi <;> omega⟩, Mod.refl _ _⟩
  case round =>
    obtain ⟨j, rfl, hj, hG, hMr⟩ := hrel
    by_cases hlt : j < ds.length
    · have hlt' : (j : Int) < (ds.length : Int) := by omega
      obtain ⟨x, hx⟩ : ∃ x, ds[j]? = some x := ⟨ds[j], List.getElem?_eq_getElem hlt⟩
      have hRDr := HRD.out.mod hMr (fun g hg e => by omega)
      obtain ⟨gb, of, cp, e, hrg⟩ := hRDr.row.range (by omega)
      cases e
      obtain ⟨xo, xn, xr⟩ := hRDr.each x (List.mem_of_getElem? hx)
      obtain ⟨d, u⟩ := x
      simp only at xo xn xr
      obtain ⟨ax, cx, rfl⟩ := xo.shape
      have hra : wr.rangeAt gb (of + j * 18) (dcl d (.slice ax d.m.body.length cx)) := fun t c ht => by
        have := hrg (j * 18 + t) c (fd_get ds j _ hx t c ht)
        rwa [← Nat.add_assoc] at this
      have HX : Hid (ds[j]? = some (d, .slice ax d.m.body.length cx)) := hx
      have hb1 : (0 : Int) ≤ (j : Int) := by omega
      have hjb : (j : Int) + 1 ≤ 1000000 := by omega
      have HLT : Hid (j < ds.length) := hlt
      have HXO : Hid (Own wr (.slice ax d.m.body.length cx) d.m.body ∧ (∀ c ∈ d.m.body, 0 ≤ c ∧ c ≤ 255)) := ⟨xo, xr⟩
      have HG : Hid (Rg wr q (fun i => i = q ∨ B ≤ i ∧ i < wr.heap.size) (snt ((ds.take j).map (·.1)))) := hG
      have HMR : Hid (Mod (fun i => i = q) w1 wr) := hMr
      clear hrg hx xo xn xr hRDr hG hlt hMr
      go_upto_region 7 with (first | (refine wpList_load_at info18 Try.underlying41 rfl rfl _ rfl gb (of + j * 18) rfl _ hra rfl ?_; unfold dcl; simp only [Act.put, List.setIfInBounds_toArray, List.set_cons_succ, List.set_cons_zero]) | (refine wpList_store_row info18 rfl rfl _ _ rfl wr.heap.size #[.int .i64 d.q, .int .i64 d.r, .int .i64 d.n, .int .i64 d.s, .int .i64 d.t, .int .i64 d.m.kind, .int .i64 d.m.origin, .int .i64 d.m.life, .int .i64 d.m.id, .int .i64 d.m.part, .int .i64 d.m.parts, .int .i64 d.m.groups, .bool d.m.safe, .int .i64 d.m.st, .int .i64 d.m.rs, .int .i64 d.m.rr, .int .i64 d.m.sq, (.slice ax d.m.body.length cx)] rfl rfl (Bk.new wr _ _) rfl rfl rfl ?_; intro w2 hB2 hm2))
      have HM2 : Hid (Mod (fun _ => False) wr w2) := ((Mod.refl (fun _ => False) wr).alloc _).trans hm2 (V := fun _ => False) (fun _ _ h => h) (fun i hi e => by omega)
      have HC := Old_d d _ w2 ((HXO.out.1.sl HXO.out.2).mod HM2.out (fun _ _ h => h))
      unfold dv mvl at HC
      clear hra hm2
      go_wp2_with (refine wpList_load_row info18 Try.underlying41 rfl rfl _ rfl wr.heap.size rfl hB2 rfl ?_; simp only [Act.put, List.setIfInBounds_toArray, List.set_cons_succ, List.set_cons_zero])
      refine HC.mono ?_
      rintro e w3 ⟨m, v3, rfl, hm3, hy, hn⟩
      clear HC hB2
      obtain ⟨z, hz⟩ : ∃ z, olD d = z := ⟨_, rfl⟩
      have HZ : Hid (olD d = z) := hz
      rw [hz] at hy hn ⊢
      clear hz
      have HM3 : Hid (Mod (fun _ => False) wr w3) := HM2.out.and hm3
      have HYN : Hid (z = 0 → m = oldm d ∧ Own w3 v3 (oldm d).body ∧ (∀ g, v3.ownBlock = some g → w2.heap.size ≤ g)) := hy
      obtain ⟨ao, nn, cc, rfl⟩ : ∃ ao nn cc, v3 = .slice ao nn cc := by
        by_cases h0 : z = 0
        · obtain ⟨_, ho, _⟩ := hy h0
          obtain ⟨a1, c1, rfl⟩ := ho.shape
          exact ⟨_, _, _, rfl⟩
        · obtain ⟨_, rfl⟩ := hn h0
          exact ⟨_, _, _, rfl⟩
      clear hy hn hm3
      go_upto_region 8 with (refine wpList_store_row infoM rfl rfl _ _ rfl w3.heap.size #[.int .i64 m.kind, .int .i64 m.origin, .int .i64 m.life, .int .i64 m.id, .int .i64 m.part, .int .i64 m.parts, .int .i64 m.groups, .bool m.safe, .int .i64 m.st, .int .i64 m.rs, .int .i64 m.rr, .int .i64 m.sq, (.slice ao nn cc)] rfl rfl (Bk.new w3 _ _) rfl rfl rfl ?_; intro w4 hB4 hm4)
      have HM4 : Hid (Mod (fun _ => False) wr w4) := HM3.out.and (((Mod.refl (fun _ => False) w3).alloc _).trans hm4 (V := fun _ => False) (fun _ _ h => h) (fun i hi e => by omega))
      have HM34 : Hid (Mod (fun _ => False) w3 w4) := ((Mod.refl (fun _ => False) w3).alloc _).trans hm4 (V := fun _ => False) (fun _ _ h => h) (fun i hi e => by omega)
      clear hm4
      by_cases h0 : z = 0
      · obtain ⟨em, hown, hnew⟩ := HYN.out h0
        subst h0
        obtain ⟨mb, emb⟩ : ∃ mb, mb = w3.heap.size := ⟨_, rfl⟩
        rw [← emb] at hB4 ⊢
        clear emb
        have k0 : w4.cell? ⟨mb, 0, none⟩ = some (.int .i64 m.kind) := hB4.cellv (j := 0) rfl
        have k1 : w4.cell? ⟨mb, 1, none⟩ = some (.int .i64 m.origin) := hB4.cellv (j := 1) rfl
        have k2 : w4.cell? ⟨mb, 2, none⟩ = some (.int .i64 m.life) := hB4.cellv (j := 2) rfl
        have k3 : w4.cell? ⟨mb, 3, none⟩ = some (.int .i64 m.id) := hB4.cellv (j := 3) rfl
        have k4 : w4.cell? ⟨mb, 4, none⟩ = some (.int .i64 m.part) := hB4.cellv (j := 4) rfl
        have k5 : w4.cell? ⟨mb, 5, none⟩ = some (.int .i64 m.parts) := hB4.cellv (j := 5) rfl
        have k6 : w4.cell? ⟨mb, 6, none⟩ = some (.int .i64 m.groups) := hB4.cellv (j := 6) rfl
        have k7 : w4.cell? ⟨mb, 7, none⟩ = some (.bool m.safe) := hB4.cellv (j := 7) rfl
        have k8 : w4.cell? ⟨mb, 8, none⟩ = some (.int .i64 m.st) := hB4.cellv (j := 8) rfl
        have k9 : w4.cell? ⟨mb, 9, none⟩ = some (.int .i64 m.rs) := hB4.cellv (j := 9) rfl
        have k10 : w4.cell? ⟨mb, 10, none⟩ = some (.int .i64 m.rr) := hB4.cellv (j := 10) rfl
        have k11 : w4.cell? ⟨mb, 11, none⟩ = some (.int .i64 m.sq) := hB4.cellv (j := 11) rfl
        have k12 : w4.cell? ⟨mb, 12, none⟩ = some (.slice ao nn cc) := hB4.cellv (j := 12) rfl
        have hG4 := HG.out.keep HM4.out
        obtain ⟨v, dr, h1, h2, h3, h4, h5⟩ := hG4.ex
        obtain ⟨al, cl, rfl⟩ := h2.shape
        have c1 : w4.cell? ⟨q, 1, none⟩ = some (.slice al dr.length cl) := h1.cellv (j := 1) rfl
        have hA3 := (Mod.refl (fun _ => False) w4).alloc (.cells (mcl m (.slice ao nn cc)).toArray 39)
        have hdr := (Mod.refl (fun _ => False) (w4.alloc (.cells (mcl m (.slice ao nn cc)).toArray 39))).drew
        have hSG : SG (w4.alloc (.cells (mcl m (.slice ao nn cc)).toArray 39)).drew 13 (.slice (some ⟨w4.heap.size, 0, none⟩) 1 1) 1 (mcl m (.slice ao nn cc)) := SG.lit w4.drew 39 (mcl m (.slice ao nn cc)) (mcl_one m ao _ cc)
        have hR3 := (h2.mod hA3 (fun _ _ h => h)).mod hdr (fun _ _ h => h)
        have c1a : (w4.alloc (.cells (mcl m (.slice ao nn cc)).toArray 39)).cell? ⟨q, 1, none⟩ = some (.slice al dr.length cl) := hA3.cell c1 (fun h => h)
        have c1b := hdr.cell c1a (fun h => h)
        have HDA : Hid (Mod (fun _ => False) w4 (w4.alloc (.cells (mcl m (.slice ao nn cc)).toArray 39)).drew) := hA3.and hdr
        have HKA : Hid (Bk (w4.alloc (.cells (mcl m (.slice ao nn cc)).toArray 39)).drew q 66 #[.bool true, .slice al dr.length cl]) := (h1.mod hA3 (fun h => h)).mod hdr (fun h => h)
        have HC1B : Hid ((w4.alloc (.cells (mcl m (.slice ao nn cc)).toArray 39)).drew.cell? ⟨q, 1, none⟩ = some (.slice al dr.length cl)) := c1b
        clear c1b
        have hqn : ¬ (Value.slice al dr.length cl).ownBlock = some q := h1.ne_rm (by decide) h2
        have HQN : Hid (¬ (Value.slice al dr.length cl).ownBlock = some q) := hqn
        have H1 : Hid (Bk w4 q 66 #[.bool true, .slice al dr.length cl]) := h1
        have H2 : Hid (RG w4 39 13 (.slice al dr.length cl) dr.length (fm dr)) := h2
        have H3 : Hid (dr.map (·.1) = snt ((ds.take j).map (·.1))) := h3
        have hszr := HM4.out.size
        have hsz34 := HM34.out.size
        have hsz2 := HM2.out.size
        have hMRz := HMR.out.size
        have hbq := HBQ.out
        have H4 : Hid (∀ g, (Value.slice al dr.length cl).ownBlock = some g → B ≤ g) := fun g hg => by
          rcases h4 g hg with h | h
          · exact absurd (h ▸ hg) hqn
          · exact h.1
        have H5 : Hid (∀ x ∈ dr, Own w4 x.2 x.1.body ∧ (∀ g, x.2.ownBlock = some g → B ≤ g) ∧ (∀ c ∈ x.1.body, 0 ≤ c ∧ c ≤ 255) ∧ x.1.body.length ≤ 140737488355328) := fun x hx => ⟨(h5 x hx).1, fun g hg => by
          rcases (h5 x hx).2.1 g hg with h | h
          · exact absurd (h ▸ hg) (h1.ne_ow (by decide) (h5 x hx).1)
          · exact h.1, (h5 x hx).2.2⟩
        have HQB : Hid (q < w4.heap.size ∧ B ≤ w4.heap.size) := ⟨by omega, by omega⟩
        have HOU : Hid (Own w4 (.slice ao nn cc) (oldm d).body ∧ (∀ g, (Value.slice ao nn cc).ownBlock = some g → B ≤ g) ∧ (∀ c ∈ (oldm d).body, 0 ≤ c ∧ c ≤ 255) ∧ (oldm d).body.length ≤ 140737488355328) := ⟨hown.mod HM34.out (fun _ _ h => h), fun g hg => by have := hnew g hg; omega, oldm_rng HXO.out.2, oldm_len HZ.out⟩
        have HBN : Hid ((dr.length + 1) * 120 ≤ 140737488355328 ∧ dr.length + 1 ≤ 9223372036854775807) := by
          have h3l := congrArg List.length h3
          have : (snt ((ds.take j).map (·.1))).length ≤ j := by
            unfold snt
            rw [List.length_map]
            refine Nat.le_trans (List.length_filter_le _ _) ?_
            rw [List.length_map]
            exact List.length_take_le _ _
          simp only [List.length_map] at h3l
          constructor <;> omega
        have HTK : Hid (snt ((ds.take (j + 1)).map (·.1)) = snt ((ds.take j).map (·.1)) ++ [m]) := by
          show _ = _
          rw [List.take_add_one, HX.out, List.map_append, em]
          exact snt_yes HZ.out
        have HEM : Hid (m = oldm d) := em
        clear h1 h2 h3 h4 h5 hG4 hown hnew hB4 hqn hszr hsz34 hsz2 hMRz hbq em hdr
        clear hA3
        unfold mcl at hSG hR3 c1a
        go_upto_region 9 with (fail)
        go_region_law (refine step_appG elM (by rfl) _ _ (by rfl) _ _ dr.length 1 (fm dr) _ (by rfl) (by rfl) hR3 hSG HBN.out.1 HBN.out.2 (dr.length + 1) rfl ?_; intro ax4 cx4 w5 hRG5 hm5 hf5; have HF5 : Hid (Fr _ _ _) := hf5; clear hf5; have c15 : w5.cell? ⟨q, 1, none⟩ = some (.slice al dr.length cl) := hm5.cell HC1B.out HQN.out; have f15 : w5.frozen? ⟨q, 1, none⟩ = false := (HKA.out.mod hm5 HQN.out).frz 1)
        all_goals have hP9 := Rg.put H1.out H2.out H4.out H5.out HQB.out.1 HQB.out.2 HDA.out (HEM.out ▸ HOU.out.1) HOU.out.2.1 (HEM.out ▸ HOU.out.2.2.1) (HEM.out ▸ HOU.out.2.2.2) hm5 HF5.out hRG5
        all_goals have HREL : Hid (Rg (w5.setCell ⟨q, 1, none⟩ (.slice ax4 (dr.length + 1) cx4)) q (fun i => i = q ∨ B ≤ i ∧ i < (w5.setCell ⟨q, 1, none⟩ (.slice ax4 (dr.length + 1) cx4)).heap.size) (snt ((ds.take (j + 1)).map (·.1))) ∧ Mod (fun i => i = q) w1 (w5.setCell ⟨q, 1, none⟩ (.slice ax4 (dr.length + 1) cx4))) := ⟨by rw [HTK.out, ← H3.out]; exact hP9.rg, (HMR.out.trans HM4.out (V := fun i => i = q) (fun _ _ h => h) (fun _ _ h => h.elim)).trans hP9.md (fun _ _ h => h) (fun g hg e => by have := HBQ.out; rcases e with e | e; exact e; omega)⟩
        all_goals clear hP9 hm5 hRG5 HF5
        all_goals go_wp2
        all_goals generalize w5.setCell ⟨q, 1, none⟩ (.slice ax4 (dr.length + 1) cx4) = w6 at *
        all_goals go_roundw
        all_goals first
          | exact ⟨j + 1, by go_num, HLT.out, HREL.out.1, HREL.out.2⟩
          | (have := HLT.out; simp [intOf]; omega)
      · have HTK : Hid (snt ((ds.take (j + 1)).map (·.1)) = snt ((ds.take j).map (·.1))) := by
          show _ = _
          rw [List.take_add_one, HX.out, List.map_append]
          exact snt_no (by rw [HZ.out]; exact h0)
        have HREL : Hid (Rg w4 q (fun i => i = q ∨ B ≤ i ∧ i < w4.heap.size) (snt ((ds.take (j + 1)).map (·.1))) ∧ Mod (fun i => i = q) w1 w4) := by
          have hs := HM4.out.size
          refine ⟨?_, HMR.out.trans HM4.out (V := fun i => i = q) (fun _ _ h => h) (fun _ _ h => h.elim)⟩
          rw [HTK.out]
          refine (HG.out.keep HM4.out).more (fun i hi => ?_) (fun i hi => ?_)
          · rcases hi with hi | hi
            · exact .inl hi
            · exact .inr ⟨hi.1, by omega⟩
          · have hb := HBQ.out
            have := HMR.out.size
            rcases hi with hi | hi <;> omega
        have hb0 : (z == 0) = false := by simp [h0]
        have hbd : decide (z = 0) = false := by simp [h0]
        clear hB4 h0
        go_wp2
        go_roundw
        case rel => exact ⟨j + 1, by go_num, HLT.out, HREL.out.1, HREL.out.2⟩
        case measure =>
          have := HLT.out
          simp [intOf]
          omega
    · have HE : Hid (j = ds.length) := by show _ = _; omega
      go_wp2
      go_ret2
      have hk := HKS.out
      have hb := HBQ.out
      have hs := hMr.size
      have h1s := HM1.out.size
      refine ⟨q, zs, rfl, hk.1, hk.2.1, ?_, HM1.out.trans hMr (V := fun _ => False) (fun _ _ h => h) (fun i hi e => by have := HQ.out; omega)⟩
      rw [← hk.2.2, show ds.map (·.1) = (ds.take j).map (·.1) by rw [HE.out, List.take_length]]
      exact hG.more (fun i hi => by have := HQ.out; rcases hi with hi | hi <;> omega) (fun i hi => hi.2)
end Go.Proofs.Ythiijonmnebjgaa
