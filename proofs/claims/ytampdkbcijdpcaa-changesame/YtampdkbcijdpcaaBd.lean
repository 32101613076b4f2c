/- Contract of change's left. Conditions: as many data as a slice can have. -/
import Derived.Test.YtampdkbcijdpcaaBb
import Derived.Test.YtampdkbcijdpcaaBc
namespace Go.Proofs.Ytampdkbcijdpcaa
open Go.RowKit Go.Maps
theorem Rd18.cells {w : World} {b : Nat} {v : Value} {ds : List (Dt × Value)} (h : Rd18 w b v ds) (hn : 0 < ds.length) : ∃ g o c, v = .slice (some ⟨g, o, none⟩) ds.length c ∧ ∀ (t : Nat) (x : Dt × Value), ds[t]? = some x → ∀ j c, (dcl x.1 x.2)[j]? = some c → w.cell? ⟨g, o + t * 18 + j, none⟩ = some c := by
  obtain ⟨g, o, c, e, hr⟩ := h.row.range hn
  refine ⟨g, o, c, e, fun t x hx j c hj => ?_⟩
  have := hr (t * 18 + j) c (fd_get ds t x hx j c hj)
  rwa [← Nat.add_assoc] at this
/-- What is told of one. -/
def msg (d : Dt) : List Dt := if d.m.kind = 5 then [] else [d]
/-- What is left of a list of data behind the number l, as long as it is whole. -/
def lf (kin : Int) : Bool → Int → List Dt → List Dt
  | _, _, [] => []
  | g, l, d :: r => (if (g && decide (d.n = l + 1)) || Cr.has kin d.s then msg d else []) ++ lf kin (g && decide (d.n = l + 1)) d.n r
theorem lf_len (kin : Int) : ∀ (ds : List Dt) (g : Bool) (l : Int), (lf kin g l ds).length ≤ ds.length
  | [], _, _ => by simp [lf]
  | d :: r, g, l => by
    rw [lf, List.length_append, List.length_cons]
    have h1 := lf_len kin r (g && decide (d.n = l + 1)) d.n
    have h2 : (if (g && decide (d.n = l + 1)) || Cr.has kin d.s then msg d else []).length ≤ 1 := by
      split
      · unfold msg; split <;> simp
      · simp
    omega
set_option maxRecDepth 100000 in
set_option maxHeartbeats 8000000 in
theorem left_w {w : World} {b t B : Nat} {v lv : Value} {es : List (Ev × Value)} {ls : List (Dt × Value)} (hT : Tl w b t v es) (hb : b ≤ w.heap.size) (ht : b ≤ t) (hL : Rd18 w B lv ls) (hB : b ≤ B) (hsep : ∀ g, B ≤ g → g < w.heap.size → ¬ Tb t v g) (kin l : Int) (hl : I64 l) (hn : ∀ x ∈ ls, l < x.1.n ∧ x.1.n ≤ 9007199254740991 ∧ 1 ≤ x.1.n) (hes : es.length ≤ 5000000) (hls : ls.length ≤ 1000000) :
    Calls Try.prog 40 #[.pointer (some ⟨t, 0, none⟩), lv, .int .i64 l, .int .i64 kin] w fun e w' => e = .returned (.tuple #[]) ∧ ∃ (v' : Value) (es' : List (Ev × Value)), es'.map (·.1) = es.map (·.1) ++ (lf kin true l (ls.map (·.1))).map evD ∧ Tp w w' b t v v' es' := by
  obtain ⟨al, cl, rfl⟩ := hL.row.shape
  have HL : Hid (Rd18 w B (.slice al ls.length cl) ls) := hL
  have HT : Hid (Tl w b t v es) := hT
  have HB1 : Hid (b ≤ w.heap.size ∧ b ≤ B ∧ b ≤ t) := ⟨hb, hB, ht⟩
  have HSEP : Hid (∀ g, B ≤ g → g < w.heap.size → ¬ Tb t v g) := hsep
  have HNN : Hid (∀ x ∈ ls, l < x.1.n ∧ x.1.n ≤ 9007199254740991 ∧ 1 ≤ x.1.n) := hn
  have HES : Hid (es.length ≤ 5000000 ∧ ls.length ≤ 1000000) := ⟨hes, hls⟩
  have HLI : Hid (I64 l) := hl
  have HHS := fun c n W => Cr.Has c n W
  clear hT hb ht hL hB hsep hl hn hes hls
  go_enter Try.func40, Try.ntmps40
  go_wp2_with (fail)
  go_loopw [2, 8, 13] (fun lq g i wr => ∃ (j : Nat) (lc : Int) (gb : Bool) (v' : Value) (es' : List (Ev × Value)), lq = .int .i64 lc ∧ g = .bool gb ∧ i = .int .i64 (j : Int) ∧ j ≤ ls.length ∧ Hid (I64 lc ∧ (lc = l ∨ lc ≤ 9007199254740991)) ∧ Hid (es'.map (·.1) ++ (lf kin gb lc ((ls.drop j).map (·.1))).map evD = es.map (·.1) ++ (lf kin true l (ls.map (·.1))).map evD) ∧ Hid (es'.length ≤ es.length + j) ∧ Hid (Tp w wr b t v v' es')) (fun _ _ i _ => ls.length - (intOf i).toNat)
  case atStart => exact ⟨0, l, true, v, es, rfl, rfl, rfl, Nat.zero_le _, ⟨HLI.out, .inl rfl⟩, (by show _ = _; rw [List.drop_zero]), (by show _ ≤ _; omega), ⟨HT.out, Mod.refl _ _, Fr.refl _ _⟩⟩
  case round =>
    obtain ⟨j, lc, gb, v', es', rfl, rfl, rfl, hj, hlc, hmap, hlen, HP⟩ := hrel
    by_cases hlt : j < ls.length
    · have hlt' : (j : Int) < (ls.length : Int) := by omega
      have hj0 : (0 : Int) ≤ (j : Int) := by omega
      have HLT : Hid (j < ls.length) := hlt
      have hjb : (j : Int) + 1 ≤ 1000001 := by have := HES.out.2; omega
      obtain ⟨⟨d, u⟩, hx⟩ : ∃ x, ls[j]? = some x := ⟨ls[j], List.getElem?_eq_getElem hlt⟩
      have hLr := HL.out.mod (HP.out.mod.mono (T := fun i => Tb t v i ∧ i < w.heap.size) (fun i hi h => ⟨h, hi⟩)) (fun g hg hq => HSEP.out g hg hq.2 hq.1)
      obtain ⟨hou, hnu, hrng⟩ := hLr.each _ (List.mem_of_getElem? hx)
      simp only at hou hnu hrng
      obtain ⟨ao, cp, rfl⟩ := hou.shape
      obtain ⟨hd1, hd2, hd3⟩ := HNN.out _ (List.mem_of_getElem? hx)
      simp only at hd1 hd2 hd3
      have HDR : Hid ((ls.drop j).map (·.1) = d :: (ls.drop (j + 1)).map (·.1)) := by
        obtain ⟨hk, e⟩ := List.getElem?_eq_some_iff.1 hx
        show _ = _
        rw [List.drop_eq_getElem_cons hk, e]
        rfl
      obtain ⟨gl, ol, cl', el, hcell⟩ := hLr.cells (Nat.lt_of_le_of_lt (Nat.zero_le _) hlt)
      simp only [Value.slice.injEq, true_and] at el
      obtain ⟨rfl, rfl⟩ := el
      have hcl : ∀ k c, (dcl d (.slice ao d.m.body.length cp))[k]? = some c → wr.cell? ⟨gl, ol + j * 18 + k, none⟩ = some c := fun k c hk => hcell j _ hx k c hk
      have x0 : wr.cell? ⟨gl, ol + j * 18, none⟩ = some (.int .i64 d.q) := hcl 0 _ rfl
      have x1 : wr.cell? ⟨gl, ol + j * 18 + 1, none⟩ = some (.int .i64 d.r) := hcl 1 _ rfl
      have x2 : wr.cell? ⟨gl, ol + j * 18 + 2, none⟩ = some (.int .i64 d.n) := hcl 2 _ rfl
      have x3 : wr.cell? ⟨gl, ol + j * 18 + 3, none⟩ = some (.int .i64 d.s) := hcl 3 _ rfl
      have x4 : wr.cell? ⟨gl, ol + j * 18 + 4, none⟩ = some (.int .i64 d.t) := hcl 4 _ rfl
      have x5 : wr.cell? ⟨gl, ol + j * 18 + 5, none⟩ = some (.int .i64 d.m.kind) := hcl 5 _ rfl
      have x6 : wr.cell? ⟨gl, ol + j * 18 + 6, none⟩ = some (.int .i64 d.m.origin) := hcl 6 _ rfl
      have x7 : wr.cell? ⟨gl, ol + j * 18 + 7, none⟩ = some (.int .i64 d.m.life) := hcl 7 _ rfl
      have x8 : wr.cell? ⟨gl, ol + j * 18 + 8, none⟩ = some (.int .i64 d.m.id) := hcl 8 _ rfl
      have x9 : wr.cell? ⟨gl, ol + j * 18 + 9, none⟩ = some (.int .i64 d.m.part) := hcl 9 _ rfl
      have x10 : wr.cell? ⟨gl, ol + j * 18 + 10, none⟩ = some (.int .i64 d.m.parts) := hcl 10 _ rfl
      have x11 : wr.cell? ⟨gl, ol + j * 18 + 11, none⟩ = some (.int .i64 d.m.groups) := hcl 11 _ rfl
      have x12 : wr.cell? ⟨gl, ol + j * 18 + 12, none⟩ = some (.bool d.m.safe) := hcl 12 _ rfl
      have x13 : wr.cell? ⟨gl, ol + j * 18 + 13, none⟩ = some (.int .i64 d.m.st) := hcl 13 _ rfl
      have x14 : wr.cell? ⟨gl, ol + j * 18 + 14, none⟩ = some (.int .i64 d.m.rs) := hcl 14 _ rfl
      have x15 : wr.cell? ⟨gl, ol + j * 18 + 15, none⟩ = some (.int .i64 d.m.rr) := hcl 15 _ rfl
      have x16 : wr.cell? ⟨gl, ol + j * 18 + 16, none⟩ = some (.int .i64 d.m.sq) := hcl 16 _ rfl
      have x17 : wr.cell? ⟨gl, ol + j * 18 + 17, none⟩ = some (.slice ao d.m.body.length cp) := hcl 17 _ rfl
      have HU : Hid (∀ g, (.slice ao d.m.body.length cp : Value).ownBlock = some g → b ≤ g) := fun g hg => Nat.le_trans HB1.out.2.1 (hnu g hg)
      have HRNG : Hid (∀ c ∈ d.m.body, 0 ≤ c ∧ c ≤ 255) := hrng
      have hlc2 : lc ≤ 9007199254740991 := by
        rcases hlc.out.2 with e | e
        · omega
        · exact e
      have HDN : Hid (I64 d.n ∧ d.n ≤ 9007199254740991) := ⟨by unfold I64; omega, hd2⟩
      have hlc1 := hlc.out.1
      have HLC : Hid (lc ≤ 9007199254740991 ∧ I64 lc) := ⟨hlc2, hlc1⟩
      have hZ : Hid (Bk _ _ _ _) := Bk.new wr #[.int .i64 0, .int .i64 0, .int .i64 0, .int .i64 0, .int .i64 0, .int .i64 0, .int .i64 0, .int .i64 0, .int .i64 0, .int .i64 0, .int .i64 0, .int .i64 0, .bool false, .int .i64 0, .int .i64 0, .int .i64 0, .int .i64 0, .slice none 0 0] 44
      have hA := (Mod.refl (fun _ => False) wr).alloc (.cells #[.int .i64 0, .int .i64 0, .int .i64 0, .int .i64 0, .int .i64 0, .int .i64 0, .int .i64 0, .int .i64 0, .int .i64 0, .int .i64 0, .int .i64 0, .int .i64 0, .bool false, .int .i64 0, .int .i64 0, .int .i64 0, .int .i64 0, .slice none 0 0] 44)
      have HOU : Hid (Own wr (.slice ao d.m.body.length cp) d.m.body) := hou
      clear hou hnu hrng hd1 hd2 hd3 hcell hcl hLr hx hlc2 hlc1 hlt hj
      go_upto_region 4 with (refine wpList_store_row info18 rfl rfl _ _ rfl wr.heap.size #[.int .i64 d.q, .int .i64 d.r, .int .i64 d.n, .int .i64 d.s, .int .i64 d.t, .int .i64 d.m.kind, .int .i64 d.m.origin, .int .i64 d.m.life, .int .i64 d.m.id, .int .i64 d.m.part, .int .i64 d.m.parts, .int .i64 d.m.groups, .bool d.m.safe, .int .i64 d.m.st, .int .i64 d.m.rs, .int .i64 d.m.rr, .int .i64 d.m.sq, .slice ao d.m.body.length cp] rfl rfl hZ.out rfl rfl rfl ?_; intro wF hBF hMF)
      have hq : Mod (fun _ => False) wr wF := hA.trans hMF (V := fun _ => False) (fun _ _ h => h) (fun i hi h => by omega)
      have HP3 : Hid (Tp w wF b t v v' es') := ⟨HP.out.tl.keep hq, HP.out.mod.trans hq (fun _ _ h => h) (fun _ _ h => h.elim), HP.out.fr⟩
      have HO3 : Hid (Own wF (.slice ao d.m.body.length cp) d.m.body) := HOU.out.mod hq (fun _ _ h => h)
      obtain ⟨db, edb⟩ : ∃ db, db = wr.heap.size := ⟨_, rfl⟩
      rw [← edb] at hBF ⊢
      clear hA hMF hq hZ edb HOU x0 x1 x2 x3 x4 x5 x6 x7 x8 x9 x10 x11 x12 x13 x14 x15 x16 x17
      have k2 : wF.cell? ⟨db, 2, none⟩ = some (.int .i64 d.n) := hBF.cellv (j := 2) rfl
      have k3 : wF.cell? ⟨db, 3, none⟩ = some (.int .i64 d.s) := hBF.cellv (j := 3) rfl
      have HBF : Hid (Bk wF db 44 #[.int .i64 d.q, .int .i64 d.r, .int .i64 d.n, .int .i64 d.s, .int .i64 d.t, .int .i64 d.m.kind, .int .i64 d.m.origin, .int .i64 d.m.life, .int .i64 d.m.id, .int .i64 d.m.part, .int .i64 d.m.parts, .int .i64 d.m.groups, .bool d.m.safe, .int .i64 d.m.st, .int .i64 d.m.rs, .int .i64 d.m.rr, .int .i64 d.m.sq, .slice ao d.m.body.length cp]) := hBF
      clear hBF
      have hlw : IntKind.i64.wrap (lc + 1) = lc + 1 := by
        have := HLC.out.1; have := HLC.out.2.1; have := HLC.out.2.2
        unfold IntKind.wrap; simp [IntKind.signed, IntKind.bits]; omega
      cases gb with
      | true =>
        by_cases e : d.n = lc + 1
        · have HEQ : Hid (decide (d.n = lc + 1) = true) := decide_eq_true e
          have heb : (d.n == lc + 1) = true := by simp [e]
          clear e
          have HMS := message_w HP3.out.tl (Nat.le_trans HB1.out.1 HP3.out.mod.size) (by have h1 := hlen.out; have h2 := HES.out; have h3 := HLT.out; omega) d (.slice ao d.m.body.length cp) HO3.out HU.out HRNG.out
          unfold dv at HMS
          go_upto_region 7 with (fail)
          go_wp2_with (refine wpList_load_row info18 Try.underlying44 rfl rfl _ rfl db rfl HBF.out rfl ?_; simp only [Act.put, List.setIfInBounds_toArray, List.set_cons_succ, List.set_cons_zero])
          refine HMS.mono ?_
          rintro e w5 ⟨rfl, v5, hP5⟩
          have HPE : Hid (Tp w w5 b t v v5 (if d.m.kind = 5 then es' else es' ++ [(evD d, .slice ao d.m.body.length cp)])) := ⟨hP5.tl, Tb.and HP3.out.mod HP3.out.fr hP5.mod, Fr.and HP3.out.mod.size HP3.out.fr hP5.fr⟩
          have HMAP : Hid ((if d.m.kind = 5 then es' else es' ++ [(evD d, .slice ao d.m.body.length cp)]).map (·.1) ++ (lf kin true d.n ((ls.drop (j + 1)).map (·.1))).map evD = es.map (·.1) ++ (lf kin true l (ls.map (·.1))).map evD) := by
            have h := hmap.out
            rw [HDR.out, lf, HEQ.out] at h
            show _ = _
            rw [← h]
            by_cases h5 : d.m.kind = 5
            · simp [msg, h5]
            · simp [msg, h5]
          have HLEN : Hid ((if d.m.kind = 5 then es' else es' ++ [(evD d, .slice ao d.m.body.length cp)]).length ≤ es.length + (j + 1)) := by
            have h := hlen.out
            show _ ≤ _
            split
            · omega
            · simp; omega
          clear hP5 HMS
          go_wp2
          go_roundw
          case rel => exact ⟨j + 1, d.n, true, v5, _, rfl, rfl, by go_num, HLT.out, ⟨HDN.out.1, .inr HDN.out.2⟩, HMAP, HLEN, HPE⟩
          case measure =>
            have := HLT.out
            simp [intOf]
            omega
        · have HEQ : Hid (decide (d.n = lc + 1) = false) := decide_eq_false e
          have heb : (d.n == lc + 1) = false := by simp [e]
          clear e
          have HAS := HHS kin d.s wF
          cases hh : Cr.has kin d.s with
          | true =>
            have HH : Hid (Cr.has kin d.s = true) := hh
            rw [hh] at HAS
            clear hh
            go_wp2_with (fail)
            refine HAS.mono ?_
            rintro e w4 ⟨rfl, e1⟩
            replace e1 := e1.symm
            subst e1
            clear HAS
            have HMS := message_w HP3.out.tl (Nat.le_trans HB1.out.1 HP3.out.mod.size) (by have h1 := hlen.out; have h2 := HES.out; have h3 := HLT.out; omega) d (.slice ao d.m.body.length cp) HO3.out HU.out HRNG.out
            unfold dv at HMS
            go_upto_region 7 with (fail)
            go_wp2_with (refine wpList_load_row info18 Try.underlying44 rfl rfl _ rfl db rfl HBF.out rfl ?_; simp only [Act.put, List.setIfInBounds_toArray, List.set_cons_succ, List.set_cons_zero])
            refine HMS.mono ?_
            rintro e w5 ⟨rfl, v5, hP5⟩
            have HPE : Hid (Tp w w5 b t v v5 (if d.m.kind = 5 then es' else es' ++ [(evD d, .slice ao d.m.body.length cp)])) := ⟨hP5.tl, Tb.and HP3.out.mod HP3.out.fr hP5.mod, Fr.and HP3.out.mod.size HP3.out.fr hP5.fr⟩
            have HMAP : Hid ((if d.m.kind = 5 then es' else es' ++ [(evD d, .slice ao d.m.body.length cp)]).map (·.1) ++ (lf kin false d.n ((ls.drop (j + 1)).map (·.1))).map evD = es.map (·.1) ++ (lf kin true l (ls.map (·.1))).map evD) := by
              have h := hmap.out
              rw [HDR.out, lf, HEQ.out] at h
              show _ = _
              rw [← h]
              by_cases h5 : d.m.kind = 5
              · simp [msg, h5, HH.out]
              · simp [msg, h5, HH.out]
            have HLEN : Hid ((if d.m.kind = 5 then es' else es' ++ [(evD d, .slice ao d.m.body.length cp)]).length ≤ es.length + (j + 1)) := by
              have h := hlen.out
              show _ ≤ _
              split
              · omega
              · simp; omega
            clear hP5 HMS
            go_wp2
            go_roundw
            case rel => exact ⟨j + 1, d.n, false, v5, _, rfl, rfl, by go_num, HLT.out, ⟨HDN.out.1, .inr HDN.out.2⟩, HMAP, HLEN, HPE⟩
            case measure =>
              have := HLT.out
              simp [intOf]
              omega
          | false =>
            have HH : Hid (Cr.has kin d.s = false) := hh
            rw [hh] at HAS
            clear hh
            go_wp2_with (fail)
            refine HAS.mono ?_
            rintro e w4 ⟨rfl, e1⟩
            replace e1 := e1.symm
            subst e1
            clear HAS
            have HPE : Hid (Tp w wF b t v v' es') := HP3
            have HMAP : Hid (es'.map (·.1) ++ (lf kin false d.n ((ls.drop (j + 1)).map (·.1))).map evD = es.map (·.1) ++ (lf kin true l (ls.map (·.1))).map evD) := by
              have h := hmap.out
              rw [HDR.out, lf, HEQ.out] at h
              show _ = _
              rw [← h]
              simp [HH.out]
            have HLEN : Hid (es'.length ≤ es.length + (j + 1)) := by
              have h := hlen.out
              show _ ≤ _
              omega
            go_wp2
            go_roundw
            case rel => exact ⟨j + 1, d.n, false, v', es', rfl, rfl, by go_num, HLT.out, ⟨HDN.out.1, .inr HDN.out.2⟩, HMAP, HLEN, HPE⟩
            case measure =>
              have := HLT.out
              simp [intOf]
              omega
      | false =>
        have HAS := HHS kin d.s wF
        cases hh : Cr.has kin d.s with
        | true =>
          have HH : Hid (Cr.has kin d.s = true) := hh
          rw [hh] at HAS
          clear hh
          go_wp2_with (fail)
          refine HAS.mono ?_
          rintro e w4 ⟨rfl, e1⟩
          replace e1 := e1.symm
          subst e1
          clear HAS
          have HMS := message_w HP3.out.tl (Nat.le_trans HB1.out.1 HP3.out.mod.size) (by have h1 := hlen.out; have h2 := HES.out; have h3 := HLT.out; omega) d (.slice ao d.m.body.length cp) HO3.out HU.out HRNG.out
          unfold dv at HMS
          go_upto_region 7 with (fail)
          go_wp2_with (refine wpList_load_row info18 Try.underlying44 rfl rfl _ rfl db rfl HBF.out rfl ?_; simp only [Act.put, List.setIfInBounds_toArray, List.set_cons_succ, List.set_cons_zero])
          refine HMS.mono ?_
          rintro e w5 ⟨rfl, v5, hP5⟩
          have HPE : Hid (Tp w w5 b t v v5 (if d.m.kind = 5 then es' else es' ++ [(evD d, .slice ao d.m.body.length cp)])) := ⟨hP5.tl, Tb.and HP3.out.mod HP3.out.fr hP5.mod, Fr.and HP3.out.mod.size HP3.out.fr hP5.fr⟩
          have HMAP : Hid ((if d.m.kind = 5 then es' else es' ++ [(evD d, .slice ao d.m.body.length cp)]).map (·.1) ++ (lf kin false d.n ((ls.drop (j + 1)).map (·.1))).map evD = es.map (·.1) ++ (lf kin true l (ls.map (·.1))).map evD) := by
            have h := hmap.out
            rw [HDR.out, lf] at h
            show _ = _
            rw [← h]
            by_cases h5 : d.m.kind = 5
            · simp [msg, h5, HH.out]
            · simp [msg, h5, HH.out]
          have HLEN : Hid ((if d.m.kind = 5 then es' else es' ++ [(evD d, .slice ao d.m.body.length cp)]).length ≤ es.length + (j + 1)) := by
            have h := hlen.out
            show _ ≤ _
            split
            · omega
            · simp; omega
          clear hP5 HMS
          go_wp2
          go_roundw
          case rel => exact ⟨j + 1, d.n, false, v5, _, rfl, rfl, by go_num, HLT.out, ⟨HDN.out.1, .inr HDN.out.2⟩, HMAP, HLEN, HPE⟩
          case measure =>
            have := HLT.out
            simp [intOf]
            omega
        | false =>
          have HH : Hid (Cr.has kin d.s = false) := hh
          rw [hh] at HAS
          clear hh
          go_wp2_with (fail)
          refine HAS.mono ?_
          rintro e w4 ⟨rfl, e1⟩
          replace e1 := e1.symm
          subst e1
          clear HAS
          have HPE : Hid (Tp w wF b t v v' es') := HP3
          have HMAP : Hid (es'.map (·.1) ++ (lf kin false d.n ((ls.drop (j + 1)).map (·.1))).map evD = es.map (·.1) ++ (lf kin true l (ls.map (·.1))).map evD) := by
            have h := hmap.out
            rw [HDR.out, lf] at h
            show _ = _
            rw [← h]
            simp [HH.out]
          have HLEN : Hid (es'.length ≤ es.length + (j + 1)) := by
            have h := hlen.out
            show _ ≤ _
            omega
          go_wp2
          go_roundw
          case rel => exact ⟨j + 1, d.n, false, v', es', rfl, rfl, by go_num, HLT.out, ⟨HDN.out.1, .inr HDN.out.2⟩, HMAP, HLEN, HPE⟩
          case measure =>
            have := HLT.out
            simp [intOf]
            omega
    · have e : j = ls.length := by omega
      have HE : Hid (j = ls.length) := e
      have hlt' : ¬ (j : Int) < (ls.length : Int) := by omega
      clear e hlt
      go_wp2
      exact bodyPost_end (results_none rfl _ _ _) rfl ⟨rfl, v', es', by have h := hmap.out; rw [HE.out] at h; simpa [lf] using h, HP.out⟩
end Go.Proofs.Ytampdkbcijdpcaa
