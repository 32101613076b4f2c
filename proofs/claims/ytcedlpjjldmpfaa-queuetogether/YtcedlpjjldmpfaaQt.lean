/- QueueTogether: put in together or one by one, it comes to the same. No conditions beyond sizes that a slice has. -/
import Derived.Test.YtcedlpjjldmpfaaQh
import Derived.Test.YtcedlpjjldmpfaaQi
import Derived.Test.YtcedlpjjldmpfaaRows
import Derived.ProofKit
import Derived.OpenShut
import Derived.Deep.Slices
import Derived.Deep.Strs
import Derived.Lib.SmallJoins
import Derived.SizedLaws
namespace Go.Proofs.Ytcedlpjjldmpfaa
open Go.RowKit
/-- A row of messages out of others. -/
structure Tg (w wr : World) (v : Value) (ds mds : List (Ms × Value)) : Prop where
  row : RM wr v mds
  few : mds.length ≤ 32
  each : ∀ d ∈ mds, d ∈ ds ∧ chk d.1 = 0
  new : ∀ b, v.ownBlock = some b → w.heap.size ≤ b
theorem Tg.mod {w wr w' : World} {v : Value} {ds mds : List (Ms × Value)} (h : Tg w wr v ds mds) (hm : Mod (fun _ => False) wr w') : Tg w w' v ds mds := ⟨h.row.mod hm (fun _ _ h => h), h.few, h.each, h.new⟩
theorem Tg.modq {w wr w' : World} {v : Value} {ds mds : List (Ms × Value)} {q : Nat} {X : Nat → Prop} {L : List Ms} (h : Tg w wr v ds mds) (hq : Qu wr q X L) (hm : Mod (fun b => b = q) wr w') : Tg w w' v ds mds := by
  obtain ⟨cq, hk⟩ := hq.kind
  refine ⟨h.row.mod hm (fun g hg e => ?_), h.few, h.each, h.new⟩
  obtain ⟨c, hc⟩ := h.row.kind hg
  rw [e, hk] at hc
  simp at hc
theorem Tg.mgs {w wr : World} {va v : Value} {ds mds : List (Ms × Value)} (h : Tg w wr v ds mds) (hD : Mgs w va ds) (hm : Mod (fun _ => False) w wr) : Mgs wr v mds :=
  h.row.mgs (by have := h.few; omega) fun d hd => ⟨(hD.each d (h.each d hd).1).1.mod hm (fun _ _ h => h), (hD.each d (h.each d hd).1).2⟩
theorem Tg.bd {w wr : World} {v : Value} {ds mds : List (Ms × Value)} (h : Tg w wr v ds mds) : bd mds = false := bd_none fun _ d hd => (h.each d (List.mem_of_getElem? hd)).2
/-- One queue turns, another one does not. -/
theorem Qu.modq {w w' : World} {q q' : Nat} {X X' : Nat → Prop} {L L' : List Ms} (h : Qu w q X L) (hq : Qu w q' X' L') (hne : q' ≠ q) (hm : Mod (fun b => b = q') w w') : Qu w' q X L :=
  h.modK hm fun b hb => ⟨by rw [hb]; exact hne, fun cur hcur => by
    obtain ⟨cq, hk⟩ := hq.kind
    rw [hb, hk] at hcur
    simp at hcur⟩
theorem loadM {W : World} {b o : Nat} {m : Ms} {v : Value} (h : W.rangeAt b o (mcl m v)) : ∀ y, Mod (fun _ => False) W y → (Instr.loadAt 40 (.pointer (some ⟨b, o, none⟩))).run Try.prog y = .ok (.agg (mcl m v).toArray) y := fun y hy =>
  run_loadAt_mid (P := Try.prog) y b o 40 (mcl m v) _ (range_mod h hy (fun h => h)) Try.underlying40 rfl (by rw [sizeM13]; rfl)
/-- How many a queue has, out of memory. -/
def many (w : World) (q : Nat) : Nat := (intOf ((w.cell? ⟨q, 418, none⟩).getD undef)).toNat
theorem Qu.many {w : World} {q : Nat} {X : Nat → Prop} {L : List Ms} (h : Qu w q X L) : many w q = L.length := by
  obtain ⟨xs, f, V, h⟩ := h
  unfold Go.Proofs.Ytcedlpjjldmpfaa.many
  rw [h.cn]
  simp [intOf]
set_option maxRecDepth 100000 in
set_option maxHeartbeats 8000000 in
theorem together_walk (va : Value) (ds : List (Ms × Value)) (w : World) (hD : Mgs w va ds) : Calls Try.prog 5 #[va] w fun e w' => e = .returned (.bool true) ∧ Mod (fun _ => False) w w' := by
  have HD : Hid (Mgs w va ds) := hD
  obtain ⟨av, cv, rfl, hlen, hfm⟩ := hD.form
  have hlen' : (ds.length : Int) ≤ 140737488355327 := by omega
  clear hD
  go_enter Try.func5, Try.ntmps5
  go_wp2_with (fail)
  refine (works_any w).mono ?_
  rintro e w1 ⟨rfl, hm1⟩
  go_wp2_with (fail)
  go_loopw [3, 4] (fun v3 ci wr => ∃ (j : Nat) (mds : List (Ms × Value)), ci = .int .i64 (j : Int) ∧ j ≤ ds.length ∧ Tg w wr v3 ds mds ∧ Mod (fun _ => False) w wr) (fun _ ci _ => ds.length - (intOf ci).toNat)
  case atStart => exact ⟨0, [], rfl, Nat.zero_le _, ⟨RM.nil _, by simp, by simp, by simp [Value.ownBlock]⟩, hm1⟩
  case round =>
  obtain ⟨j, mds, rfl, hj, hT, hMr⟩ := hrel
  clear hm1
  obtain ⟨ab, cb, eb⟩ := hT.row.shape
  subst eb
  have AFTER : Hid True := trivial
  by_cases hgo : j < ds.length ∧ mds.length < 32
  · obtain ⟨hjn, hm32⟩ := hgo
    have hjn' : (j : Int) < (ds.length : Int) := by go_light; omega
    have hjb' : (j : Int) < 140737488355327 := by go_light; omega
    have hm32' : (mds.length : Int) < 32 := by go_light; omega
    obtain ⟨d, hdj⟩ : ∃ d, ds[j]? = some d := ⟨ds[j], List.getElem?_eq_getElem hjn⟩
    obtain ⟨b, off, rfl, hc⟩ := hfm (by intro e; rw [e] at hjn; exact absurd hjn (Nat.not_lt_zero _))
    have hrg := range_mod (hc j d hdj) hMr (fun h => h)
    have hrg0 := hc j d hdj
    have hsl := (HD.out.each d (List.mem_of_getElem? hdj)).1.mod hMr (fun _ _ h => h)
    have HDM : Hid (d ∈ ds) := List.mem_of_getElem? hdj
    clear hc hfm hdj
    obtain ⟨⟨k, o, lf, i, p, ps, g, s, st, rs, rr, sq, l⟩, dv⟩ := d
    replace hsl : Sl wr dv l := hsl
    obtain ⟨ao, cap, rfl, _⟩ := hsl.form
    obtain ⟨c0, c1, c2, c3, c4, c5, c6, c7, c8, c9, c10, c11, c12⟩ := range13 hrg
    have HC := Check_any k o lf i p ps g s st rs rr sq ao cap l wr hsl
    obtain ⟨E, hE⟩ : ∃ E, E = chk ⟨k, o, lf, i, p, ps, g, s, st, rs, rr, sq, l⟩ := ⟨_, rfl⟩
    rw [← hE] at HC
    have HE : Hid (E = chk ⟨k, o, lf, i, p, ps, g, s, st, rs, rr, sq, l⟩) := hE
    clear hE hsl hrg
    go_wp2_with (fail)
    refine HC.mono ?_
    rintro e w3 ⟨rfl, hm3⟩
    have hM3 := hMr.trans hm3 (V := fun _ => False) (fun _ _ h => h) (fun _ _ h => h)
    have hT3 := hT.mod hm3
    clear c0 c1 c2 c3 c4 c5 c6 c7 c8 c9 c10 c11 c12 HC hT hm3
    by_cases hE0 : E = 0
    · subst hE0
      obtain ⟨c0, c1, c2, c3, c4, c5, c6, c7, c8, c9, c10, c11, c12⟩ := range13 (range_mod hrg0 hM3 (fun h => h))
      have hsc := Sc.lit w3 ⟨k, o, lf, i, p, ps, g, s, st, rs, rr, sq, l⟩ (.slice ao l.length cap) rfl
      have hA := (Mod.refl (fun _ => False) w3).alloc (.cells (mcl ⟨k, o, lf, i, p, ps, g, s, st, rs, rr, sq, l⟩ (.slice ao l.length cap)).toArray 40)
      simp only [mcl] at hsc hA
      have hrw := hT3.row.mod hA (fun _ _ h => h)
      have HT3 : Hid (Tg w w3 (.slice ab mds.length cb) ds mds) := hT3
      have HMA : Hid (Mod (fun _ => False) w _) := hM3.trans hA (V := fun _ => False) (fun _ _ h => h) (fun _ _ h => h)
      clear hT3 hA hM3 hMr hrg0
      go_wp2_with (refine wpList_appM rfl _ _ rfl (.slice ab mds.length cb) (.slice (some ⟨w3.heap.size, 0, none⟩) 1 1) mds [(⟨k, o, lf, i, p, ps, g, s, st, rs, rr, sq, l⟩, .slice ao l.length cap)] rfl rfl hrw hsc (by simp only [List.length_cons, List.length_nil]; go_light; omega) (mds.length + 1) rfl ?_; intro ax cx w4 hr4 hm4 hf4; simp only [Act.put, List.setIfInBounds_toArray, List.set_cons_succ, List.set_cons_zero])
      have HN : Hid (Tg w w4 (.slice ax (mds.length + 1) cx) ds (mds ++ [(⟨k, o, lf, i, p, ps, g, s, st, rs, rr, sq, l⟩, .slice ao l.length cap)])) := ⟨hr4, by simp; go_light; omega, fun d hd => by
        rcases List.mem_append.1 hd with hd | hd
        · exact HT3.out.each d hd
        · rw [List.mem_singleton] at hd
          subst hd
          exact ⟨HDM.out, HE.out.symm⟩, fun b' hb' => by
        rcases hf4 b' hb' with h | h
        · exact HT3.out.new b' h
        · exact Nat.le_trans HMA.out.size h⟩
      have HM4 : Hid (Mod (fun _ => False) w w4) := HMA.out.trans hm4 (fun _ _ h => h) (fun b' hb' e => absurd hb' (Nat.not_lt.2 (HT3.out.new b' e)))
      clear hr4 hm4 hf4 hrw hsc HMA HT3 c0 c1 c2 c3 c4 c5 c6 c7 c8 c9 c10 c11 c12
      go_wp2_with (fail)
      go_roundw
      case rel => exact ⟨j + 1, _, by go_num, hjn, HN.out, HM4.out⟩
      case measure => simp [intOf]; go_light; omega
    · have e30 : (E == 0) = false := by simp [hE0]
      clear hE0
      go_wp2_with (fail)
      go_roundw
      case rel => exact ⟨j + 1, _, by go_num, hjn, hT3, hM3⟩
      case measure => simp [intOf]; go_light; omega
  · have hgo' : ¬ (j : Int) < (ds.length : Int) ∨ ((j : Int) < (ds.length : Int) ∧ ¬ (mds.length : Int) < 32) := by go_light; omega
    clear hfm hgo
    obtain ⟨wk, ewk⟩ : ∃ wk, wk = wr := ⟨_, rfl⟩
    subst ewk
    have HT : Hid (Tg w wk (.slice ab mds.length cb) ds mds) := hT
    have HM : Hid (Mod (fun _ => False) w wk) := hMr
    clear hT hMr
    go_upto_region 5 with (fail)
    go_cut [22] (fun s wx => s = .bool false ∧ wx = wk)
    case first =>
      rcases hgo' with hg | ⟨hg1, hg2⟩
      · go_wp2_with (fail)
        go_meet
        exact ⟨rfl, rfl⟩
      · go_wp2_with (fail)
        go_meet
        exact ⟨rfl, rfl⟩
    case rest =>
    obtain ⟨e22, ewc⟩ := hcut
    subst e22
    subst ewc
    clear hgo'
    generalize wc = wk at *
    go_wp2_with (fail)
    refine (qNew wk).mono ?_
    rintro e w4 ⟨qa, Xa, rfl, hA4, hm4, hXa⟩
    go_wp2_with (fail)
    refine (qNew w4).mono ?_
    rintro e w5 ⟨qb, Xb, rfl, hB5, hm5, hXb⟩
    have hM5 := hm4.trans hm5 (V := fun _ => False) (fun _ _ h => h) (fun _ _ h => h)
    have hMw5 := HM.out.trans hM5 (V := fun _ => False) (fun _ _ h => h) (fun _ _ h => h)
    have hT5 := HT.out.mod hM5
    have hA5 := hA4.mod hm5 (fun _ _ h => h)
    have hne : qb ≠ qa := fun e => by have h1 := hXb _ hB5.inX; have h2 := hA4.lt _ hA4.inX; rw [e] at h1; exact absurd h2 (Nat.not_lt.2 h1)
    have hXa' : ∀ b, Xa b → w.heap.size ≤ b := fun b hb => Nat.le_trans HM.out.size (hXa b hb)
    have hXb' : ∀ b, Xb b → w.heap.size ≤ b := fun b hb => Nat.le_trans HM.out.size (Nat.le_trans hm4.size (hXb b hb))
    have hfar : Far Xa (.slice ab mds.length cb) mds := ⟨fun _ b' hb' hx => by
      have h1 := HT.out.row.lt b' hb'
      exact absurd h1 (Nat.not_lt.2 (hXa b' hx)), fun d hd hl b' hb' hx => absurd ((HD.out.each d (HT.out.each d hd).1).1.lt hl b' hb') (Nat.not_lt.2 (hXa' b' hx))⟩
    have HPut := Put_ok hA5 (.slice ab mds.length cb) mds (hT5.mgs HD.out hMw5) hT5.bd (by simpa using hT5.few) hfar
    rw [List.nil_append] at HPut
    obtain ⟨ms, hms⟩ : ∃ ms, ms = mds.map (·.1) := ⟨_, rfl⟩
    rw [← hms] at HPut
    go_wp2_with (fail)
    refine HPut.mono ?_
    rintro e w6 ⟨rfl, ⟨Xa6, hA6, hXa6⟩, hm6⟩
    have hT6 := hT5.modq hA5 hm6
    have hB6 := hB5.modq hA5 (Ne.symm hne) hm6
    have hqa : w.heap.size ≤ qa := hXa' _ hA5.inX
    have hM6 : Mod (fun _ => False) w w6 := hMw5.trans hm6 (fun _ _ h => h) (fun b' hb' e => by subst e; exact absurd hb' (Nat.not_lt.2 hqa))
    have hqb : w.heap.size ≤ qb := hXb' _ hB5.inX
    have hlm : ms.length = mds.length := by rw [hms]; simp
    have HMS : Hid (ms = mds.map (·.1)) := hms
    have hfew : (mds.length : Int) ≤ 32 := by have := hT5.few; go_light; omega
    clear HPut hfar hA5 hB5 hT5 hMw5 hM5 hA4 hm4 hm5 hm6 hXa hXb HT HM hms hXa6 hXa'
    go_wp2_with (fail)
    go_loopw [7] (fun ci wr => ∃ (t : Nat), ci = .int .i64 (t : Int) ∧ t ≤ mds.length ∧ (∃ Xa, Qu wr qa Xa ms) ∧ (∃ Xb, Qu wr qb Xb (ms.take t) ∧ ∀ b, Xb b → w.heap.size ≤ b) ∧ Tg w wr (.slice ab mds.length cb) ds mds ∧ Mod (fun _ => False) w wr) (fun ci _ => mds.length - (intOf ci).toNat)
    case atStart => exact ⟨0, rfl, Nat.zero_le _, ⟨_, hA6⟩, ⟨_, hB6, hXb'⟩, hT6, hM6⟩
    case round =>
    obtain ⟨t, rfl, ht, ⟨Xa, hA⟩, ⟨Xb, hB, hXb⟩, hT, hMr⟩ := hrel
    clear hA6 hB6 hT6 hM6 hXb'
    obtain ⟨wk, ewk⟩ : ∃ wk, wk = wr := ⟨_, rfl⟩
    subst ewk
    by_cases htn : t < mds.length
    · have htn' : (t : Int) < (mds.length : Int) := by go_light; omega
      obtain ⟨d, hdt⟩ : ∃ d, mds[t]? = some d := ⟨mds[t], List.getElem?_eq_getElem htn⟩
      have hG := hT.mgs HD.out hMr
      obtain ⟨ag, cg, eg, _, hfm⟩ := hG.form
      cases eg
      obtain ⟨b, off, rfl, hc⟩ := hfm (by intro e; rw [e] at htn; exact absurd htn (Nat.not_lt_zero _))
      have hrg := hc t d hdt
      obtain ⟨hdd, hchk⟩ := hT.each d (List.mem_of_getElem? hdt)
      obtain ⟨hsl0, hbl⟩ := HD.out.each d hdd
      have hsl := hsl0.mod hMr (fun _ _ h => h)
      have hms1 : ms.take (t + 1) = ms.take t ++ [d.1] := by
        rw [HMS.out, List.take_add_one, List.getElem?_map, hdt]
        rfl
      clear hc hfm hG hdt hdd
      obtain ⟨⟨k, o, lf, i, p, ps, g, s, st, rs, rr, sq, l⟩, dv⟩ := d
      replace hsl : Sl wk dv l := hsl
      replace hsl0 : Sl w dv l := hsl0
      replace hbl : l.length ≤ 140737488355328 := hbl
      obtain ⟨ao, cap, rfl, _⟩ := hsl.form
      obtain ⟨c0, c1, c2, c3, c4, c5, c6, c7, c8, c9, c10, c11, c12⟩ := range13 hrg
      have hAl := (Mod.refl (fun _ => False) wk).alloc (.cells #[.int .i64 k, .int .i64 o, .int .i64 lf, .int .i64 i, .int .i64 p, .int .i64 ps, .int .i64 g, .bool s, .int .i64 st, .int .i64 rs, .int .i64 rr, .int .i64 sq, .slice ao l.length cap] 40)
      have hLit := Mgs.lit wk ⟨k, o, lf, i, p, ps, g, s, st, rs, rr, sq, l⟩ (.slice ao l.length cap) hsl hbl
      simp only [mcl] at hLit
      have hBl := hB.mod hAl (fun _ _ h => h)
      have HP := Put_ok hBl _ _ hLit (by simp only [bd, List.any_cons, List.any_nil, Bool.or_false, decide_eq_false_iff_not, Decidable.not_not]; exact hchk) (by rw [List.length_take, hlm]; simp only [List.length_cons, List.length_nil]; have := hT.few; go_light; omega) ⟨fun _ b' hb' hx => by
        simp only [Value.ownBlock, Option.some.injEq] at hb'
        subst hb'
        exact absurd (hB.lt _ hx) (Nat.lt_irrefl _), fun d hd hl b' hb' hx => by
        rw [List.mem_singleton] at hd
        subst hd
        exact absurd (hsl0.lt hl b' hb') (Nat.not_lt.2 (hXb b' hx))⟩
      simp only [List.map_cons, List.map_nil] at HP
      rw [← hms1] at HP
      go_wp2_with (fail)
      refine HP.mono ?_
      rintro e w7 ⟨rfl, ⟨Xb7, hB7, hXb7⟩, hm7⟩
      have hA7 := (hA.mod hAl (fun _ _ h => h)).modq hBl hne hm7
      have hT7 := (hT.mod hAl).modq hBl hm7
      have hM7 : Mod (fun _ => False) w w7 := (hMr.trans hAl (V := fun _ => False) (fun _ _ h => h) (fun _ _ h => h)).trans hm7 (fun _ _ h => h) (fun b' hb' e => by subst e; exact absurd hb' (Nat.not_lt.2 hqb))
      have HX7 : Hid (∀ b, Xb7 b → w.heap.size ≤ b) := fun b' hb' => by
        rcases hXb7 b' hb' with h | h
        · exact hXb b' h
        · exact Nat.le_trans (hMr.trans hAl (V := fun _ => False) (fun _ _ h => h) (fun _ _ h => h)).size h
      clear HP hLit hAl hBl hA hB hT hMr hXb hm7 hXb7 hrg hsl hsl0 c0 c1 c2 c3 c4 c5 c6 c7 c8 c9 c10 c11 c12
      go_wp2_with (fail)
      go_roundw
      case rel => exact ⟨t + 1, by go_num, htn, ⟨_, hA7⟩, ⟨_, hB7, HX7.out⟩, hT7, hM7⟩
      case measure => simp [intOf]; go_light; omega
    · have et : t = mds.length := by go_light; omega
      subst et
      rw [← hlm, List.take_length] at hB
      clear ht htn hXb
      go_wp2_with (fail)
      go_loopw [8, 9, 10, 11] (fun _ _ _ _ wr => ∃ (t : Nat), t ≤ ms.length ∧ (∃ Xa, Qu wr qa Xa (ms.drop t)) ∧ (∃ Xb, Qu wr qb Xb (ms.drop t)) ∧ Tg w wr (.slice ab mds.length cb) ds mds ∧ Mod (fun _ => False) w wr) (fun _ _ _ _ wr => many wr qa)
      case atStart => exact ⟨0, Nat.zero_le _, ⟨_, hA⟩, ⟨_, hB⟩, hT, hMr⟩
      case round =>
      clear hA hB hT hMr
      obtain ⟨t, ht, ⟨Xa, hA⟩, ⟨Xb, hB⟩, hT, hMr⟩ := hrel
      obtain ⟨wk, ewk⟩ : ∃ wk, wk = wr := ⟨_, rfl⟩
      subst ewk
      obtain ⟨L, hL⟩ : ∃ L, L = ms.drop t := ⟨_, rfl⟩
      rw [← hL] at hA hB
      have HLa := Len_q hA
      have HLb := Len_q hB
      cases L with
      | nil =>
        simp only [List.length_nil] at HLa HLb
        have e00 : ((0 : Nat) : Int) = 0 := rfl
        rw [e00] at HLa HLb
        clear hA hB hT hL
        go_wp2_with (fail)
        refine HLa.mono ?_
        rintro e wk ⟨rfl, rfl⟩
        go_wp2_with (fail)
        refine HLa.mono ?_
        rintro e wk ⟨rfl, rfl⟩
        go_wp2_with (fail)
        refine HLb.mono ?_
        rintro e wk ⟨rfl, rfl⟩
        go_wp2_with (fail)
        go_ret
        exact ⟨rfl, hMr⟩
      | cons x L2 =>
      have HL : Hid (x :: L2 = ms.drop t) := hL
      have htl : t < ms.length := by
        rcases Nat.lt_or_ge t ms.length with h | h
        · exact h
        · rw [List.drop_eq_nil_of_le h] at hL; cases hL
      have hl2 : t + (L2.length + 1) = ms.length := by
        have := congrArg List.length hL
        rw [List.length_drop, List.length_cons] at this
        go_light
        omega
      have HLD : Hid (L2 = ms.drop (t + 1)) := by
        show _ = _
        rw [← List.drop_drop, ← hL]
        rfl
      have hxt : ms[t]? = some x := by
        have := congrArg (fun l => l[0]?) hL
        simp only [List.getElem?_cons_zero, List.getElem?_drop, Nat.add_zero] at this
        exact this.symm
      rw [HMS.out, List.getElem?_map] at hxt
      obtain ⟨dt, hdt, hdx⟩ := Option.map_eq_some_iff.1 hxt
      simp only [List.length_cons] at HLa HLb
      have hpos : (0 : Int) < ((L2.length + 1 : Nat) : Int) := by go_light; omega
      clear hL hxt
      obtain ⟨dm, dv⟩ := dt
      simp only at hdx
      subst hdx
      obtain ⟨k, o, lf, i, p, ps, g, s, st, rs, rr, sq, l⟩ := dm
      have HTa := Take_some k o lf i p ps g s st rs rr sq l hA
      have HMN : Hid (many wk qa = L2.length + 1) := by show _ = _; rw [hA.many, List.length_cons]
      go_wp2_with (fail)
      refine HLa.mono ?_
      rintro e wk ⟨rfl, rfl⟩
      go_wp2_with (fail)
      refine HLb.mono ?_
      rintro e wk ⟨rfl, rfl⟩
      clear HLa HLb
      go_wp2_with (fail)
      refine HTa.mono ?_
      rintro e w5 ⟨am, cm, rfl, ho5, hr5, hA5, hv5, hm5⟩
      clear HTa
      have hB5 := hB.modq hA (Ne.symm hne) hm5
      have hT5 := hT.modq hA hm5
      have hM5 : Mod (fun _ => False) w w5 := hMr.trans hm5 (fun _ _ h => h) (fun b' hb' e => by subst e; exact absurd hb' (Nat.not_lt.2 hqa))
      have hAl5 := (Mod.refl (fun _ => False) w5).alloc (.cells #[.int .i64 k, .int .i64 o, .int .i64 lf, .int .i64 i, .int .i64 p, .int .i64 ps, .int .i64 g, .bool s, .int .i64 st, .int .i64 rs, .int .i64 rr, .int .i64 sq, .slice am l.length cm] 40)
      have hMA5 := Bk.new w5 #[.int .i64 k, .int .i64 o, .int .i64 lf, .int .i64 i, .int .i64 p, .int .i64 ps, .int .i64 g, .bool s, .int .i64 st, .int .i64 rs, .int .i64 rr, .int .i64 sq, .slice am l.length cm] 40
      have hB5a := hB5.mod hAl5 (fun _ _ h => h)
      have HTb := Take_some k o lf i p ps g s st rs rr sq l hB5a
      clear hA hB hT hMr hm5 hv5
      go_wp2_with (fail)
      refine HTb.mono ?_
      rintro e w6 ⟨an, cn, rfl, ho6, _, hB6, hv6, hm6⟩
      clear HTb
      obtain ⟨cqb, hkb⟩ := hB5a.kind
      have hM65 : Mod (fun b => b = qb) w5 w6 := (hAl5.mono (T := fun b => b = qb) (fun _ _ h => h.elim)).trans hm6 (fun _ _ h => h) (fun _ _ h => h)
      have hA6 := (hA5.mod hAl5 (fun _ _ h => h)).modq hB5a hne hm6
      have hT6 := (hT5.mod hAl5).modq hB5a hm6
      have ho56 := (ho5.mod hAl5 (fun _ _ h => h)).mod hm6 (fun b' hb' e => by
        obtain ⟨cc, hcc⟩ := (ho5.mod hAl5 (fun _ _ h => h)).kind hb'
        rw [e, hkb] at hcc
        simp at hcc)
      have hMA6 := hMA5.mod hm6 (fun e => by
        have h1 := hMA5.at'
        rw [e, hkb] at h1
        simp at h1)
      have hM6 : Mod (fun _ => False) w w6 := hM5.trans hM65 (fun _ _ h => h) (fun b' hb' e => by subst e; exact absurd hb' (Nat.not_lt.2 hqb))
      have hAl6 := (Mod.refl (fun _ => False) w6).alloc (.cells #[.int .i64 k, .int .i64 o, .int .i64 lf, .int .i64 i, .int .i64 p, .int .i64 ps, .int .i64 g, .bool s, .int .i64 st, .int .i64 rs, .int .i64 rr, .int .i64 sq, .slice an l.length cn] 40)
      have hMB := Bk.new w6 #[.int .i64 k, .int .i64 o, .int .i64 lf, .int .i64 i, .int .i64 p, .int .i64 ps, .int .i64 g, .bool s, .int .i64 st, .int .i64 rs, .int .i64 rr, .int .i64 sq, .slice an l.length cn] 40
      have hMA := hMA6.mod hAl6 (fun h => h)
      have hAW := hA6.mod hAl6 (fun _ _ h => h)
      have hBW := hB6.mod hAl6 (fun _ _ h => h)
      have hTW := hT6.mod hAl6
      have hoA := ho56.mod hAl6 (fun _ _ h => h)
      have hoB := ho6.mod hAl6 (fun _ _ h => h)
      have hMW := hM6.trans hAl6 (V := fun _ => False) (fun _ _ h => h) (fun _ _ h => h)
      clear hA5 hB5 hB5a hT5 hM5 hAl5 hMA5 hm6 hv6 hM65 hA6 hB6 hT6 ho56 ho5 ho6 hMA6 hM6 hAl6 hkb
      go_upto_region 20 with (fail)
      generalize w6.alloc (.cells #[.int .i64 k, .int .i64 o, .int .i64 lf, .int .i64 i, .int .i64 p, .int .i64 ps, .int .i64 g, .bool s, .int .i64 st, .int .i64 rs, .int .i64 rr, .int .i64 sq, .slice an l.length cn] 40) = W at *
      generalize w6.heap.size = mb at *
      generalize w5.heap.size = ma at *
      obtain ⟨ag, cg, eg, _, hfm⟩ := (hTW.mgs HD.out hMW).form
      cases eg
      obtain ⟨gb, ob, rfl, hcc⟩ := hfm (by intro e; rw [e] at hdt; cases hdt)
      obtain ⟨hsv, _⟩ := (hTW.mgs HD.out hMW).each _ (List.mem_of_getElem? hdt)
      replace hsv : Sl W dv l := hsv
      have hrg := hcc t _ hdt
      obtain ⟨av0, cv0, rfl, _⟩ := hsv.form
      obtain ⟨q0, q1, q2, q3, q4, q5, q6, q7, q8, q9, q10, q11, q12⟩ := range13 hrg
      have m0 : W.cell? ⟨ma, 0, none⟩ = some (.int .i64 k) := hMA.cellv (j := 0) rfl
      have m1 : W.cell? ⟨ma, 1, none⟩ = some (.int .i64 o) := hMA.cellv (j := 1) rfl
      have m2 : W.cell? ⟨ma, 2, none⟩ = some (.int .i64 lf) := hMA.cellv (j := 2) rfl
      have m3 : W.cell? ⟨ma, 3, none⟩ = some (.int .i64 i) := hMA.cellv (j := 3) rfl
      have m4 : W.cell? ⟨ma, 4, none⟩ = some (.int .i64 p) := hMA.cellv (j := 4) rfl
      have m5 : W.cell? ⟨ma, 5, none⟩ = some (.int .i64 ps) := hMA.cellv (j := 5) rfl
      have m6 : W.cell? ⟨ma, 6, none⟩ = some (.int .i64 g) := hMA.cellv (j := 6) rfl
      have m7 : W.cell? ⟨ma, 7, none⟩ = some (.bool s) := hMA.cellv (j := 7) rfl
      have m8 : W.cell? ⟨ma, 8, none⟩ = some (.int .i64 st) := hMA.cellv (j := 8) rfl
      have m9 : W.cell? ⟨ma, 9, none⟩ = some (.int .i64 rs) := hMA.cellv (j := 9) rfl
      have m10 : W.cell? ⟨ma, 10, none⟩ = some (.int .i64 rr) := hMA.cellv (j := 10) rfl
      have m11 : W.cell? ⟨ma, 11, none⟩ = some (.int .i64 sq) := hMA.cellv (j := 11) rfl
      have m12 : W.cell? ⟨ma, 12, none⟩ = some (.slice am l.length cm) := hMA.cellv (j := 12) rfl
      have n0 : W.cell? ⟨mb, 0, none⟩ = some (.int .i64 k) := hMB.cellv (j := 0) rfl
      have n1 : W.cell? ⟨mb, 1, none⟩ = some (.int .i64 o) := hMB.cellv (j := 1) rfl
      have n2 : W.cell? ⟨mb, 2, none⟩ = some (.int .i64 lf) := hMB.cellv (j := 2) rfl
      have n3 : W.cell? ⟨mb, 3, none⟩ = some (.int .i64 i) := hMB.cellv (j := 3) rfl
      have n4 : W.cell? ⟨mb, 4, none⟩ = some (.int .i64 p) := hMB.cellv (j := 4) rfl
      have n5 : W.cell? ⟨mb, 5, none⟩ = some (.int .i64 ps) := hMB.cellv (j := 5) rfl
      have n6 : W.cell? ⟨mb, 6, none⟩ = some (.int .i64 g) := hMB.cellv (j := 6) rfl
      have n7 : W.cell? ⟨mb, 7, none⟩ = some (.bool s) := hMB.cellv (j := 7) rfl
      have n8 : W.cell? ⟨mb, 8, none⟩ = some (.int .i64 st) := hMB.cellv (j := 8) rfl
      have n9 : W.cell? ⟨mb, 9, none⟩ = some (.int .i64 rs) := hMB.cellv (j := 9) rfl
      have n10 : W.cell? ⟨mb, 10, none⟩ = some (.int .i64 rr) := hMB.cellv (j := 10) rfl
      have n11 : W.cell? ⟨mb, 11, none⟩ = some (.int .i64 sq) := hMB.cellv (j := 11) rfl
      have n12 : W.cell? ⟨mb, 12, none⟩ = some (.slice an l.length cn) := hMB.cellv (j := 12) rfl
      have hDr := (Mod.refl (fun _ => False) W).drew
      have HS1 : Calls Try.prog 12 #[.agg #[.int .i64 k, .int .i64 o, .int .i64 lf, .int .i64 i, .int .i64 p, .int .i64 ps, .int .i64 g, .bool s, .int .i64 st, .int .i64 rs, .int .i64 rr, .int .i64 sq, .slice am l.length cm], .agg #[.int .i64 k, .int .i64 o, .int .i64 lf, .int .i64 i, .int .i64 p, .int .i64 ps, .int .i64 g, .bool s, .int .i64 st, .int .i64 rs, .int .i64 rr, .int .i64 sq, .slice an l.length cn]] W.drew fun e w' => ∃ r, e = .returned r ∧ (r = .bool true ∧ Mod (fun _ => False) W.drew w') := (Same_eq k o lf i p ps g s st rs rr sq am an cm cn l W.drew ((hoA.mod hDr (fun _ _ h => h)).sl hr5) ((hoB.mod hDr (fun _ _ h => h)).sl hr5)).mono fun e w' h => ⟨_, h.1, rfl, h.2⟩
      have HS2 : ∀ w7, Mod (fun _ => False) W w7 → Calls Try.prog 12 #[.agg #[.int .i64 k, .int .i64 o, .int .i64 lf, .int .i64 i, .int .i64 p, .int .i64 ps, .int .i64 g, .bool s, .int .i64 st, .int .i64 rs, .int .i64 rr, .int .i64 sq, .slice am l.length cm], .agg #[.int .i64 k, .int .i64 o, .int .i64 lf, .int .i64 i, .int .i64 p, .int .i64 ps, .int .i64 g, .bool s, .int .i64 st, .int .i64 rs, .int .i64 rr, .int .i64 sq, .slice av0 l.length cv0]] w7 fun e w' => ∃ r, e = .returned r ∧ (r = .bool true ∧ Mod (fun _ => False) w7 w') := fun w7 hm => (Same_eq k o lf i p ps g s st rs rr sq am av0 cm cv0 l w7 ((hoA.mod hm (fun _ _ h => h)).sl hr5) (hsv.mod hm (fun _ _ h => h))).mono fun e w' h => ⟨_, h.1, rfl, h.2⟩
      have HLn : ∀ w7, Mod (fun _ => False) W w7 → Calls Try.prog 16 #[.pointer (some ⟨qa, 0, none⟩)] w7 fun e w' => ∃ r, e = .returned r ∧ (r = .int .i64 (L2.length : Int) ∧ w' = w7) := fun w7 hm => (Len_q (hAW.mod hm (fun _ _ h => h))).mono fun e w' h => ⟨_, h.1, rfl, h.2⟩
      have htN : (t : Int) < (mds.length : Int) := by go_light; omega
      have e96 : (mds.length : Int) - 1 - (L2.length : Int) = (t : Int) := by go_light; omega
      have hLp : (L2.length : Int) ≤ (mds.length : Int) - 1 := by go_light; omega
      have ew1 : IntKind.i64.wrap ((mds.length : Int) - 1) = (mds.length : Int) - 1 := by rw [IntKind.wrap_i64]; go_light; omega
      have ew2 : IntKind.i64.wrap ((mds.length : Int) - 1 - (L2.length : Int)) = (t : Int) := by rw [e96, IntKind.wrap_i64]; go_light; omega
      have ewr : IntKind.i64.wrap (t : Int) = (t : Int) := by rw [IntKind.wrap_i64]; go_light; omega
      have ht0 : (0 : Int) ≤ (t : Int) := by go_light; omega
      clear e96 hLp
      have HAll : Hid ((∃ X, Qu W qa X L2) ∧ (∃ X, Qu W qb X L2) ∧ Tg w W (.slice (some ⟨gb, ob, none⟩) mds.length cb) ds mds ∧ Mod (fun _ => False) w W) := ⟨⟨_, hAW⟩, ⟨_, hBW⟩, hTW, hMW⟩
      have HTL : Hid (t < ms.length) := htl
      clear hAW hBW hTW hMW hoA hoB hsv hMA hMB hcc hfm hrg hdt hr5 hl2 htl ht
      go_cut [101] (fun s wx => s = .bool false ∧ Mod (fun _ => False) W wx)
      case first =>
        go_region_held3 (fun y => y.cell? ⟨ma, 0, none⟩ = some (.int .i64 k) ∧ y.cell? ⟨ma, 1, none⟩ = some (.int .i64 o) ∧ y.cell? ⟨ma, 2, none⟩ = some (.int .i64 lf) ∧ y.cell? ⟨ma, 3, none⟩ = some (.int .i64 i) ∧ y.cell? ⟨ma, 4, none⟩ = some (.int .i64 p) ∧ y.cell? ⟨ma, 5, none⟩ = some (.int .i64 ps) ∧ y.cell? ⟨ma, 6, none⟩ = some (.int .i64 g) ∧ y.cell? ⟨ma, 7, none⟩ = some (.bool s) ∧ y.cell? ⟨ma, 8, none⟩ = some (.int .i64 st) ∧ y.cell? ⟨ma, 9, none⟩ = some (.int .i64 rs) ∧ y.cell? ⟨ma, 10, none⟩ = some (.int .i64 rr) ∧ y.cell? ⟨ma, 11, none⟩ = some (.int .i64 sq) ∧ y.cell? ⟨ma, 12, none⟩ = some (.slice am l.length cm) ∧ y.cell? ⟨mb, 0, none⟩ = some (.int .i64 k) ∧ y.cell? ⟨mb, 1, none⟩ = some (.int .i64 o) ∧ y.cell? ⟨mb, 2, none⟩ = some (.int .i64 lf) ∧ y.cell? ⟨mb, 3, none⟩ = some (.int .i64 i) ∧ y.cell? ⟨mb, 4, none⟩ = some (.int .i64 p) ∧ y.cell? ⟨mb, 5, none⟩ = some (.int .i64 ps) ∧ y.cell? ⟨mb, 6, none⟩ = some (.int .i64 g) ∧ y.cell? ⟨mb, 7, none⟩ = some (.bool s) ∧ y.cell? ⟨mb, 8, none⟩ = some (.int .i64 st) ∧ y.cell? ⟨mb, 9, none⟩ = some (.int .i64 rs) ∧ y.cell? ⟨mb, 10, none⟩ = some (.int .i64 rr) ∧ y.cell? ⟨mb, 11, none⟩ = some (.int .i64 sq) ∧ y.cell? ⟨mb, 12, none⟩ = some (.slice an l.length cn) ∧ y.cell? ⟨gb, ob + t * 13, none⟩ = some (.int .i64 k) ∧ y.cell? ⟨gb, ob + t * 13 + 1, none⟩ = some (.int .i64 o) ∧ y.cell? ⟨gb, ob + t * 13 + 2, none⟩ = some (.int .i64 lf) ∧ y.cell? ⟨gb, ob + t * 13 + 3, none⟩ = some (.int .i64 i) ∧ y.cell? ⟨gb, ob + t * 13 + 4, none⟩ = some (.int .i64 p) ∧ y.cell? ⟨gb, ob + t * 13 + 5, none⟩ = some (.int .i64 ps) ∧ y.cell? ⟨gb, ob + t * 13 + 6, none⟩ = some (.int .i64 g) ∧ y.cell? ⟨gb, ob + t * 13 + 7, none⟩ = some (.bool s) ∧ y.cell? ⟨gb, ob + t * 13 + 8, none⟩ = some (.int .i64 st) ∧ y.cell? ⟨gb, ob + t * 13 + 9, none⟩ = some (.int .i64 rs) ∧ y.cell? ⟨gb, ob + t * 13 + 10, none⟩ = some (.int .i64 rr) ∧ y.cell? ⟨gb, ob + t * 13 + 11, none⟩ = some (.int .i64 sq) ∧ y.cell? ⟨gb, ob + t * 13 + 12, none⟩ = some (.slice av0 l.length cv0)) (first | with_reducible exact ⟨m0, m1, m2, m3, m4, m5, m6, m7, m8, m9, m10, m11, m12, n0, n1, n2, n3, n4, n5, n6, n7, n8, n9, n10, n11, n12, q0, q1, q2, q3, q4, q5, q6, q7, q8, q9, q10, q11, q12⟩ | go_keep) ((first
          | (go_at_call 12; first | (refine (HS2 _ hM7).mono ?_; rintro e w9 ⟨r, rfl, rfl, hm9⟩; have hM9 := hM7.trans hm9 (V := fun _ => False) (fun _ _ h => h) (fun _ _ h => h); replace m0 : w9.cell? ⟨ma, 0, none⟩ = some (.int .i64 k) := hm9.cell m0 (fun h => h); replace m1 : w9.cell? ⟨ma, 1, none⟩ = some (.int .i64 o) := hm9.cell m1 (fun h => h); replace m2 : w9.cell? ⟨ma, 2, none⟩ = some (.int .i64 lf) := hm9.cell m2 (fun h => h); replace m3 : w9.cell? ⟨ma, 3, none⟩ = some (.int .i64 i) := hm9.cell m3 (fun h => h); replace m4 : w9.cell? ⟨ma, 4, none⟩ = some (.int .i64 p) := hm9.cell m4 (fun h => h); replace m5 : w9.cell? ⟨ma, 5, none⟩ = some (.int .i64 ps) := hm9.cell m5 (fun h => h); replace m6 : w9.cell? ⟨ma, 6, none⟩ = some (.int .i64 g) := hm9.cell m6 (fun h => h); replace m7 : w9.cell? ⟨ma, 7, none⟩ = some (.bool s) := hm9.cell m7 (fun h => h); replace m8 : w9.cell? ⟨ma, 8, none⟩ = some (.int .i64 st) := hm9.cell m8 (fun h => h); replace m9 : w9.cell? ⟨ma, 9, none⟩ = some (.int .i64 rs) := hm9.cell m9 (fun h => h); replace m10 : w9.cell? ⟨ma, 10, none⟩ = some (.int .i64 rr) := hm9.cell m10 (fun h => h); replace m11 : w9.cell? ⟨ma, 11, none⟩ = some (.int .i64 sq) := hm9.cell m11 (fun h => h); replace m12 : w9.cell? ⟨ma, 12, none⟩ = some (.slice am l.length cm) := hm9.cell m12 (fun h => h); replace n0 : w9.cell? ⟨mb, 0, none⟩ = some (.int .i64 k) := hm9.cell n0 (fun h => h); replace n1 : w9.cell? ⟨mb, 1, none⟩ = some (.int .i64 o) := hm9.cell n1 (fun h => h); replace n2 : w9.cell? ⟨mb, 2, none⟩ = some (.int .i64 lf) := hm9.cell n2 (fun h => h); replace n3 : w9.cell? ⟨mb, 3, none⟩ = some (.int .i64 i) := hm9.cell n3 (fun h => h); replace n4 : w9.cell? ⟨mb, 4, none⟩ = some (.int .i64 p) := hm9.cell n4 (fun h => h); replace n5 : w9.cell? ⟨mb, 5, none⟩ = some (.int .i64 ps) := hm9.cell n5 (fun h => h); replace n6 : w9.cell? ⟨mb, 6, none⟩ = some (.int .i64 g) := hm9.cell n6 (fun h => h); replace n7 : w9.cell? ⟨mb, 7, none⟩ = some (.bool s) := hm9.cell n7 (fun h => h); replace n8 : w9.cell? ⟨mb, 8, none⟩ = some (.int .i64 st) := hm9.cell n8 (fun h => h); replace n9 : w9.cell? ⟨mb, 9, none⟩ = some (.int .i64 rs) := hm9.cell n9 (fun h => h); replace n10 : w9.cell? ⟨mb, 10, none⟩ = some (.int .i64 rr) := hm9.cell n10 (fun h => h); replace n11 : w9.cell? ⟨mb, 11, none⟩ = some (.int .i64 sq) := hm9.cell n11 (fun h => h); replace n12 : w9.cell? ⟨mb, 12, none⟩ = some (.slice an l.length cn) := hm9.cell n12 (fun h => h); replace q0 : w9.cell? ⟨gb, ob + t * 13, none⟩ = some (.int .i64 k) := hm9.cell q0 (fun h => h); replace q1 : w9.cell? ⟨gb, ob + t * 13 + 1, none⟩ = some (.int .i64 o) := hm9.cell q1 (fun h => h); replace q2 : w9.cell? ⟨gb, ob + t * 13 + 2, none⟩ = some (.int .i64 lf) := hm9.cell q2 (fun h => h); replace q3 : w9.cell? ⟨gb, ob + t * 13 + 3, none⟩ = some (.int .i64 i) := hm9.cell q3 (fun h => h); replace q4 : w9.cell? ⟨gb, ob + t * 13 + 4, none⟩ = some (.int .i64 p) := hm9.cell q4 (fun h => h); replace q5 : w9.cell? ⟨gb, ob + t * 13 + 5, none⟩ = some (.int .i64 ps) := hm9.cell q5 (fun h => h); replace q6 : w9.cell? ⟨gb, ob + t * 13 + 6, none⟩ = some (.int .i64 g) := hm9.cell q6 (fun h => h); replace q7 : w9.cell? ⟨gb, ob + t * 13 + 7, none⟩ = some (.bool s) := hm9.cell q7 (fun h => h); replace q8 : w9.cell? ⟨gb, ob + t * 13 + 8, none⟩ = some (.int .i64 st) := hm9.cell q8 (fun h => h); replace q9 : w9.cell? ⟨gb, ob + t * 13 + 9, none⟩ = some (.int .i64 rs) := hm9.cell q9 (fun h => h); replace q10 : w9.cell? ⟨gb, ob + t * 13 + 10, none⟩ = some (.int .i64 rr) := hm9.cell q10 (fun h => h); replace q11 : w9.cell? ⟨gb, ob + t * 13 + 11, none⟩ = some (.int .i64 sq) := hm9.cell q11 (fun h => h); replace q12 : w9.cell? ⟨gb, ob + t * 13 + 12, none⟩ = some (.slice av0 l.length cv0) := hm9.cell q12 (fun h => h)) | (refine HS1.mono ?_; rintro e w7 ⟨r, rfl, rfl, hm7⟩; have hM7 := hDr.trans hm7 (V := fun _ => False) (fun _ _ h => h) (fun _ _ h => h); replace m0 : w7.cell? ⟨ma, 0, none⟩ = some (.int .i64 k) := hm7.cell m0 (fun h => h); replace m1 : w7.cell? ⟨ma, 1, none⟩ = some (.int .i64 o) := hm7.cell m1 (fun h => h); replace m2 : w7.cell? ⟨ma, 2, none⟩ = some (.int .i64 lf) := hm7.cell m2 (fun h => h); replace m3 : w7.cell? ⟨ma, 3, none⟩ = some (.int .i64 i) := hm7.cell m3 (fun h => h); replace m4 : w7.cell? ⟨ma, 4, none⟩ = some (.int .i64 p) := hm7.cell m4 (fun h => h); replace m5 : w7.cell? ⟨ma, 5, none⟩ = some (.int .i64 ps) := hm7.cell m5 (fun h => h); replace m6 : w7.cell? ⟨ma, 6, none⟩ = some (.int .i64 g) := hm7.cell m6 (fun h => h); replace m7 : w7.cell? ⟨ma, 7, none⟩ = some (.bool s) := hm7.cell m7 (fun h => h); replace m8 : w7.cell? ⟨ma, 8, none⟩ = some (.int .i64 st) := hm7.cell m8 (fun h => h); replace m9 : w7.cell? ⟨ma, 9, none⟩ = some (.int .i64 rs) := hm7.cell m9 (fun h => h); replace m10 : w7.cell? ⟨ma, 10, none⟩ = some (.int .i64 rr) := hm7.cell m10 (fun h => h); replace m11 : w7.cell? ⟨ma, 11, none⟩ = some (.int .i64 sq) := hm7.cell m11 (fun h => h); replace m12 : w7.cell? ⟨ma, 12, none⟩ = some (.slice am l.length cm) := hm7.cell m12 (fun h => h); replace n0 : w7.cell? ⟨mb, 0, none⟩ = some (.int .i64 k) := hm7.cell n0 (fun h => h); replace n1 : w7.cell? ⟨mb, 1, none⟩ = some (.int .i64 o) := hm7.cell n1 (fun h => h); replace n2 : w7.cell? ⟨mb, 2, none⟩ = some (.int .i64 lf) := hm7.cell n2 (fun h => h); replace n3 : w7.cell? ⟨mb, 3, none⟩ = some (.int .i64 i) := hm7.cell n3 (fun h => h); replace n4 : w7.cell? ⟨mb, 4, none⟩ = some (.int .i64 p) := hm7.cell n4 (fun h => h); replace n5 : w7.cell? ⟨mb, 5, none⟩ = some (.int .i64 ps) := hm7.cell n5 (fun h => h); replace n6 : w7.cell? ⟨mb, 6, none⟩ = some (.int .i64 g) := hm7.cell n6 (fun h => h); replace n7 : w7.cell? ⟨mb, 7, none⟩ = some (.bool s) := hm7.cell n7 (fun h => h); replace n8 : w7.cell? ⟨mb, 8, none⟩ = some (.int .i64 st) := hm7.cell n8 (fun h => h); replace n9 : w7.cell? ⟨mb, 9, none⟩ = some (.int .i64 rs) := hm7.cell n9 (fun h => h); replace n10 : w7.cell? ⟨mb, 10, none⟩ = some (.int .i64 rr) := hm7.cell n10 (fun h => h); replace n11 : w7.cell? ⟨mb, 11, none⟩ = some (.int .i64 sq) := hm7.cell n11 (fun h => h); replace n12 : w7.cell? ⟨mb, 12, none⟩ = some (.slice an l.length cn) := hm7.cell n12 (fun h => h); replace q0 : w7.cell? ⟨gb, ob + t * 13, none⟩ = some (.int .i64 k) := hm7.cell q0 (fun h => h); replace q1 : w7.cell? ⟨gb, ob + t * 13 + 1, none⟩ = some (.int .i64 o) := hm7.cell q1 (fun h => h); replace q2 : w7.cell? ⟨gb, ob + t * 13 + 2, none⟩ = some (.int .i64 lf) := hm7.cell q2 (fun h => h); replace q3 : w7.cell? ⟨gb, ob + t * 13 + 3, none⟩ = some (.int .i64 i) := hm7.cell q3 (fun h => h); replace q4 : w7.cell? ⟨gb, ob + t * 13 + 4, none⟩ = some (.int .i64 p) := hm7.cell q4 (fun h => h); replace q5 : w7.cell? ⟨gb, ob + t * 13 + 5, none⟩ = some (.int .i64 ps) := hm7.cell q5 (fun h => h); replace q6 : w7.cell? ⟨gb, ob + t * 13 + 6, none⟩ = some (.int .i64 g) := hm7.cell q6 (fun h => h); replace q7 : w7.cell? ⟨gb, ob + t * 13 + 7, none⟩ = some (.bool s) := hm7.cell q7 (fun h => h); replace q8 : w7.cell? ⟨gb, ob + t * 13 + 8, none⟩ = some (.int .i64 st) := hm7.cell q8 (fun h => h); replace q9 : w7.cell? ⟨gb, ob + t * 13 + 9, none⟩ = some (.int .i64 rs) := hm7.cell q9 (fun h => h); replace q10 : w7.cell? ⟨gb, ob + t * 13 + 10, none⟩ = some (.int .i64 rr) := hm7.cell q10 (fun h => h); replace q11 : w7.cell? ⟨gb, ob + t * 13 + 11, none⟩ = some (.int .i64 sq) := hm7.cell q11 (fun h => h); replace q12 : w7.cell? ⟨gb, ob + t * 13 + 12, none⟩ = some (.slice av0 l.length cv0) := hm7.cell q12 (fun h => h)))
          | (go_at_call 16; refine (HLn _ hM7).mono ?_; rintro e w8 ⟨r, rfl, rfl, rfl⟩)))
        all_goals go_wp2_with (fail)
        all_goals go_meet
        all_goals exact ⟨rfl, hM9⟩
      case rest =>
      obtain ⟨e101, hm9⟩ := hcut
      subst e101
      generalize wc = w9 at *
      obtain ⟨⟨Xp, hAp⟩, ⟨Xq, hBq⟩, hTp, hMp⟩ := HAll.out
      have hA9 := hAp.mod hm9 (fun _ _ h => h)
      have HN : Hid ((∃ X, Qu w9 qa X (ms.drop (t + 1))) ∧ (∃ X, Qu w9 qb X (ms.drop (t + 1))) ∧ Tg w w9 (.slice (some ⟨gb, ob, none⟩) mds.length cb) ds mds ∧ Mod (fun _ => False) w w9 ∧ many w9 qa = L2.length) := by
        refine ⟨⟨Xp, ?_⟩, ⟨Xq, ?_⟩, hTp.mod hm9, hMp.trans hm9 (fun _ _ h => h) (fun _ _ h => h), hA9.many⟩
        · rw [← HLD.out]; exact hA9
        · rw [← HLD.out]; exact hBq.mod hm9 (fun _ _ h => h)
      clear hAp hBq hTp hMp hA9 hm9 HAll HS1 HS2 HLn m0 m1 m2 m3 m4 m5 m6 m7 m8 m9 m10 m11 m12 n0 n1 n2 n3 n4 n5 n6 n7 n8 n9 n10 n11 n12 q0 q1 q2 q3 q4 q5 q6 q7 q8 q9 q10 q11 q12 ew1 ew2 ewr ht0
      go_wp2_with (fail)
      go_roundw
      case rel => exact ⟨t + 1, HTL.out, HN.out.1, HN.out.2.1, HN.out.2.2.1, HN.out.2.2.2.1⟩
      case measure => rw [HMN.out, HN.out.2.2.2.2]; exact Nat.lt_succ_self _
namespace queueTogether
open Go.ChangeShapes Go.WideShapes Go.ChangeAt Go.RowKit
set_option maxRecDepth 100000 in
theorem lifted (os : Os) (started : os.Started) (H : Type) (enc : TypeId × Value → H) :
    ReturnsInHanded {} Try.checked os 5 .any (Rows.queueTogetherSpec.pre6 enc Try.prog Try.f5 Rows.queueTogetherRow.domain false) (Rows.queueTogetherSpec.post enc Try.prog Try.f5 false true false false) := by
  refine returnsInHanded_of_change_sized (C := Try.checked) own started (by kernel_rfl) Try.func5
    (ChangeSpec.witness6 (enc := enc) (C := Try.checked) false ⟨#[], #[.slice none 0 0], []⟩ 8 (by kernel_rfl) (by kernel_rfl) (by kernel_rfl) (by kernel_rfl)) ?_
  intro W base args ds gs before hval0 hW hcnd hsz0 _
  have hval : ∀ (j : Nat) t v, Try.f5.params[j]? = some t → args[j]? = some v → Value.okWide Try.prog W .any base t v := hval0
  have hsz : (DataW.weightsEach Try.prog (Try.f5.params.toList ++ Rows.queueTogetherSpec.plain.varTypes Try.prog) (ds ++ gs)).all (· ≤ reachBytes) = true := hsz0
  have hW' := hW
  obtain ⟨p, q, hA0, hV, rfl, hfz, hnd⟩ := hW
  have hA : DataW.TrodAll enc Try.prog W 0 (fun _ => true) true Try.f5.params.toList args.toList ds p := hA0
  rw [Try.params5] at hA hval hsz
  obtain ⟨v0, vs0, d0, ds0, p0, q0, hargs, rfl, rfl, h0, r0⟩ := trodAll_cons hA
  obtain ⟨rfl, rfl, rfl⟩ := trodAll_nil r0
  obtain rfl : args = #[v0] := by cases args; simp_all
  obtain ⟨rfl, rfl⟩ := trodVars_none hV
  have k0 := h0
  have lt0 : ∀ x ∈ p0, x.block < W.heap.size := by obtain ⟨m, hm⟩ := k0; exact DataW.trod_lt m _ _ _ hm
  obtain ⟨B0, hB0⟩ := open_msgs h0 (okWide_slice Try.underlying27 (hval 0 27 v0 rfl rfl)) (by
    rw [List.all_eq_true] at hsz
    intro n hn
    have := hsz n (DataW.weights_mem_each (t := 27) (j := 0) rfl rfl n hn)
    simpa using this)
  clear hA0 hval0
  refine (together_walk v0 B0 W hB0).mono fun e W' ⟨he, hm⟩ => ?_
  subst he
  have bel : Below W.heap.size W W' := hm.below _ (Nat.le_refl _) (fun _ h => h.elim)
  exact ⟨_, rfl, _, _, _, [], _, [], hW', trodAll_mk1 (shut_bool Try.underlying4 _), (trodAll_cons_mk (Below.trod laidOut (by kernel_rfl) (of_decide_eq_true (by kernel_rfl)) k0 bel lt0) trodAll_mk0), rfl, bel.frame _, fun h => by cases h⟩

theorem over : Rows.queueTogetherRow.holds Try.pinned (OpenSpec.ofChange Rows.queueTogetherSpec) :=
  OpenClaim.holds_of_wide 5 Try.f5 rfl rfl rfl rfl rfl rfl rfl ⟨rfl, rfl, rfl, rfl, rfl⟩ rfl rfl rfl rfl rfl (by kernel_rfl) Try.func5 (by kernel_rfl)
    (of_decide_eq_true (by kernel_rfl)) (by unfold Func.isWrapper; first | (rw [if_pos (by decide +kernel)]; kernel_rfl) | (rw [if_neg (by decide +kernel)]; exact ⟨rfl, rfl⟩))
    (fun os started H enc _ => lifted os started H enc)
end queueTogether
theorem queueTogether_holds : Rows.QueueTogetherSaid := queueTogether.over
end Go.Proofs.Ytcedlpjjldmpfaa
