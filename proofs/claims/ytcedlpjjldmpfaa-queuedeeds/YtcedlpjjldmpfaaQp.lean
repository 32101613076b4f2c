/- Contract of the document's Put. No conditions beyond sizes that a slice has. -/
import Derived.Test.YtcedlpjjldmpfaaQm
namespace Go.Proofs.Ytcedlpjjldmpfaa
open Go.RowKit
/-- The document's queue with one message more. -/
theorem Dq.push {w W w' : World} {p : Nat} {Y : Nat → Prop} {L : List Ms} {v v' mv : Value} {ds : List (Ms × Value)} {m : Ms} (h : Dq w p Y L v ds) (hW : Mod (fun _ => False) w W) (hr : RM w' v' (ds ++ [(m, mv)])) (ho : Own W mv m.body) (hg : ∀ c ∈ m.body, 0 ≤ c ∧ c ≤ 255) (hb : ∀ b, mv.ownBlock = some b → w.heap.size ≤ b)
    (hm : Mod (fun k => v.ownBlock = some k) W w') (hf : Fr W v v') (hL : L.length < 32) : (∃ Y', Dw (w'.setCell ⟨p, 0, none⟩ v') p Y' (L ++ [m]) ∧ (∀ b, Y' b → Y b ∨ w.heap.size ≤ b)) ∧ Mod Y w (w'.setCell ⟨p, 0, none⟩ v') := by
  have hW' := h.mod hW (fun _ _ h => h)
  have hneR : v.ownBlock ≠ some p := fun e => by
    obtain ⟨c, hc⟩ := hW'.row.kind e
    rw [hW'.blk.at'] at hc
    simp at hc
  have hB1 := hW'.blk.mod hm (fun e => hneR e)
  have hB2 := hB1.set 0 v'
  simp only [List.setIfInBounds_toArray, List.set_cons_zero] at hB2
  have hS := (Mod.refl (fun b => b = p) w').setCell ⟨p, 0, none⟩ v' (.inl rfl)
  have hneO : ∀ {l' : List Int} {u : Value}, Own w' u l' → ∀ b, u.ownBlock = some b → ¬ b = p := fun ho b hb e => by
    obtain ⟨c1, h1⟩ := ho.kind hb
    rw [e, hB1.at'] at h1
    simp at h1
  have hneV : ∀ b, v'.ownBlock = some b → ¬ b = p := fun b hb e => by
    obtain ⟨c1, h1⟩ := hr.kind hb
    rw [e, hB1.at'] at h1
    simp at h1
  have hM : Mod Y w (w'.setCell ⟨p, 0, none⟩ v') := (hW.trans hm (V := Y) (fun _ _ h => h.elim) (fun b _ e => h.new b e)).trans hS (fun _ _ h => h) (fun b _ e => by rw [e]; exact h.inY)
  refine ⟨⟨fun b => Y b ∨ (w.heap.size ≤ b ∧ b < (w'.setCell ⟨p, 0, none⟩ v').heap.size), ⟨v', ds ++ [(m, mv)], ⟨hB2, hr.mod hS hneV, by rw [List.map_append, h.ms]; rfl, fun d hd => ?_, fun b hb' => ?_, by rw [List.length_append]; simp; omega, .inl h.inY, fun b hb' => ?_⟩⟩, fun b hb' => hb'.imp id And.left⟩, hM⟩
  · rcases List.mem_append.1 hd with hd | hd
    · obtain ⟨a1, a2, a3⟩ := hW'.each d hd
      have a1' := a1.mod hm (fun g hg e => hW'.row.own_ne a1 hg e)
      exact ⟨a1'.mod hS (hneO a1'), a2, fun b hb => .inl (a3 b hb)⟩
    · rw [List.mem_singleton] at hd
      subst hd
      have a1' := ho.mod hm (fun g hg e => hW'.row.own_ne ho hg e)
      have a2' := a1'.mod hS (hneO a1')
      exact ⟨a2', hg, fun b hb' => .inr ⟨hb b hb', a2'.lt b hb'⟩⟩
  · rcases hf b hb' with h1 | h1
    · exact .inl (h.new b h1)
    · exact .inr ⟨Nat.le_trans hW.size h1, (hr.mod hS hneV).lt b hb'⟩
  · rcases hb' with hb' | hb'
    · exact Nat.lt_of_lt_of_le (h.lt b hb') hM.size
    · exact hb'.2
theorem dq_ne {w W : World} {p : Nat} {Y : Nat → Prop} {L : List Ms} {v : Value} {ds : List (Ms × Value)} (h : Dq w p Y L v ds) (hW : Mod (fun _ => False) w W) : ¬ v.ownBlock = some p := fun e => by
  have hW' := h.mod hW (fun _ _ h => h)
  obtain ⟨c, hc⟩ := hW'.row.kind e
  rw [hW'.blk.at'] at hc
  simp at hc
set_option maxRecDepth 100000 in
set_option maxHeartbeats 4000000 in
theorem dPut_any {w : World} {p : Nat} {Y : Nat → Prop} {L : List Ms} (h : Dw w p Y L) (va : Value) (es : List (Ms × Value)) (hD : Mgs w va es) (hfar : Far Y va es) : Calls Try.prog 11 #[.pointer (some ⟨p, 0, none⟩), va] w fun e w' => e = .returned (.int .i64 (pE L es)) ∧ (∃ Y', Dw w' p Y' (pL L es) ∧ (∀ b, Y' b → Y b ∨ w.heap.size ≤ b)) ∧ Mod Y w w' := by
  have HW : Hid (Dw w p Y L) := h
  have HD : Hid (Mgs w va es) := hD
  have HF : Hid (Far Y va es) := hfar
  obtain ⟨av, cv, rfl, hlen, hfm⟩ := hD.form
  have hlen' : (es.length : Int) ≤ 140737488355327 := by omega
  clear h hD hfar
  go_enter Try.func11, Try.ntmps11
  go_wp2_with (fail)
  go_loopw [5] (fun ci wr => ∃ (j : Nat), ci = .int .i64 (j : Int) ∧ j ≤ es.length ∧ Hid (∀ i d, i < j → es[i]? = some d → chk d.1 = 0) ∧ Mod (fun _ => False) w wr) (fun ci _ => es.length - (intOf ci).toNat)
  case atStart => exact ⟨0, rfl, Nat.zero_le _, fun i d h => absurd h (Nat.not_lt_zero _), Mod.refl _ w⟩
  case round =>
  obtain ⟨j, rfl, hj, HJ, hMr⟩ := hrel
  obtain ⟨wk, ewk⟩ : ∃ wk, wk = wr := ⟨_, rfl⟩
  subst ewk
  by_cases hjn : j < es.length
  · have hjn' : (j : Int) < (es.length : Int) := by go_light; omega
    have hjb' : (j : Int) < 140737488355327 := by go_light; omega
    obtain ⟨d, hdj⟩ : ∃ d, es[j]? = some d := ⟨es[j], List.getElem?_eq_getElem hjn⟩
    obtain ⟨b, off, rfl, hc⟩ := hfm (by intro e; rw [e] at hjn; exact absurd hjn (Nat.not_lt_zero _))
    have hrg := range_mod (hc j d hdj) hMr (fun h => h)
    have hsl := (HD.out.each d (List.mem_of_getElem? hdj)).1.mod hMr (fun _ _ h => h)
    have HDJ : Hid (es[j]? = some d) := hdj
    clear hdj hc hfm
    obtain ⟨⟨k, o, lf, i, pt, ps, g, s, st, rs, rr, sq, l⟩, dv⟩ := d
    replace hsl : Sl wk dv l := hsl
    obtain ⟨ao, cap, rfl, _⟩ := hsl.form
    obtain ⟨c0, c1, c2, c3, c4, c5, c6, c7, c8, c9, c10, c11, c12⟩ := range13 hrg
    have HC := dCheck k o lf i pt ps g s st rs rr sq ao cap l wk hsl
    clear hrg hsl
    by_cases hE : chk ⟨k, o, lf, i, pt, ps, g, s, st, rs, rr, sq, l⟩ = 0
    · rw [hE] at HC
      have HE : Hid (chk ⟨k, o, lf, i, pt, ps, g, s, st, rs, rr, sq, l⟩ = 0) := hE
      clear hE
      go_wp2_with (fail)
      refine HC.mono ?_
      rintro e w1 ⟨rfl, hm1⟩
      clear HC c0 c1 c2 c3 c4 c5 c6 c7 c8 c9 c10 c11 c12
      have HJ2 : Hid (∀ i d, i < j + 1 → es[i]? = some d → chk d.1 = 0) := by
        intro i' d' hi' hd'
        by_cases e : i' = j
        · subst e
          have q := HDJ.out
          rw [q] at hd'
          cases hd'
          exact HE.out
        · exact HJ.out i' d' (by omega) hd'
      go_wp2_with (fail)
      go_roundw
      case rel => exact ⟨j + 1, by go_num, hjn, HJ2, hMr.trans hm1 (fun _ _ h => h) (fun _ _ h => h)⟩
      case measure => simp [intOf]; go_light; omega
    · obtain ⟨E, eE⟩ : ∃ E, E = chk ⟨k, o, lf, i, pt, ps, g, s, st, rs, rr, sq, l⟩ := ⟨_, rfl⟩
      rw [← eE] at HC hE
      have HB : Hid (bd es = true) := bd_at HDJ.out (by rw [← eE]; exact hE)
      have e18 : (E != 0) = true := by simp [hE]
      clear hE eE
      go_wp2_with (fail)
      refine HC.mono ?_
      rintro e w1 ⟨rfl, hm1⟩
      clear HC c0 c1 c2 c3 c4 c5 c6 c7 c8 c9 c10 c11 c12
      go_wp2_with (fail)
      go_ret
      have e1 : pE L es = 2 := by unfold pE; rw [if_pos HB.out]
      have e2 : pL L es = L := by unfold pL; rw [if_neg (by rw [e1]; decide)]
      have hM1 := hMr.trans hm1 (V := fun _ => False) (fun _ _ h => h) (fun _ _ h => h)
      rw [e1, e2]
      exact ⟨rfl, ⟨Y, HW.out.mod hM1 (fun _ _ h => h), fun b hb => .inl hb⟩, hM1.mono (fun _ _ h => h.elim)⟩
  · have ej : j = es.length := by go_light; omega
    subst ej
    have HB : Hid (bd es = false) := bd_none (fun i d h => HJ.out i d (by
      rcases Nat.lt_or_ge i es.length with h' | h'
      · exact h'
      · rw [List.getElem?_eq_none h'] at h; cases h) h)
    have HR := dRoom13 (HW.out.mod hMr (fun _ _ h => h))
    have hl32 : (L.length : Int) ≤ 32 := by obtain ⟨v, ds, h⟩ := HW.out; have := h.l32; go_light; omega
    clear hj hjn HJ
    by_cases hf : 32 < L.length + es.length
    · have hf' : 32 - (L.length : Int) < (es.length : Int) := by go_light; omega
      go_wp2_with (fail)
      refine HR.mono ?_
      rintro e wk ⟨rfl, rfl⟩
      go_wp2_with (fail)
      go_ret
      have e1 : pE L es = 7 := by unfold pE; rw [if_neg (by rw [HB.out]; decide), if_pos hf]
      have e2 : pL L es = L := by unfold pL; rw [if_neg (by rw [e1]; decide)]
      rw [e1, e2]
      exact ⟨rfl, ⟨Y, HW.out.mod hMr (fun _ _ h => h), fun b hb => .inl hb⟩, hMr.mono (fun _ _ h => h.elim)⟩
    · have hf' : ¬ 32 - (L.length : Int) < (es.length : Int) := by go_light; omega
      have HE : Hid (pE L es = 0 ∧ pL L es = L ++ es.map (·.1)) := by
        have e1 : pE L es = 0 := by unfold pE; rw [if_neg (by rw [HB.out]; decide), if_neg hf]
        exact ⟨e1, by unfold pL; rw [if_pos e1]⟩
      have hDk := HW.out.mod hMr (fun _ _ h => h)
      go_wp2_with (fail)
      refine HR.mono ?_
      rintro e wk ⟨rfl, rfl⟩
      clear HR
      go_wp2_with (fail)
      go_loopw [6] (fun ci wr => ∃ (j : Nat), ci = .int .i64 (j : Int) ∧ j ≤ es.length ∧ (∃ Y', Dw wr p Y' (L ++ (es.take j).map (·.1)) ∧ (∀ b, Y' b → Y b ∨ w.heap.size ≤ b)) ∧ Mod Y w wr) (fun ci _ => es.length - (intOf ci).toNat)
      case atStart => exact ⟨0, rfl, Nat.zero_le _, ⟨Y, by simpa using hDk, fun b hb => .inl hb⟩, hMr.mono (fun _ _ h => h.elim)⟩
      case round =>
      clear hDk hMr
      obtain ⟨j, rfl, hj, ⟨Y', hDw, hY'⟩, hMr⟩ := hrel
      obtain ⟨wk, ewk⟩ : ∃ wk, wk = wr := ⟨_, rfl⟩
      subst ewk
      by_cases hjn : j < es.length
      · have hjn' : (j : Int) < (es.length : Int) := by go_light; omega
        have hjb' : (j : Int) < 140737488355327 := by go_light; omega
        obtain ⟨d, hdj⟩ : ∃ d, es[j]? = some d := ⟨es[j], List.getElem?_eq_getElem hjn⟩
        have hDr := HD.out.mod2 hMr HF.out
        obtain ⟨av', cv', e, _, hfm2⟩ := hDr.form
        cases e
        obtain ⟨b, off, rfl, hc⟩ := hfm2 (by intro e; rw [e] at hjn; exact absurd hjn (Nat.not_lt_zero _))
        have hrg := hc j d hdj
        obtain ⟨hsl, hbl⟩ := hDr.each d (List.mem_of_getElem? hdj)
        have HDJ : Hid (es[j]? = some d) := hdj
        clear hdj hc hfm2 hDr hfm
        obtain ⟨⟨k, o, lf, i, pt, ps, g, s, st, rs, rr, sq, l⟩, dv⟩ := d
        replace hsl : Sl wk dv l := hsl
        replace hbl : l.length ≤ 140737488355328 := hbl
        obtain ⟨ao, cap, rfl, _⟩ := hsl.form
        obtain ⟨c0, c1, c2, c3, c4, c5, c6, c7, c8, c9, c10, c11, c12⟩ := range13 hrg
        obtain ⟨v, ds, hQ⟩ := hDw
        obtain ⟨n, en⟩ : ∃ n, n = ds.length := ⟨_, rfl⟩
        obtain ⟨ab, cb, eb⟩ := hQ.row.shape
        rw [← en] at eb
        subst eb
        have p0 : wk.cell? ⟨p, 0, none⟩ = some (.slice ab n cb) := hQ.blk.cellv (j := 0) rfl
        have hn32 : n < 32 := by rw [en, hQ.len, List.length_append, List.length_map, List.length_take]; go_light; omega
        have hdr := (Mod.refl (fun _ => False) wk).drew
        have HC : Calls Try.prog 24 #[.agg #[.int .i64 k, .int .i64 o, .int .i64 lf, .int .i64 i, .int .i64 pt, .int .i64 ps, .int .i64 g, .bool s, .int .i64 st, .int .i64 rs, .int .i64 rr, .int .i64 sq, .slice ao l.length cap]] wk.drew fun e w' => ∃ r, e = .returned r ∧ (∃ a1 k1, r = .agg #[.int .i64 k, .int .i64 o, .int .i64 lf, .int .i64 i, .int .i64 pt, .int .i64 ps, .int .i64 g, .bool s, .int .i64 st, .int .i64 rs, .int .i64 rr, .int .i64 sq, .slice a1 l.length k1] ∧ Own w' (.slice a1 l.length k1) l ∧ Mod (fun _ => False) wk.drew w' ∧ (∀ b, (Value.slice a1 l.length k1).ownBlock = some b → wk.heap.size ≤ b)) := (dCopy k o lf i pt ps g s st rs rr sq ao cap l wk.drew (hsl.mod hdr (fun _ _ h => h)) hbl).mono fun e w' ⟨a1, k1, h1, h2, h3, h4⟩ => ⟨_, h1, a1, k1, rfl, h2, h3, h4⟩
        have HQ : Hid (Dq wk p Y' (L ++ (es.take j).map (·.1)) (.slice ab n cb) ds) := hQ
        have HN : Hid (n = ds.length) := en
        have HRG : Hid (∀ c ∈ l, 0 ≤ c ∧ c ≤ 255) := hsl.rng
        have HLL : Hid ((L ++ (es.take j).map (·.1)).length < 32) := by show _ < _; rw [← hQ.len, ← en]; exact hn32
        go_upto_region 11 with (fail)
        clear hQ en hsl hbl hrg
        go_region_law (first
            | (refine step_c1 (fun args w => by simp [go_sem]) (by rfl) _ (by rfl) (by rfl) _ (by rfl) _ HC ?_; rintro r w1 ⟨a1, k1, rfl, ho1, hm1, hb1⟩; have hMk1 := hdr.trans hm1 (V := fun _ => False) (fun _ _ h => h) (fun _ _ h => h); replace p0 : w1.cell? ⟨p, 0, none⟩ = some (.slice ab n cb) := hm1.cell p0 (fun h => h); have p1 : (w1.alloc (.cells #[.int .i64 k, .int .i64 o, .int .i64 lf, .int .i64 i, .int .i64 pt, .int .i64 ps, .int .i64 g, .bool s, .int .i64 st, .int .i64 rs, .int .i64 rr, .int .i64 sq, .slice a1 l.length k1] 40)).cell? ⟨p, 0, none⟩ = some (.slice ab n cb) := ((Mod.refl (fun _ => False) w1).alloc _).cell p0 (fun h => h))
            | (refine step_appM (by rfl) _ _ (by rfl) (.slice ab n cb) (.slice (some ⟨w1.heap.size, 0, none⟩) 1 1) ds [(⟨k, o, lf, i, pt, ps, g, s, st, rs, rr, sq, l⟩, .slice a1 l.length k1)] (by rfl) (by rfl) ((HQ.out.row.mod hMk1 (fun _ _ h => h)).mod ((Mod.refl (fun _ => False) w1).alloc _) (fun _ _ h => h)) (Sc.lit w1 ⟨k, o, lf, i, pt, ps, g, s, st, rs, rr, sq, l⟩ (.slice a1 l.length k1) rfl) (by rw [← HN.out]; simp only [List.length_cons, List.length_nil]; go_light; omega) (n + 1) (by rw [HN.out]; rfl) ?_; intro ax cx w3 hr3 hm3 hf3; have hA1 := (Mod.refl (fun _ => False) w1).alloc (.cells #[.int .i64 k, .int .i64 o, .int .i64 lf, .int .i64 i, .int .i64 pt, .int .i64 ps, .int .i64 g, .bool s, .int .i64 st, .int .i64 rs, .int .i64 rr, .int .i64 sq, .slice a1 l.length k1] 40); have hMk2 := hMk1.trans hA1 (V := fun _ => False) (fun _ _ h => h) (fun _ _ h => h); have hpush := HQ.out.push hMk2 hr3 (ho1.mod hA1 (fun _ _ h => h)) HRG.out hb1 hm3 hf3 HLL.out; have hBp := (HQ.out.blk.mod hMk2 (fun h => h)).mod hm3 (dq_ne HQ.out hMk2); have t0 : w3.cell? ⟨p, 0, none⟩ = some (.slice ab n cb) := hBp.cellv (j := 0) rfl; have z0 : w3.frozen? ⟨p, 0, none⟩ = false := hBp.frz 0))
        all_goals
          obtain ⟨⟨Y2, hD2, hY2⟩, hm2⟩ := hpush
          have HN2 : Hid (Dw (w3.setCell ⟨p, 0, none⟩ (.slice ax (n + 1) cx)) p Y2 (L ++ (es.take (j + 1)).map (·.1))) := by
            show Dw _ _ _ _
            rw [List.take_add_one, HDJ.out, Option.toList_some, List.map_append, ← List.append_assoc]
            exact hD2
          have HY2 : Hid (∀ b, Y2 b → Y b ∨ w.heap.size ≤ b) := fun b hb => by
            rcases hY2 b hb with h | h
            · exact hY' b h
            · exact .inr (Nat.le_trans hMr.size h)
          have HM2 : Hid (Mod Y w (w3.setCell ⟨p, 0, none⟩ (.slice ax (n + 1) cx))) := hMr.trans hm2 (fun _ _ h => h) (fun b hb h => by
            rcases hY' b h with h' | h'
            · exact h'
            · exact absurd hb (Nat.not_lt.2 h'))
          clear hD2 hY2 hm2 hMr hY' p0 p1 HC HQ hdr hr3 hm3 hf3 hA1 hMk1 hMk2 hBp t0 z0 ho1 hm1 hb1
          go_wp2_with (fail)
          go_roundw
          (case rel => exact ⟨j + 1, by go_num, hjn, ⟨_, HN2.out, HY2.out⟩, HM2.out⟩)
          (case measure => simp [intOf]; go_light; omega)
      · have ej : j = es.length := by go_light; omega
        subst ej
        rw [List.take_length] at hDw
        go_wp2_with (fail)
        go_ret
        rw [HE.out.1, HE.out.2]
        exact ⟨rfl, ⟨Y', hDw, hY'⟩, hMr⟩
end Go.Proofs.Ytcedlpjjldmpfaa
