/- QueueDeeds: queues are as the chapter says, of all deeds. No conditions beyond sizes that a slice has. -/
import Derived.Test.YtcedlpjjldmpfaaQp
import Derived.Test.YtcedlpjjldmpfaaQn
import Derived.Test.YtcedlpjjldmpfaaQi
import Derived.Test.YtcedlpjjldmpfaaRows
import Derived.ProofKit
import Derived.OpenShut
import Derived.Deep.Slices
import Derived.Deep.Strs
import Derived.Lib.SmallJoins
import Derived.SizedLaws
namespace Go.Proofs.Ytcedlpjjldmpfaa
open Go.RowKit
/-- The program's queue, the document's, and another one, side by side. -/
structure De (w wr : World) (qa pb qo : Nat) (La Lb M : List Ms) (Xa Yb Xo : Nat → Prop) : Prop where
  a : Qu wr qa Xa La
  b : Dw wr pb Yb Lb
  o : Qu wr qo Xo M
  ab : ∀ x, Xa x → ¬ Yb x
  ao : ∀ x, Xa x → ¬ Xo x
  bo : ∀ x, Yb x → ¬ Xo x
  na : ∀ x, Xa x → w.heap.size ≤ x
  nb : ∀ x, Yb x → w.heap.size ≤ x
  no : ∀ x, Xo x → w.heap.size ≤ x
  mod : Mod (fun _ => False) w wr
  sz : ∀ m ∈ La, m.body.length ≤ 140737488355328
theorem De.quiet {S : Nat → Prop} {w wr w' : World} {qa pb qo : Nat} {La Lb M : List Ms} {Xa Yb Xo : Nat → Prop} (h : De w wr qa pb qo La Lb M Xa Yb Xo) (hm : Mod S wr w') (hS : ∀ b, S b → ¬ Xa b ∧ ¬ Yb b ∧ ¬ Xo b ∧ w.heap.size ≤ b) : De w w' qa pb qo La Lb M Xa Yb Xo :=
  ⟨h.a.mod hm (fun b hb hs => (hS b hs).1 hb), h.b.mod hm (fun b hb hs => (hS b hs).2.1 hb), h.o.mod hm (fun b hb hs => (hS b hs).2.2.1 hb), h.ab, h.ao, h.bo, h.na, h.nb, h.no, h.mod.trans hm (fun _ _ h => h) (fun b hb hs => absurd hb (Nat.not_lt.2 (hS b hs).2.2.2)), h.sz⟩
theorem De.still {w wr w' : World} {qa pb qo : Nat} {La Lb M : List Ms} {Xa Yb Xo : Nat → Prop} (h : De w wr qa pb qo La Lb M Xa Yb Xo) (hm : Mod (fun _ => False) wr w') : De w w' qa pb qo La Lb M Xa Yb Xo := h.quiet hm fun _ h => h.elim
theorem De.putA {w wr w' : World} {qa pb qo : Nat} {La Lb M L' : List Ms} {Xa Yb Xo X' : Nat → Prop} (h : De w wr qa pb qo La Lb M Xa Yb Xo) (hq : Qu w' qa X' L') (hX : ∀ b, X' b → Xa b ∨ wr.heap.size ≤ b) (hm : Mod (fun b => b = qa) wr w') (hs : ∀ m ∈ L', m.body.length ≤ 140737488355328) : De w w' qa pb qo L' Lb M X' Yb Xo :=
  ⟨hq, h.b.mod hm (fun b hb e => by rw [e] at hb; exact h.ab qa h.a.inX hb), h.o.mod hm (fun b hb e => by rw [e] at hb; exact h.ao qa h.a.inX hb),
    fun x hx hy => (hX x hx).elim (fun h1 => h.ab x h1 hy) (fun h1 => absurd (h.b.lt x hy) (Nat.not_lt.2 h1)),
    fun x hx hy => (hX x hx).elim (fun h1 => h.ao x h1 hy) (fun h1 => absurd (h.o.lt x hy) (Nat.not_lt.2 h1)), h.bo,
    fun x hx => (hX x hx).elim (h.na x) (fun h1 => Nat.le_trans h.mod.size h1), h.nb, h.no,
    h.mod.trans hm (fun _ _ h => h) (fun b hb e => by rw [e] at hb; exact absurd hb (Nat.not_lt.2 (h.na qa h.a.inX))), hs⟩
theorem De.putB {w wr w' : World} {qa pb qo : Nat} {La Lb M L' : List Ms} {Xa Yb Xo Y' : Nat → Prop} (h : De w wr qa pb qo La Lb M Xa Yb Xo) (hq : Dw w' pb Y' L') (hX : ∀ b, Y' b → Yb b ∨ wr.heap.size ≤ b) (hm : Mod Yb wr w') : De w w' qa pb qo La L' M Xa Y' Xo :=
  ⟨h.a.mod hm (fun b hb e => h.ab b hb e), hq, h.o.mod hm (fun b hb e => h.bo b e hb),
    fun x hx hy => (hX x hy).elim (fun h1 => h.ab x hx h1) (fun h1 => absurd (h.a.lt x hx) (Nat.not_lt.2 h1)), h.ao,
    fun x hx hy => (hX x hx).elim (fun h1 => h.bo x h1 hy) (fun h1 => absurd (h.o.lt x hy) (Nat.not_lt.2 h1)), h.na,
    fun x hx => (hX x hx).elim (h.nb x) (fun h1 => Nat.le_trans h.mod.size h1), h.no,
    h.mod.trans hm (fun _ _ h => h) (fun b hb e => absurd hb (Nat.not_lt.2 (h.nb b e))), h.sz⟩
theorem De.putO {w wr w' : World} {qa pb qo : Nat} {La Lb M L' : List Ms} {Xa Yb Xo X' : Nat → Prop} (h : De w wr qa pb qo La Lb M Xa Yb Xo) (hq : Qu w' qo X' L') (hX : ∀ b, X' b → Xo b ∨ wr.heap.size ≤ b) (hm : Mod (fun b => b = qo) wr w') : De w w' qa pb qo La Lb L' Xa Yb X' :=
  ⟨h.a.mod hm (fun b hb e => by rw [e] at hb; exact h.ao qo hb h.o.inX), h.b.mod hm (fun b hb e => by rw [e] at hb; exact h.bo qo hb h.o.inX), hq, h.ab,
    fun x hx hy => (hX x hy).elim (fun h1 => h.ao x hx h1) (fun h1 => absurd (h.a.lt x hx) (Nat.not_lt.2 h1)),
    fun x hx hy => (hX x hy).elim (fun h1 => h.bo x hx h1) (fun h1 => absurd (h.b.lt x hx) (Nat.not_lt.2 h1)), h.na, h.nb,
    fun x hx => (hX x hx).elim (h.no x) (fun h1 => Nat.le_trans h.mod.size h1),
    h.mod.trans hm (fun _ _ h => h) (fun b hb e => by rw [e] at hb; exact absurd hb (Nat.not_lt.2 (h.no qo h.o.inX))), h.sz⟩
theorem bd_map {ds cs : List (Ms × Value)} (h : cs.map (·.1) = ds.map (·.1)) : bd cs = bd ds := by
  have e : ∀ l : List (Ms × Value), bd l = (l.map (·.1)).any fun m => decide (chk m ≠ 0) := fun l => by unfold bd; rw [List.any_map]; rfl
  rw [e, e, h]
theorem pE_map {L : List Ms} {ds cs : List (Ms × Value)} (h : cs.map (·.1) = ds.map (·.1)) : pE L cs = pE L ds := by
  unfold pE
  have : cs.length = ds.length := by have := congrArg List.length h; simpa using this
  rw [bd_map h, this]
theorem pL_map {L : List Ms} {ds cs : List (Ms × Value)} (h : cs.map (·.1) = ds.map (·.1)) : pL L cs = pL L ds := by
  unfold pL
  rw [pE_map h, h]
theorem Dds.at' {w : World} {b off : Nat} {es : List (Value × Int × List (Ms × Value))} {j : Nat} {e : Value × Int × List (Ms × Value)} (hc : ∀ i e, es[i]? = some e → w.cell? ⟨b, off + i * 2, none⟩ = some e.1 ∧ w.cell? ⟨b, off + i * 2 + 1, none⟩ = some (.int .i64 e.2.1)) (he : es[j]? = some e) {W : World} (hm : Mod (fun _ => False) w W) : W.cell? ⟨b, off + j * 2, none⟩ = some e.1 ∧ W.cell? ⟨b, off + j * 2 + 1, none⟩ = some (.int .i64 e.2.1) :=
  ⟨hm.cell (hc j e he).1 (fun h => h), hm.cell (hc j e he).2 (fun h => h)⟩
theorem Sp.lit (w : World) (m : Ms) (v : Value) (ho : Own w v m.body) (hl : m.body.length ≤ 140737488355328) : Sp (w.alloc (.cells (mcl m v).toArray 40)) (.slice (some ⟨w.heap.size, 0, none⟩) 1 1) [(m, v)] := by
  refine ⟨⟨some ⟨w.heap.size, 0, none⟩, 1, rfl, by simp, fun _ => ⟨w.heap.size, 0, _, rfl, Bk.new w (mcl m v).toArray 40, by simp [mcl], fun i d hd => ?_⟩⟩, fun d hd => ?_⟩
  · have hi : i = 0 := by
      rcases Nat.eq_zero_or_pos i with h | h
      · exact h
      · rw [List.getElem?_eq_none (by simp; omega)] at hd; cases hd
    subst hi
    simp only [List.getElem?_cons_zero, Option.some.injEq] at hd
    subst hd
    simp [mcl]
  · rw [List.mem_singleton] at hd
    subst hd
    refine ⟨hl, ?_⟩
    obtain ⟨ao, cap, e⟩ := ho.shape
    refine ⟨ao, cap, e, fun hp => ?_⟩
    obtain ⟨g, c, e2, _⟩ := ho.form hp
    rw [e] at e2
    cases e2
    exact ⟨g, rfl, (ho.by (by rw [e]; rfl)).mod ((Mod.refl (fun _ => False) w).alloc _) (fun h => h)⟩
/-- What Take's error is. -/
def er (L : List Ms) : Int := if L.length = 0 then 8 else 0
theorem Take_u {w : World} {q : Nat} {X : Nat → Prop} {L : List Ms} (h : Qu w q X L) (k o lf i p ps g : Int) (s : Bool) (st rs rr sq : Int) (l : List Int) (hh : L.headD ⟨0, 0, 0, 0, 0, 0, 0, false, 0, 0, 0, 0, []⟩ = ⟨k, o, lf, i, p, ps, g, s, st, rs, rr, sq, l⟩) : Calls Try.prog 14 #[.pointer (some ⟨q, 0, none⟩)] w fun e w' => ∃ ao cap, e = .returned (.tuple #[.agg #[.int .i64 k, .int .i64 o, .int .i64 lf, .int .i64 i, .int .i64 p, .int .i64 ps, .int .i64 g, .bool s, .int .i64 st, .int .i64 rs, .int .i64 rr, .int .i64 sq, .slice ao l.length cap], .int .i64 (er L)]) ∧ Own w' (.slice ao l.length cap) l ∧ (∀ c ∈ l, 0 ≤ c ∧ c ≤ 255) ∧ (∃ X', Qu w' q X' L.tail ∧ (∀ b, X' b → X b) ∧ (∀ b, (Value.slice ao l.length cap).ownBlock = some b → X b ∧ ¬ X' b)) ∧ Mod (fun b => b = q) w w' := by
  cases L with
  | nil =>
    simp only [List.headD_nil, Ms.mk.injEq] at hh
    obtain ⟨rfl, rfl, rfl, rfl, rfl, rfl, rfl, rfl, rfl, rfl, rfl, rfl, rfl⟩ := hh
    refine (Take_empty h).mono ?_
    rintro e w' ⟨rfl, hm⟩
    exact ⟨none, 0, rfl, Own.nil _, by simp, ⟨X, h.mod hm (fun _ _ h => h), fun _ h => h, by simp [Value.ownBlock]⟩, hm.mono (fun _ _ h => h.elim)⟩
  | cons m L' =>
    simp only [List.headD_cons] at hh
    subst hh
    refine (Take_some k o lf i p ps g s st rs rr sq l h).mono ?_
    rintro e w' ⟨ao, cap, rfl, h1, h2, h3, h4, h5⟩
    exact ⟨ao, cap, by simp [er], h1, h2, ⟨_, h3, fun _ h => h.1, fun b hb => ⟨(h4 b hb).1, fun h => h.2 hb⟩⟩, h5⟩
theorem dTake_u {w : World} {q : Nat} {Y : Nat → Prop} {L : List Ms} (h : Dw w q Y L) (k o lf i p ps g : Int) (s : Bool) (st rs rr sq : Int) (l : List Int) (hh : L.headD ⟨0, 0, 0, 0, 0, 0, 0, false, 0, 0, 0, 0, []⟩ = ⟨k, o, lf, i, p, ps, g, s, st, rs, rr, sq, l⟩) : Calls Try.prog 15 #[.pointer (some ⟨q, 0, none⟩)] w fun e w' => ∃ ao cap, e = .returned (.tuple #[.agg #[.int .i64 k, .int .i64 o, .int .i64 lf, .int .i64 i, .int .i64 p, .int .i64 ps, .int .i64 g, .bool s, .int .i64 st, .int .i64 rs, .int .i64 rr, .int .i64 sq, .slice ao l.length cap], .int .i64 (er L)]) ∧ Own w' (.slice ao l.length cap) l ∧ Dw w' q Y L.tail ∧ Mod (fun b => b = q) w w' := by
  cases L with
  | nil =>
    simp only [List.headD_nil, Ms.mk.injEq] at hh
    obtain ⟨rfl, rfl, rfl, rfl, rfl, rfl, rfl, rfl, rfl, rfl, rfl, rfl, rfl⟩ := hh
    refine (dTake_empty h).mono ?_
    rintro e w' ⟨rfl, hm⟩
    exact ⟨none, 0, rfl, Own.nil _, h.mod hm (fun _ _ h => h), hm.mono (fun _ _ h => h.elim)⟩
  | cons m L' =>
    simp only [List.headD_cons] at hh
    subst hh
    refine (dTake_some k o lf i p ps g s st rs rr sq l h).mono ?_
    rintro e w' ⟨ao, cap, rfl, h1, h3, h5, _⟩
    exact ⟨ao, cap, by simp [er], h1, h3, h5⟩
set_option maxRecDepth 100000 in
set_option maxHeartbeats 16000000 in
theorem deeds_walk (va : Value) (es : List (Value × Int × List (Ms × Value))) (w : World) (hD : Dds w va es) : Calls Try.prog 3 #[va] w fun e w' => e = .returned (.bool true) ∧ Mod (fun _ => False) w w' := by
  obtain ⟨av, cv, rfl, hlen, hfm⟩ := hD.form
  have hlen' : (es.length : Int) ≤ 9223372036854775807 := by simp only [maxLen] at hlen; omega
  go_enter Try.func3, Try.ntmps3
  go_wp2_with (fail)
  refine (qNew w).mono ?_
  rintro e w1 ⟨qa, Xa, rfl, hA1, hm1, hXa⟩
  go_wp2_with (fail)
  refine (dNew13 w1).mono ?_
  rintro e w2 ⟨pb, Yb, rfl, hB2, hm2, hYb⟩
  go_wp2_with (fail)
  refine (qNew w2).mono ?_
  rintro e w3 ⟨qo, Xo, rfl, hO3, hm3, hXo⟩
  have hE3 : De w w3 qa pb qo [] [] [] Xa Yb Xo := by
    have hA2 := hA1.mod hm2 (fun _ _ h => h)
    refine ⟨hA2.mod hm3 (fun _ _ h => h), hB2.mod hm3 (fun _ _ h => h), hO3, fun x hx hy => absurd (hA1.lt x hx) (Nat.not_lt.2 (hYb x hy)), fun x hx hy => absurd (hA2.lt x hx) (Nat.not_lt.2 (hXo x hy)), fun x hx hy => absurd (hB2.lt x hx) (Nat.not_lt.2 (hXo x hy)), hXa, fun x hx => Nat.le_trans hm1.size (hYb x hx), fun x hx => Nat.le_trans (Nat.le_trans hm1.size hm2.size) (hXo x hx), (hm1.trans hm2 (V := fun _ => False) (fun _ _ h => h) (fun _ _ h => h)).trans hm3 (fun _ _ h => h) (fun _ _ h => h), by simp⟩
  clear hA1 hB2 hO3 hm1 hm2 hm3 hXa hYb hXo
  go_wp2_with (fail)
  go_loopw [6, 7, 8, 9, 10, 11, 12, 13] (fun ci _ _ _ _ _ _ _ wr => ∃ (j : Nat) (L M : List Ms) (Xa Yb Xo : Nat → Prop), ci = .int .i64 (j : Int) ∧ j ≤ es.length ∧ De w wr qa pb qo L L M Xa Yb Xo) (fun ci _ _ _ _ _ _ _ _ => es.length - (intOf ci).toNat)
  case atStart => exact ⟨0, [], [], Xa, Yb, Xo, rfl, Nat.zero_le _, hE3⟩
  case round =>
  clear hE3
  obtain ⟨j, L, Mo, Xa, Yb, Xo, rfl, hj, hE⟩ := hrel
  obtain ⟨wk, ewk⟩ : ∃ wk, wk = wr := ⟨_, rfl⟩
  subst ewk
  by_cases hjn : j < es.length
  · have hjn' : (j : Int) < (es.length : Int) := by go_light; omega
    obtain ⟨d, hdj⟩ : ∃ d, es[j]? = some d := ⟨es[j], List.getElem?_eq_getElem hjn⟩
    obtain ⟨b, off, rfl, hc⟩ := hfm (by intro e; rw [e] at hjn; exact absurd hjn (Nat.not_lt_zero _))
    obtain ⟨hG, ht1, ht2⟩ := hD.each d (List.mem_of_getElem? hdj)
    have HD : Hid (∀ W, Mod (fun _ => False) w W → W.cell? ⟨b, off + j * 2, none⟩ = some d.1 ∧ W.cell? ⟨b, off + j * 2 + 1, none⟩ = some (.int .i64 d.2.1)) := fun W hm => Dds.at' hc hdj hm
    clear hc hfm hD hdj
    obtain ⟨dv, tk, ds⟩ := d
    simp only at hG ht1 ht2
    replace HD : Hid (∀ W, Mod (fun _ => False) w W → W.cell? ⟨b, off + j * 2, none⟩ = some dv ∧ W.cell? ⟨b, off + j * 2 + 1, none⟩ = some (.int .i64 tk)) := HD.out
    have HG : Hid (Mgs w dv ds) := hG
    obtain ⟨aj, cj, rfl, hdl, hdf⟩ := hG.form
    have hdl' : (ds.length : Int) ≤ 140737488355327 := by go_light; omega
    have HFar : Hid (∀ S : Nat → Prop, (∀ b, S b → w.heap.size ≤ b) → Far S (.slice aj ds.length cj) ds) := fun S hS => ⟨fun hne b' hb' hx => by
      obtain ⟨b2, o2, e2, hc2⟩ := hdf hne
      subst e2
      simp only [Value.ownBlock, Option.some.injEq] at hb'
      subst hb'
      have h0 : ∃ d, ds[0]? = some d := by cases ds with | nil => exact absurd rfl hne | cons a r => exact ⟨a, rfl⟩
      obtain ⟨d0, hd0⟩ := h0
      have := World.block_lt_of_cell? w _ (hc2 0 d0 hd0 0 _ rfl)
      exact absurd this (Nat.not_lt.2 (hS _ hx)), fun d hd hl b' hb' hx => absurd ((hG.each d hd).1.lt hl b' hb') (Nat.not_lt.2 (hS _ hx))⟩
    have HWK : Hid (w.heap.size ≤ wk.heap.size) := hE.mod.size
    obtain ⟨h1, h2⟩ := HD.out wk hE.mod
    have HCp := copies_any (.slice aj ds.length cj) ds wk (hG.mod hE.mod (fun _ _ h => h))
    clear hG
    go_wp2_with (fail)
    refine HCp.mono ?_
    rintro e w5 ⟨v5, cs, rfl, hR5, hm5⟩
    clear HCp
    have hE5 := hE.still hm5
    have hcl : cs.length = ds.length := by rw [hR5.len, List.length_map]
    obtain ⟨a5, c5, e5⟩ := hR5.row.shape
    rw [hcl] at e5
    subst e5
    have hbod : ∀ m ∈ ds.map (·.1), m.body.length ≤ 140737488355328 := fun m hm => by
      obtain ⟨d, hd, rfl⟩ := List.mem_map.1 hm
      exact (HG.out.each d hd).2
    have HSZ : Hid (∀ m ∈ pL L ds, m.body.length ≤ 140737488355328) := fun m hm => by
      unfold pL at hm
      split at hm
      · rcases List.mem_append.1 hm with h | h
        · exact hE.sz m h
        · exact hbod m h
      · exact hE.sz m hm
    have hG5 := hR5.mgs (by rw [hcl]; exact hdl) hbod
    have hdr := (Mod.refl (fun _ => False) w5).drew
    have HPa : Calls Try.prog 10 #[.pointer (some ⟨qa, 0, none⟩), .slice a5 ds.length c5] w5.drew fun e w' => ∃ r, e = .returned r ∧ (r = .int .i64 (pE L ds) ∧ (∃ X', Qu w' qa X' (pL L ds) ∧ (∀ b, X' b → Xa b ∨ w5.heap.size ≤ b)) ∧ Mod (fun b => b = qa) w5.drew w') := by
      have := Put_any (hE5.a.mod hdr (fun _ _ h => h)) (.slice a5 ds.length c5) cs (hG5.mod hdr (fun _ _ h => h)) (hR5.far hE.a.lt)
      rw [pE_map hR5.ms, pL_map hR5.ms] at this
      exact this.mono fun e w' h => ⟨_, h.1, rfl, h.2⟩
    have HPb : ∀ w6, De w w6 qa pb qo (pL L ds) L Mo Xa Yb Xo ∨ True → ∀ (X' : Nat → Prop), De w w6 qa pb qo (pL L ds) L Mo X' Yb Xo → Calls Try.prog 11 #[.pointer (some ⟨pb, 0, none⟩), .slice aj ds.length cj] w6 fun e w' => ∃ r, e = .returned r ∧ (r = .int .i64 (pE L ds) ∧ (∃ Y', De w w' qa pb qo (pL L ds) (pL L ds) Mo X' Y' Xo ∧ (∀ b, Y' b → Yb b ∨ w6.heap.size ≤ b)) ∧ Mod Yb w6 w') := fun w6 _ X' h6 => by
      have := dPut_any h6.b (.slice aj ds.length cj) ds (HG.out.mod h6.mod (fun _ _ h => h)) (HFar.out _ h6.nb)
      refine this.mono fun e w' h => ⟨_, h.1, rfl, ?_, h.2.2⟩
      obtain ⟨Y', hd, hy⟩ := h.2.1
      exact ⟨Y', h6.putB hd hy h.2.2, hy⟩
    obtain ⟨h1, h2⟩ := HD.out w5 hE5.mod
    obtain ⟨E, eE⟩ : ∃ E, E = pE L ds := ⟨_, rfl⟩
    rw [← eE] at HPa HPb
    clear eE
    have HE5 : Hid (De w w5 qa pb qo L L Mo Xa Yb Xo) := hE5
    have HR5 : Hid (Rn w5 wk.heap.size (.slice a5 ds.length c5) (ds.map (·.1)) cs ∧ cs.length = ds.length) := ⟨hR5, hcl⟩
    have HLT : Hid ((∀ b, Xa b → b < wk.heap.size) ∧ (∀ b, Yb b → b < wk.heap.size) ∧ (∀ b, Xo b → b < wk.heap.size) ∧ wk.heap.size ≤ w5.heap.size) := ⟨hE.a.lt, hE.b.lt, hE.o.lt, hm5.size⟩
    go_upto_region 6 with (fail)
    clear hE hm5 hE5 hR5 hG5 hcl
    go_cut [39] (fun s wx => s = .bool false ∧ (∃ X' Y', De w wx qa pb qo (pL L ds) (pL L ds) Mo X' Y' Xo ∧ (∀ b, X' b → Xa b ∨ w5.heap.size ≤ b) ∧ (∀ b, Y' b → Yb b ∨ w5.heap.size ≤ b)) ∧ Mod (fun b => b = qa ∨ Yb b) w5 wx)
    case first =>
      go_region_law (first
        | (refine step_c2 (fun args w => by simp [go_sem]) (by rfl) _ _ (by rfl) (by rfl) _ _ (by rfl) (by rfl) _ HPa ?_; rintro r6 w6 ⟨rfl, ⟨X', hq6, hx6⟩, hm6⟩; have hE6 := (HE5.out.still hdr).putA hq6 hx6 hm6 HSZ.out; replace h1 := (HD.out w6 hE6.mod).1)
        | (refine step_c2 (fun args w => by simp [go_sem]) (by rfl) _ _ (by rfl) (by rfl) _ _ (by rfl) (by rfl) _ (HPb w6 (.inr trivial) X' hE6) ?_; rintro r7 w7 ⟨rfl, ⟨Y', hE7, hy7⟩, hm7⟩))
      all_goals go_wp2_with (fail)
      all_goals go_meet
      all_goals exact ⟨by simp, ⟨X', Y', hE7, hx6, fun b hb => (hy7 b hb).imp id (fun h => Nat.le_trans hm6.size h)⟩, (hdr.trans hm6 (V := fun b => b = qa ∨ Yb b) (fun _ _ h => h.elim) (fun _ _ h => .inl h)).trans hm7 (fun _ _ h => h) (fun _ _ h => .inr h)⟩
    case rest =>
    obtain ⟨e39, ⟨Xc, Yc, hE7, hXc, hYc⟩, hm7⟩ := hcut
    subst e39
    generalize wc = w7 at *
    clear HPa HPb hdr h1 h2
    have hR7 := HR5.out.1.mod hm7 (fun b h1 h2 h3 => by
      rcases h3 with h3 | h3
      · have := HLT.out.1 b (by rw [h3]; exact HE5.out.a.inX)
        exact absurd this (Nat.not_lt.2 h1)
      · exact absurd (HLT.out.2.1 b h3) (Nat.not_lt.2 h1))
    have HLL : Hid (ds.length * 120 ≤ 140737488355328 ∧ (∀ m ∈ ds.map (·.1), m.body.length ≤ 140737488355328)) := ⟨hdl, hbod⟩
    have HE7 : Hid (De w w7 qa pb qo (pL L ds) (pL L ds) Mo Xc Yc Xo) := hE7
    have HR7 : Hid (Rn w7 wk.heap.size (.slice a5 ds.length c5) (ds.map (·.1)) cs) := hR7
    have HC7 : Hid ((∀ b, Xc b → Xa b ∨ w5.heap.size ≤ b) ∧ (∀ b, Yc b → Yb b ∨ w5.heap.size ≤ b)) := ⟨hXc, hYc⟩
    clear hE7 hR7 hXc hYc hm7 hbod
    go_wp2_with (fail)
    go_loopw [8] (fun ck wr => ∃ (kk : Nat), ck = .int .i64 (kk : Int) ∧ kk ≤ ds.length ∧ Mod (fun _ => False) w7 wr) (fun ck _ => ds.length - (intOf ck).toNat)
    case atStart => exact ⟨0, rfl, Nat.zero_le _, Mod.refl _ _⟩
    case round =>
    obtain ⟨kk, rfl, hkk, hMk⟩ := hrel
    obtain ⟨wy, ewy⟩ : ∃ wy, wy = wr := ⟨_, rfl⟩
    subst ewy
    have hMwy : Mod (fun _ => False) w wy := HE7.out.mod.trans hMk (fun _ _ h => h) (fun _ _ h => h)
    by_cases hkn : kk < ds.length
    · have hkn' : (kk : Int) < (ds.length : Int) := by go_light; omega
      have hkb' : (kk : Int) < 140737488355327 := by go_light; omega
      obtain ⟨d, hdk⟩ : ∃ d, ds[kk]? = some d := ⟨ds[kk], List.getElem?_eq_getElem hkn⟩
      have hck : ∃ c, cs[kk]? = some c ∧ c.1 = d.1 := by
        have e := congrArg (fun l => l[kk]?) HR7.out.ms
        simp only [List.getElem?_map, hdk, Option.map_some] at e
        exact Option.map_eq_some_iff.1 e
      obtain ⟨c, hck, hcd⟩ := hck
      obtain ⟨bj, oj, rfl, hcj⟩ := hdf (by intro e; rw [e] at hkn; exact absurd hkn (Nat.not_lt_zero _))
      have hGy := (HR7.out.mod hMk (fun _ _ _ h => h)).mgs (by rw [HR5.out.2]; exact HLL.out.1) HLL.out.2
      obtain ⟨ag, cg, eg, _, hfg⟩ := hGy.form
      rw [HR5.out.2] at eg
      cases eg
      obtain ⟨g5, o5, rfl, hc5⟩ := hfg (by intro e; rw [e] at hck; cases hck)
      have hrg5 := hc5 kk c hck
      have hrgj := range_mod (hcj kk d hdk) hMwy (fun h => h)
      have hsc := (hGy.each c (List.mem_of_getElem? hck)).1
      have hsd := (HG.out.each d (List.mem_of_getElem? hdk)).1.mod hMwy (fun _ _ h => h)
      have h1 := (HD.out wy hMwy).1
      clear hc5 hfg hcj hdk hck hGy
      obtain ⟨⟨k, o, lf, i, p, ps, g, s, st, rs, rr, sq, l⟩, dv⟩ := d
      obtain ⟨cm, cw⟩ := c
      simp only at hcd
      subst hcd
      replace hsd : Sl wy dv l := hsd
      replace hsc : Sl wy cw l := hsc
      obtain ⟨ad, cd, rfl, _⟩ := hsd.form
      obtain ⟨ac, cc, rfl, _⟩ := hsc.form
      obtain ⟨m0, m1, m2, m3, m4, m5, m6, m7, m8, m9, m10, m11, m12⟩ := range13 hrg5
      obtain ⟨n0, n1, n2, n3, n4, n5, n6, n7, n8, n9, n10, n11, n12⟩ := range13 hrgj
      have hdr := (Mod.refl (fun _ => False) wy).drew
      have HS := Same_eq k o lf i p ps g s st rs rr sq ac ad cc cd l wy.drew (hsc.mod hdr (fun _ _ h => h)) (hsd.mod hdr (fun _ _ h => h))
      clear hsc hsd hrg5 hrgj
      go_wp2_with (fail)
      go_region_held3 (fun y => y.cell? ⟨g5, o5 + kk * 13, none⟩ = some (.int .i64 k) ∧ y.cell? ⟨g5, o5 + kk * 13 + 1, none⟩ = some (.int .i64 o) ∧ y.cell? ⟨g5, o5 + kk * 13 + 2, none⟩ = some (.int .i64 lf) ∧ y.cell? ⟨g5, o5 + kk * 13 + 3, none⟩ = some (.int .i64 i) ∧ y.cell? ⟨g5, o5 + kk * 13 + 4, none⟩ = some (.int .i64 p) ∧ y.cell? ⟨g5, o5 + kk * 13 + 5, none⟩ = some (.int .i64 ps) ∧ y.cell? ⟨g5, o5 + kk * 13 + 6, none⟩ = some (.int .i64 g) ∧ y.cell? ⟨g5, o5 + kk * 13 + 7, none⟩ = some (.bool s) ∧ y.cell? ⟨g5, o5 + kk * 13 + 8, none⟩ = some (.int .i64 st) ∧ y.cell? ⟨g5, o5 + kk * 13 + 9, none⟩ = some (.int .i64 rs) ∧ y.cell? ⟨g5, o5 + kk * 13 + 10, none⟩ = some (.int .i64 rr) ∧ y.cell? ⟨g5, o5 + kk * 13 + 11, none⟩ = some (.int .i64 sq) ∧ y.cell? ⟨g5, o5 + kk * 13 + 12, none⟩ = some (.slice ac l.length cc) ∧ y.cell? ⟨bj, oj + kk * 13, none⟩ = some (.int .i64 k) ∧ y.cell? ⟨bj, oj + kk * 13 + 1, none⟩ = some (.int .i64 o) ∧ y.cell? ⟨bj, oj + kk * 13 + 2, none⟩ = some (.int .i64 lf) ∧ y.cell? ⟨bj, oj + kk * 13 + 3, none⟩ = some (.int .i64 i) ∧ y.cell? ⟨bj, oj + kk * 13 + 4, none⟩ = some (.int .i64 p) ∧ y.cell? ⟨bj, oj + kk * 13 + 5, none⟩ = some (.int .i64 ps) ∧ y.cell? ⟨bj, oj + kk * 13 + 6, none⟩ = some (.int .i64 g) ∧ y.cell? ⟨bj, oj + kk * 13 + 7, none⟩ = some (.bool s) ∧ y.cell? ⟨bj, oj + kk * 13 + 8, none⟩ = some (.int .i64 st) ∧ y.cell? ⟨bj, oj + kk * 13 + 9, none⟩ = some (.int .i64 rs) ∧ y.cell? ⟨bj, oj + kk * 13 + 10, none⟩ = some (.int .i64 rr) ∧ y.cell? ⟨bj, oj + kk * 13 + 11, none⟩ = some (.int .i64 sq) ∧ y.cell? ⟨bj, oj + kk * 13 + 12, none⟩ = some (.slice ad l.length cd) ∧ y.cell? ⟨b, off + j * 2, none⟩ = some (.slice (some ⟨bj, oj, none⟩) ds.length cj)) (first | with_reducible exact ⟨m0, m1, m2, m3, m4, m5, m6, m7, m8, m9, m10, m11, m12, n0, n1, n2, n3, n4, n5, n6, n7, n8, n9, n10, n11, n12, h1⟩ | go_keep) ((go_at_call 12; refine HS.mono ?_; rintro e y2 ⟨rfl, hy2⟩; replace m0 : y2.cell? ⟨g5, o5 + kk * 13, none⟩ = some (.int .i64 k) := hy2.cell m0 (fun h => h); replace m1 : y2.cell? ⟨g5, o5 + kk * 13 + 1, none⟩ = some (.int .i64 o) := hy2.cell m1 (fun h => h); replace m2 : y2.cell? ⟨g5, o5 + kk * 13 + 2, none⟩ = some (.int .i64 lf) := hy2.cell m2 (fun h => h); replace m3 : y2.cell? ⟨g5, o5 + kk * 13 + 3, none⟩ = some (.int .i64 i) := hy2.cell m3 (fun h => h); replace m4 : y2.cell? ⟨g5, o5 + kk * 13 + 4, none⟩ = some (.int .i64 p) := hy2.cell m4 (fun h => h); replace m5 : y2.cell? ⟨g5, o5 + kk * 13 + 5, none⟩ = some (.int .i64 ps) := hy2.cell m5 (fun h => h); replace m6 : y2.cell? ⟨g5, o5 + kk * 13 + 6, none⟩ = some (.int .i64 g) := hy2.cell m6 (fun h => h); replace m7 : y2.cell? ⟨g5, o5 + kk * 13 + 7, none⟩ = some (.bool s) := hy2.cell m7 (fun h => h); replace m8 : y2.cell? ⟨g5, o5 + kk * 13 + 8, none⟩ = some (.int .i64 st) := hy2.cell m8 (fun h => h); replace m9 : y2.cell? ⟨g5, o5 + kk * 13 + 9, none⟩ = some (.int .i64 rs) := hy2.cell m9 (fun h => h); replace m10 : y2.cell? ⟨g5, o5 + kk * 13 + 10, none⟩ = some (.int .i64 rr) := hy2.cell m10 (fun h => h); replace m11 : y2.cell? ⟨g5, o5 + kk * 13 + 11, none⟩ = some (.int .i64 sq) := hy2.cell m11 (fun h => h); replace m12 : y2.cell? ⟨g5, o5 + kk * 13 + 12, none⟩ = some (.slice ac l.length cc) := hy2.cell m12 (fun h => h); replace n0 : y2.cell? ⟨bj, oj + kk * 13, none⟩ = some (.int .i64 k) := hy2.cell n0 (fun h => h); replace n1 : y2.cell? ⟨bj, oj + kk * 13 + 1, none⟩ = some (.int .i64 o) := hy2.cell n1 (fun h => h); replace n2 : y2.cell? ⟨bj, oj + kk * 13 + 2, none⟩ = some (.int .i64 lf) := hy2.cell n2 (fun h => h); replace n3 : y2.cell? ⟨bj, oj + kk * 13 + 3, none⟩ = some (.int .i64 i) := hy2.cell n3 (fun h => h); replace n4 : y2.cell? ⟨bj, oj + kk * 13 + 4, none⟩ = some (.int .i64 p) := hy2.cell n4 (fun h => h); replace n5 : y2.cell? ⟨bj, oj + kk * 13 + 5, none⟩ = some (.int .i64 ps) := hy2.cell n5 (fun h => h); replace n6 : y2.cell? ⟨bj, oj + kk * 13 + 6, none⟩ = some (.int .i64 g) := hy2.cell n6 (fun h => h); replace n7 : y2.cell? ⟨bj, oj + kk * 13 + 7, none⟩ = some (.bool s) := hy2.cell n7 (fun h => h); replace n8 : y2.cell? ⟨bj, oj + kk * 13 + 8, none⟩ = some (.int .i64 st) := hy2.cell n8 (fun h => h); replace n9 : y2.cell? ⟨bj, oj + kk * 13 + 9, none⟩ = some (.int .i64 rs) := hy2.cell n9 (fun h => h); replace n10 : y2.cell? ⟨bj, oj + kk * 13 + 10, none⟩ = some (.int .i64 rr) := hy2.cell n10 (fun h => h); replace n11 : y2.cell? ⟨bj, oj + kk * 13 + 11, none⟩ = some (.int .i64 sq) := hy2.cell n11 (fun h => h); replace n12 : y2.cell? ⟨bj, oj + kk * 13 + 12, none⟩ = some (.slice ad l.length cd) := hy2.cell n12 (fun h => h); replace h1 : y2.cell? ⟨b, off + j * 2, none⟩ = some (.slice (some ⟨bj, oj, none⟩) ds.length cj) := hy2.cell h1 (fun h => h)))
      clear m0 m1 m2 m3 m4 m5 m6 m7 m8 m9 m10 m11 m12 n0 n1 n2 n3 n4 n5 n6 n7 n8 n9 n10 n11 n12 h1 HS
      go_wp2_with (fail)
      go_roundw
      case rel => exact ⟨kk + 1, by go_num, hkn, hMk.drew.trans hy2 (fun _ _ h => h) (fun _ _ h => h)⟩
      case measure => simp [intOf]; go_light; omega
    · have ek : ¬ (kk : Int) < (ds.length : Int) := by go_light; omega
      have hRy := HR7.out.mod hMk (fun _ _ _ h => h)
      have HSp := spoil_any _ _ wy (hRy.sp (by rw [HR5.out.2]; exact HLL.out.1) HLL.out.2)
      have hEy := HE7.out.still hMk
      have HSs : Hid (∀ b, Ss (.slice a5 ds.length c5) cs b → ¬ Xc b ∧ ¬ Yc b ∧ ¬ Xo b ∧ w.heap.size ≤ b) := fun b' hb' => by
        have hlo : wk.heap.size ≤ b' := by
          rcases hb' with h | ⟨d, hd, h⟩
          · exact HR5.out.1.new b' h
          · exact (HR5.out.1.each d hd).2.2 b' h
        have hhi : b' < w5.heap.size := by
          rcases hb' with h | ⟨d, hd, h⟩
          · exact HR5.out.1.row.lt b' h
          · exact (HR5.out.1.each d hd).1.lt b' h
        refine ⟨fun hx => ?_, fun hx => ?_, fun hx => absurd (HLT.out.2.2.1 b' hx) (Nat.not_lt.2 hlo), ?_⟩
        · rcases HC7.out.1 b' hx with h | h
          · exact absurd (HLT.out.1 b' h) (Nat.not_lt.2 hlo)
          · exact absurd hhi (Nat.not_lt.2 h)
        · rcases HC7.out.2 b' hx with h | h
          · exact absurd (HLT.out.2.1 b' h) (Nat.not_lt.2 hlo)
          · exact absurd hhi (Nat.not_lt.2 h)
        · exact Nat.le_trans (HWK.out) hlo
      clear hkn hkk hRy
      go_wp2_with (fail)
      refine HSp.mono ?_
      rintro e w8 ⟨⟨r8, rfl⟩, hm8⟩
      have hE8 := hEy.quiet hm8 HSs.out
      obtain ⟨h1, h2⟩ := HD.out w8 hE8.mod
      have HPo := Put_any hE8.o (.slice aj ds.length cj) ds (HG.out.mod hE8.mod (fun _ _ h => h)) (HFar.out _ hE8.no)
      obtain ⟨E2, eE2⟩ : ∃ E2, E2 = pE Mo ds := ⟨_, rfl⟩
      rw [← eE2] at HPo
      clear HSp hEy HSs hm8 eE2 HE7 HR7 HC7 HLT HR5 HE5 HLL hMk hMwy
      go_wp2_with (fail)
      refine HPo.mono ?_
      rintro e w9 ⟨rfl, ⟨Xo9, hO9, hXo9⟩, hm9⟩
      have hE9 := hE8.putO hO9 hXo9 hm9
      clear HPo hE8 hO9 hXo9 hm9 h1 h2 hdf
      obtain ⟨L9, eL9⟩ : ∃ L9, L9 = pL L ds := ⟨_, rfl⟩
      rw [← eL9] at hE9
      clear eL9
      go_wp2_with (fail)
      go_loopw [9, 10, 11, 12, 13] (fun ck _ _ _ _ wr => ∃ (kk : Nat) (L M : List Ms) (Xa Yb Xo : Nat → Prop), ck = .int .i64 (kk : Int) ∧ kk ≤ 40 ∧ De w wr qa pb qo L L M Xa Yb Xo) (fun ck _ _ _ _ _ => 40 - (intOf ck).toNat)
      case atStart => exact ⟨0, _, _, _, _, _, rfl, Nat.zero_le _, hE9⟩
      case round =>
      clear hE9
      obtain ⟨kk, L, Mo, Xa, Yb, Xo, rfl, hkk, hE⟩ := hrel
      obtain ⟨wy, ewy⟩ : ∃ wy, wy = wr := ⟨_, rfl⟩
      subst ewy
      obtain ⟨h1, h2⟩ := HD.out wy hE.mod
      by_cases hgo : (kk : Int) < tk ∧ kk < 40
      · obtain ⟨hk1, hk2⟩ := hgo
        have hk2' : (kk : Int) < 40 := by go_light; omega
        obtain ⟨k, o, lf, i, p, ps, g, s, st, rs, rr, sq, l, hhd⟩ : ∃ k o lf i p ps g s st rs rr sq l, L.headD ⟨0, 0, 0, 0, 0, 0, 0, false, 0, 0, 0, 0, []⟩ = ⟨k, o, lf, i, p, ps, g, s, st, rs, rr, sq, l⟩ := ⟨_, _, _, _, _, _, _, _, _, _, _, _, _, rfl⟩
        have HTa := Take_u hE.a k o lf i p ps g s st rs rr sq l hhd
        have hbl : l.length ≤ 140737488355328 := by
          cases L with
          | nil =>
            simp only [List.headD_nil, Ms.mk.injEq] at hhd
            rw [← hhd.2.2.2.2.2.2.2.2.2.2.2.2]
            simp
          | cons m L' =>
            simp only [List.headD_cons] at hhd
            have := hE.sz m (List.mem_cons_self ..)
            rw [hhd] at this
            exact this
        obtain ⟨E, eE⟩ : ∃ E, E = er L := ⟨_, rfl⟩
        rw [← eE] at HTa
        have HHD : Hid (L.headD ⟨0, 0, 0, 0, 0, 0, 0, false, 0, 0, 0, 0, []⟩ = ⟨k, o, lf, i, p, ps, g, s, st, rs, rr, sq, l⟩ ∧ E = er L) := ⟨hhd, eE⟩
        clear hhd eE
        go_wp2_with (fail)
        refine HTa.mono ?_
        rintro e y5 ⟨am, cm, rfl, ho5, hr5, ⟨X5, hA5, hX5, hv5⟩, hy5⟩
        have hE5 := hE.putA hA5 (fun b hb => .inl (hX5 b hb)) hy5 (fun m hm => hE.sz m (List.mem_of_mem_tail hm))
        have hAl5 := (Mod.refl (fun _ => False) y5).alloc (.cells #[.int .i64 k, .int .i64 o, .int .i64 lf, .int .i64 i, .int .i64 p, .int .i64 ps, .int .i64 g, .bool s, .int .i64 st, .int .i64 rs, .int .i64 rr, .int .i64 sq, .slice am l.length cm] 40)
        have hMA5 := Bk.new y5 #[.int .i64 k, .int .i64 o, .int .i64 lf, .int .i64 i, .int .i64 p, .int .i64 ps, .int .i64 g, .bool s, .int .i64 st, .int .i64 rs, .int .i64 rr, .int .i64 sq, .slice am l.length cm] 40
        have hE5a := hE5.still hAl5
        have ho5a := ho5.mod hAl5 (fun _ _ h => h)
        have HTb := dTake_u hE5a.b k o lf i p ps g s st rs rr sq l HHD.out.1
        rw [← HHD.out.2] at HTb
        have HVX : Hid (∀ b, (Value.slice am l.length cm).ownBlock = some b → ¬ X5 b ∧ ¬ Yb b ∧ ¬ Xo b ∧ w.heap.size ≤ b) := fun b' hb' => ⟨(hv5 b' hb').2, hE.ab b' (hv5 b' hb').1, hE.ao b' (hv5 b' hb').1, hE.na b' (hv5 b' hb').1⟩
        have hYlt : pb < y5.heap.size := by have := hE5.b.lt _ hE5.b.inY; exact this
        clear HTa hE hE5 hA5 hX5 hv5 hy5 ho5 hAl5 h1 h2
        go_wp2_with (fail)
        refine HTb.mono ?_
        rintro e y6 ⟨an, cn, rfl, ho6, hB6, hy6⟩
        have hE6 := hE5a.putB hB6 (fun b hb => .inl hb) (hy6.mono (fun b _ e => by rw [e]; exact hE5a.b.inY))
        obtain ⟨cqb, hkb⟩ : ∃ cur, (y5.alloc (.cells #[.int .i64 k, .int .i64 o, .int .i64 lf, .int .i64 i, .int .i64 p, .int .i64 ps, .int .i64 g, .bool s, .int .i64 st, .int .i64 rs, .int .i64 rr, .int .i64 sq, .slice am l.length cm] 40)).heap[pb]? = some (.cells cur 55 (0, 0)) := by
          obtain ⟨v, ds', h⟩ := hE5a.b
          exact ⟨_, h.blk.at'⟩
        have ho56 := ho5a.mod hy6 (fun b' hb' e => by
          obtain ⟨cc, hcc⟩ := ho5a.kind hb'
          rw [e, hkb] at hcc
          simp at hcc)
        have hMA6' := hMA5.mod hy6 (fun e => by go_light; omega)
        have hAl6 := (Mod.refl (fun _ => False) y6).alloc (.cells #[.int .i64 k, .int .i64 o, .int .i64 lf, .int .i64 i, .int .i64 p, .int .i64 ps, .int .i64 g, .bool s, .int .i64 st, .int .i64 rs, .int .i64 rr, .int .i64 sq, .slice an l.length cn] 40)
        have hMB6 := Bk.new y6 #[.int .i64 k, .int .i64 o, .int .i64 lf, .int .i64 i, .int .i64 p, .int .i64 ps, .int .i64 g, .bool s, .int .i64 st, .int .i64 rs, .int .i64 rr, .int .i64 sq, .slice an l.length cn] 40
        have hMA6 := hMA6'.mod hAl6 (fun h => h)
        have hE6a := hE6.still hAl6
        have hoA := ho56.mod hAl6 (fun _ _ h => h)
        have hoB := ho6.mod hAl6 (fun _ _ h => h)
        clear HTb hE5a ho5a hMA5 hE6 ho56 ho6 hMA6' hAl6 hB6 hy6 hkb hYlt
        go_upto_region 20 with (fail)
        generalize y6.alloc (.cells #[.int .i64 k, .int .i64 o, .int .i64 lf, .int .i64 i, .int .i64 p, .int .i64 ps, .int .i64 g, .bool s, .int .i64 st, .int .i64 rs, .int .i64 rr, .int .i64 sq, .slice an l.length cn] 40) = W6 at *
        generalize y6.heap.size = mb at *
        generalize y5.heap.size = ma at *
        have m0 : W6.cell? ⟨ma, 0, none⟩ = some (.int .i64 k) := hMA6.cellv (j := 0) rfl
        have m1 : W6.cell? ⟨ma, 1, none⟩ = some (.int .i64 o) := hMA6.cellv (j := 1) rfl
        have m2 : W6.cell? ⟨ma, 2, none⟩ = some (.int .i64 lf) := hMA6.cellv (j := 2) rfl
        have m3 : W6.cell? ⟨ma, 3, none⟩ = some (.int .i64 i) := hMA6.cellv (j := 3) rfl
        have m4 : W6.cell? ⟨ma, 4, none⟩ = some (.int .i64 p) := hMA6.cellv (j := 4) rfl
        have m5 : W6.cell? ⟨ma, 5, none⟩ = some (.int .i64 ps) := hMA6.cellv (j := 5) rfl
        have m6 : W6.cell? ⟨ma, 6, none⟩ = some (.int .i64 g) := hMA6.cellv (j := 6) rfl
        have m7 : W6.cell? ⟨ma, 7, none⟩ = some (.bool s) := hMA6.cellv (j := 7) rfl
        have m8 : W6.cell? ⟨ma, 8, none⟩ = some (.int .i64 st) := hMA6.cellv (j := 8) rfl
        have m9 : W6.cell? ⟨ma, 9, none⟩ = some (.int .i64 rs) := hMA6.cellv (j := 9) rfl
        have m10 : W6.cell? ⟨ma, 10, none⟩ = some (.int .i64 rr) := hMA6.cellv (j := 10) rfl
        have m11 : W6.cell? ⟨ma, 11, none⟩ = some (.int .i64 sq) := hMA6.cellv (j := 11) rfl
        have m12 : W6.cell? ⟨ma, 12, none⟩ = some (.slice am l.length cm) := hMA6.cellv (j := 12) rfl
        have n0 : W6.cell? ⟨mb, 0, none⟩ = some (.int .i64 k) := hMB6.cellv (j := 0) rfl
        have n1 : W6.cell? ⟨mb, 1, none⟩ = some (.int .i64 o) := hMB6.cellv (j := 1) rfl
        have n2 : W6.cell? ⟨mb, 2, none⟩ = some (.int .i64 lf) := hMB6.cellv (j := 2) rfl
        have n3 : W6.cell? ⟨mb, 3, none⟩ = some (.int .i64 i) := hMB6.cellv (j := 3) rfl
        have n4 : W6.cell? ⟨mb, 4, none⟩ = some (.int .i64 p) := hMB6.cellv (j := 4) rfl
        have n5 : W6.cell? ⟨mb, 5, none⟩ = some (.int .i64 ps) := hMB6.cellv (j := 5) rfl
        have n6 : W6.cell? ⟨mb, 6, none⟩ = some (.int .i64 g) := hMB6.cellv (j := 6) rfl
        have n7 : W6.cell? ⟨mb, 7, none⟩ = some (.bool s) := hMB6.cellv (j := 7) rfl
        have n8 : W6.cell? ⟨mb, 8, none⟩ = some (.int .i64 st) := hMB6.cellv (j := 8) rfl
        have n9 : W6.cell? ⟨mb, 9, none⟩ = some (.int .i64 rs) := hMB6.cellv (j := 9) rfl
        have n10 : W6.cell? ⟨mb, 10, none⟩ = some (.int .i64 rr) := hMB6.cellv (j := 10) rfl
        have n11 : W6.cell? ⟨mb, 11, none⟩ = some (.int .i64 sq) := hMB6.cellv (j := 11) rfl
        have n12 : W6.cell? ⟨mb, 12, none⟩ = some (.slice an l.length cn) := hMB6.cellv (j := 12) rfl
        have eEE : (E != E) = false := by simp
        have HS := Same_eq k o lf i p ps g s st rs rr sq am an cm cn l W6 (hoA.sl hr5) (hoB.sl hr5)
        clear hMA6 hMB6 hoB
        go_wp2_with (fail)
        refine HS.mono ?_
        rintro e y7 ⟨rfl, hy7⟩
        have hE7 := hE6a.still hy7
        have hoA7 := hoA.mod hy7 (fun _ _ h => h)
        replace m0 : y7.cell? ⟨ma, 0, none⟩ = some (.int .i64 k) := hy7.cell m0 (fun h => h)
        replace m1 : y7.cell? ⟨ma, 1, none⟩ = some (.int .i64 o) := hy7.cell m1 (fun h => h)
        replace m2 : y7.cell? ⟨ma, 2, none⟩ = some (.int .i64 lf) := hy7.cell m2 (fun h => h)
        replace m3 : y7.cell? ⟨ma, 3, none⟩ = some (.int .i64 i) := hy7.cell m3 (fun h => h)
        replace m4 : y7.cell? ⟨ma, 4, none⟩ = some (.int .i64 p) := hy7.cell m4 (fun h => h)
        replace m5 : y7.cell? ⟨ma, 5, none⟩ = some (.int .i64 ps) := hy7.cell m5 (fun h => h)
        replace m6 : y7.cell? ⟨ma, 6, none⟩ = some (.int .i64 g) := hy7.cell m6 (fun h => h)
        replace m7 : y7.cell? ⟨ma, 7, none⟩ = some (.bool s) := hy7.cell m7 (fun h => h)
        replace m8 : y7.cell? ⟨ma, 8, none⟩ = some (.int .i64 st) := hy7.cell m8 (fun h => h)
        replace m9 : y7.cell? ⟨ma, 9, none⟩ = some (.int .i64 rs) := hy7.cell m9 (fun h => h)
        replace m10 : y7.cell? ⟨ma, 10, none⟩ = some (.int .i64 rr) := hy7.cell m10 (fun h => h)
        replace m11 : y7.cell? ⟨ma, 11, none⟩ = some (.int .i64 sq) := hy7.cell m11 (fun h => h)
        replace m12 : y7.cell? ⟨ma, 12, none⟩ = some (.slice am l.length cm) := hy7.cell m12 (fun h => h)
        have hSpl := Sp.lit y7 ⟨k, o, lf, i, p, ps, g, s, st, rs, rr, sq, l⟩ (.slice am l.length cm) hoA7 hbl
        have hAl7 := (Mod.refl (fun _ => False) y7).alloc (.cells (mcl ⟨k, o, lf, i, p, ps, g, s, st, rs, rr, sq, l⟩ (.slice am l.length cm)).toArray 40)
        simp only [mcl] at hSpl hAl7
        have HSq := spoil_any _ _ _ hSpl
        have hE7a := hE7.still hAl7
        have HSs : Hid (∀ b, Ss (.slice (some ⟨y7.heap.size, 0, none⟩) 1 1) [(⟨k, o, lf, i, p, ps, g, s, st, rs, rr, sq, l⟩, .slice am l.length cm)] b → ¬ X5 b ∧ ¬ Yb b ∧ ¬ Xo b ∧ w.heap.size ≤ b) := fun b' hb' => by
          rcases hb' with h | ⟨d, hd, h⟩
          · simp only [Value.ownBlock, Option.some.injEq] at h
            subst h
            exact ⟨fun hx => absurd (hE7.a.lt _ hx) (Nat.lt_irrefl _), fun hx => absurd (hE7.b.lt _ hx) (Nat.lt_irrefl _), fun hx => absurd (hE7.o.lt _ hx) (Nat.lt_irrefl _), hE7.mod.size⟩
          · rw [List.mem_singleton] at hd
            subst hd
            exact HVX.out b' h
        clear n0 n1 n2 n3 n4 n5 n6 n7 n8 n9 n10 n11 n12 HS hE6a hoA hoA7 hSpl hAl7 hE7 hy7 hr5
        go_wp2_with (fail)
        refine HSq.mono ?_
        rintro e y8 ⟨⟨r8, rfl⟩, hy8⟩
        have HE8 : Hid (De w y8 qa pb qo L.tail L.tail Mo X5 Yb Xo) := hE7a.quiet hy8 HSs.out
        clear hE7a hy8 HSs HSq m0 m1 m2 m3 m4 m5 m6 m7 m8 m9 m10 m11 m12
        go_wp2_with (fail)
        go_roundw
        case rel => exact ⟨kk + 1, _, _, _, _, _, by go_num, hk2, HE8.out⟩
        case measure => simp [intOf]; go_light; omega
      · have hgo' : ¬ (kk : Int) < tk ∨ ((kk : Int) < tk ∧ ¬ (kk : Int) < 40) := by go_light; omega
        have HLa := Len_q hE.a
        have HLb := dLen13 hE.b
        have HRa := Room_q hE.a
        have HRb := dRoom13 hE.b
        have HE : Hid (De w wy qa pb qo L L Mo Xa Yb Xo) := hE
        clear hE
        go_upto_region 16 with (fail)
        go_cut [79] (fun s wx => s = .bool false ∧ wx = wy)
        case first =>
          rcases hgo' with hg | ⟨hg1, hg2⟩
          · go_wp2_with (fail)
            go_meet
            exact ⟨rfl, rfl⟩
          · go_wp2_with (fail)
            go_meet
            exact ⟨rfl, rfl⟩
        case rest =>
        obtain ⟨e79, ewc⟩ := hcut
        subst e79
        subst ewc
        generalize wc = wy at *
        clear hgo' hgo
        go_wp2_with (fail)
        refine HLa.mono ?_
        rintro e y2 ⟨rfl, hy2⟩
        subst hy2
        go_wp2_with (fail)
        refine HLb.mono ?_
        rintro e y2 ⟨rfl, hy2⟩
        subst hy2
        go_wp2_with (fail)
        refine HRa.mono ?_
        rintro e y2 ⟨rfl, hy2⟩
        subst hy2
        go_wp2_with (fail)
        refine HRb.mono ?_
        rintro e y2 ⟨rfl, hy2⟩
        subst hy2
        go_wp2_with (fail)
        go_roundw
        case rel => exact ⟨j + 1, L, Mo, Xa, Yb, Xo, by go_num, hjn, HE.out⟩
        case measure => simp [intOf]; go_light; omega
  · have ej : ¬ (j : Int) < (es.length : Int) := by go_light; omega
    have HW := works_any wk
    go_wp2_with (fail)
    refine HW.mono ?_
    rintro e w4 ⟨rfl, hm4⟩
    go_wp2
    go_ret
    exact ⟨rfl, hE.mod.trans hm4 (fun _ _ h => h) (fun _ _ h => h)⟩
namespace queueDeeds
open Go.ChangeShapes Go.WideShapes Go.ChangeAt Go.RowKit
set_option maxRecDepth 100000 in
theorem lifted (os : Os) (started : os.Started) (H : Type) (enc : TypeId × Value → H) :
    ReturnsInHanded {} Try.checked os 3 .any (Rows.queueDeedsSpec.pre6 enc Try.prog Try.f3 Rows.queueDeedsRow.domain false) (Rows.queueDeedsSpec.post enc Try.prog Try.f3 false true false false) := by
  refine returnsInHanded_of_change_sized (C := Try.checked) own started (by kernel_rfl) Try.func3
    (ChangeSpec.witness6 (enc := enc) (C := Try.checked) false ⟨#[], #[.slice none 0 0], []⟩ 8 (by kernel_rfl) (by kernel_rfl) (by kernel_rfl) (by kernel_rfl)) ?_
  intro W base args ds gs before hval0 hW hcnd hsz0 _
  have hval : ∀ (j : Nat) t v, Try.f3.params[j]? = some t → args[j]? = some v → Value.okWide Try.prog W .any base t v := hval0
  have hsz : (DataW.weightsEach Try.prog (Try.f3.params.toList ++ Rows.queueDeedsSpec.plain.varTypes Try.prog) (ds ++ gs)).all (· ≤ reachBytes) = true := hsz0
  have hW' := hW
  obtain ⟨p, q, hA0, hV, rfl, hfz, hnd⟩ := hW
  have hA : DataW.TrodAll enc Try.prog W 0 (fun _ => true) true Try.f3.params.toList args.toList ds p := hA0
  rw [Try.params3] at hA hval hsz
  obtain ⟨v0, vs0, d0, ds0, p0, q0, hargs, rfl, rfl, h0, r0⟩ := trodAll_cons hA
  obtain ⟨rfl, rfl, rfl⟩ := trodAll_nil r0
  obtain rfl : args = #[v0] := by cases args; simp_all
  obtain ⟨rfl, rfl⟩ := trodVars_none hV
  have k0 := h0
  have lt0 : ∀ x ∈ p0, x.block < W.heap.size := by obtain ⟨m, hm⟩ := k0; exact DataW.trod_lt m _ _ _ hm
  obtain ⟨B0, hB0⟩ := open_deeds h0 (okWide_slice Try.underlying22 (hval 0 22 v0 rfl rfl)) (by
    rw [List.all_eq_true] at hsz
    intro n hn
    have := hsz n (DataW.weights_mem_each (t := 22) (j := 0) rfl rfl n hn)
    simpa using this)
  clear hA0 hval0
  refine (deeds_walk v0 B0 W hB0).mono fun e W' ⟨he, hm⟩ => ?_
  subst he
  have bel : Below W.heap.size W W' := hm.below _ (Nat.le_refl _) (fun _ h => h.elim)
  exact ⟨_, rfl, _, _, _, [], _, [], hW', trodAll_mk1 (shut_bool Try.underlying4 _), (trodAll_cons_mk (Below.trod laidOut (by kernel_rfl) (of_decide_eq_true (by kernel_rfl)) k0 bel lt0) trodAll_mk0), rfl, bel.frame _, fun h => by cases h⟩

theorem over : Rows.queueDeedsRow.holds Try.pinned (OpenSpec.ofChange Rows.queueDeedsSpec) :=
  OpenClaim.holds_of_wide 3 Try.f3 rfl rfl rfl rfl rfl rfl rfl ⟨rfl, rfl, rfl, rfl, rfl⟩ rfl rfl rfl rfl rfl (by kernel_rfl) Try.func3 (by kernel_rfl)
    (of_decide_eq_true (by kernel_rfl)) (by unfold Func.isWrapper; first | (rw [if_pos (by decide +kernel)]; kernel_rfl) | (rw [if_neg (by decide +kernel)]; exact ⟨rfl, rfl⟩))
    (fun os started H enc _ => lifted os started H enc)
end queueDeeds
theorem queueDeeds_holds : Rows.QueueDeedsSaid := queueDeeds.over
end Go.Proofs.Ytcedlpjjldmpfaa
