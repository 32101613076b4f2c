/- The document's lane: what Put, Double and Take answer, and what they leave. Conditions: bytes of at most 2^47. -/
import Derived.Test.YthmglemjlinlgaaLd
namespace Go.Proofs.Ythmglemjlinlgaa
open Go.RowKit
/-- A call of Copy, as a step of a statement that draws its order. -/
theorem step_call1 {ops : Array Oper} {o : Oper} {a : Act} {w : World} {K : Act → World → Prop} {Q : Exit → Act → World → Prop} {E : Prop} (hgd : o.guard = none) (x : Operand)
    (ho : o.op = .call { callee := .value (.func 12), args := #[x], argTypes := #[30] }) (v : Value) (hx : a.eval x = v) (R : Value → World → Prop)
    (HB : Calls Try.prog 12 #[v] w fun e w' => ∃ r, e = .returned r ∧ R r w') (h : ∀ r w', R r w' → K (a.put o.dst r) w') :
    if Region.wanted o (yielded ops a.tmps) = true then Oper.wp Try.prog o a w K Q else E := by
  rw [if_pos (by simp [Region.wanted, hgd])]
  unfold Oper.wp
  have hrun : (execOp a.eval o).run Try.prog w = (.ok (.enter 12 #[v]) w) := by
    unfold execOp
    simp only [go_sem] at hx
    simp [ho, resolve, invoke, go_sem]
    simpa using hx
  rw [hrun, Oper.upon_enter]
  refine HB.mono ?_
  rintro e w' ⟨r, rfl, hr⟩
  exact h r w' hr
set_option maxRecDepth 100000 in
set_option maxHeartbeats 1000000 in
theorem dPut_node (p : Nat) (d : Dg) (u : Value) (w : World) (hu : Sl w u d.b) (h : (nd d.f && nd d.t) = false) : Calls Try.prog 11 #[.pointer (some ⟨p, 0, none⟩), .agg #[.int .i64 d.f, .int .i64 d.t, u]] w fun e w' => e = .returned (.int .i64 2) ∧ Mod (fun _ => False) w w' := by
  have hm := (Mod.refl (fun _ => False) w).alloc (.cells #[.int .i64 d.f, .int .i64 d.t, u] 30)
  have hX := dnode d.f
  have hY := dnode d.t
  obtain ⟨ao, cp, e, _⟩ := hu.form
  obtain ⟨f, t, b⟩ := d
  dsimp only at *
  subst e
  clear hu
  generalize nd f = x at hX h
  generalize nd t = y at hY h
  cases x with
  | false =>
    clear hY h
    go_enter Try.func11, Try.ntmps11
    go_wp2_with (go_at_call 32; refine (hX _).mono ?_; rintro e w' ⟨rfl, rfl⟩)
    go_ret
    exact ⟨rfl, hm⟩
  | true =>
    simp only [Bool.true_and] at h
    subst h
    go_enter Try.func11, Try.ntmps11
    go_wp2_with (fail)
    refine (hX _).mono ?_
    rintro e w' ⟨rfl, rfl⟩
    go_wp2_with (fail)
    refine (hY _).mono ?_
    rintro e w' ⟨rfl, rfl⟩
    go_wp2
    go_ret
    exact ⟨rfl, hm⟩
set_option maxRecDepth 100000 in
set_option maxHeartbeats 1000000 in
theorem dPut_full {p : Nat} {v : Value} {R : List (Dg × Value)} {a : List Bool} (d : Dg) (u : Value) (w : World) (h : Dn w p v R a) (hl : 4096 ≤ R.length) (hu : Sl w u d.b) (hf : nd d.f = true) (ht : nd d.t = true) : Calls Try.prog 11 #[.pointer (some ⟨p, 0, none⟩), .agg #[.int .i64 d.f, .int .i64 d.t, u]] w fun e w' => e = .returned (.int .i64 7) ∧ Mod (fun _ => False) w w' := by
  have hm := (Mod.refl (fun _ => False) w).alloc (.cells #[.int .i64 d.f, .int .i64 d.t, u] 30)
  have c0 := (h.mod hm (fun _ _ h => h)).c0
  have hX := dnode d.f
  have hY := dnode d.t
  rw [hf] at hX
  rw [ht] at hY
  obtain ⟨ao, cp, e, _⟩ := hu.form
  obtain ⟨f, t, b⟩ := d
  dsimp only at *
  subst e
  obtain ⟨ao', cap', rfl, _⟩ := h.gr.shape
  have hl' : 4096 ≤ (R.length : Int) := by omega
  clear hu h hl hf ht
  generalize R.length = n at c0 hl'
  go_enter Try.func11, Try.ntmps11
  go_wp2_with (fail)
  refine (hX _).mono ?_
  rintro e w' ⟨rfl, rfl⟩
  go_wp2_with (fail)
  refine (hY _).mono ?_
  rintro e w' ⟨rfl, rfl⟩
  go_wp2
  go_ret
  exact ⟨rfl, hm⟩
set_option maxRecDepth 100000 in
set_option maxHeartbeats 1000000 in
theorem dPut_ok {p : Nat} {v : Value} {R : List (Dg × Value)} {a : List Bool} (d : Dg) (u : Value) (w : World) (h : Dn w p v R a) (hl : R.length < 4096) (hu : Sl w u d.b) (hb : d.b.length ≤ 140737488355328) (hf : nd d.f = true) (ht : nd d.t = true) :
    Calls Try.prog 11 #[.pointer (some ⟨p, 0, none⟩), .agg #[.int .i64 d.f, .int .i64 d.t, u]] w fun e w' => e = .returned (.int .i64 0) ∧ ∃ v2 u2, Dn w' p v2 (R ++ [(d, u2)]) a ∧ Gone w w' (Fl p v R) (Fl p v2 (R ++ [(d, u2)])) := by
  obtain ⟨i0, hi, hz0, hz1, hz2⟩ := info_parts infoDg
  have hm := (Mod.refl (fun _ => False) w).alloc (.cells #[.int .i64 d.f, .int .i64 d.t, u] 30)
  have hA := h.mod hm (fun _ _ h => h)
  have hbk := heap_alloc_new w (.cells #[.int .i64 d.f, .int .i64 d.t, u] 30)
  have hsz : (w.alloc (.cells #[.int .i64 d.f, .int .i64 d.t, u] 30)).heap.size = w.heap.size + 1 := by simp
  have hC := Copy_any (d := d) (hu.mod hm.drew (fun _ _ h => h)) hb
  have hr : Oct d.b := ⟨hu.rng, hb⟩
  have hX := dnode d.f
  have hY := dnode d.t
  rw [hf] at hX
  rw [ht] at hY
  obtain ⟨ao, cp, e, _⟩ := hu.form
  obtain ⟨f, t, b⟩ := d
  dsimp only at *
  subst e
  obtain ⟨ao', cap', rfl, _⟩ := h.gr.shape
  have hlp := lt_of_block h.blk
  have hl' : ¬ 4096 ≤ (R.length : Int) := by omega
  clear hu hf ht
  have c0 := hA.c0
  go_enter Try.func11, Try.ntmps11
  go_wp2_with (fail)
  refine (hX _).mono ?_
  rintro e w' ⟨rfl, rfl⟩
  go_wp2_with (fail)
  refine (hY _).mono ?_
  rintro e w' ⟨rfl, rfl⟩
  go_wp2
  clear hX hY c0
  generalize w.alloc (.cells #[.int .i64 f, .int .i64 t, .slice ao b.length cp] 30) = W at *
  have q0 : W.cell? ⟨p, 0, none⟩ = some (.slice ao' R.length cap') := hA.c0
  have a0 : W.cell? ⟨w.heap.size, 0, none⟩ = some (.int .i64 f) := by simp [World.cell?, hbk]
  have a1 : W.cell? ⟨w.heap.size, 1, none⟩ = some (.int .i64 t) := by simp [World.cell?, hbk]
  have a2 : W.cell? ⟨w.heap.size, 2, none⟩ = some (.slice ao b.length cp) := by simp [World.cell?, hbk]
  have hC' : Calls Try.prog 12 #[.agg #[.int .i64 f, .int .i64 t, .slice ao b.length cp]] W.drew fun e w' => ∃ r, e = .returned r ∧ (∃ u2, r = .agg #[.int .i64 f, .int .i64 t, u2] ∧ Own w' u2 b ∧ Mod (fun _ => False) W.drew w' ∧ (∀ g, u2.ownBlock = some g → W.drew.heap.size ≤ g)) := by
    refine hC.mono ?_
    rintro e w' ⟨u2, rfl, r⟩
    exact ⟨_, rfl, u2, rfl, r⟩
  clear hC
  go_region_law ((first | (refine step_call1 (by rfl) _ (by rfl) _ (by rfl) _ hC' ?_; rintro r w2 ⟨u2, rfl, hu2, hm2, hn2⟩; replace a0 : w2.cell? ⟨w.heap.size, 0, none⟩ = some (.int .i64 f) := hm2.cell a0 (fun h => h); replace a1 : w2.cell? ⟨w.heap.size, 1, none⟩ = some (.int .i64 t) := hm2.cell a1 (fun h => h); replace a2 : w2.cell? ⟨w.heap.size, 2, none⟩ = some (.slice ao b.length cp) := hm2.cell a2 (fun h => h); have hB := (hA.mod ((Mod.refl (fun _ => False) W).drew) (fun _ _ h => h)).mod hm2 (fun _ _ h => h); replace q0 : w2.cell? ⟨p, 0, none⟩ = some (.slice ao' R.length cap') := hB.c0; have hal : ∀ o : Obj, (w2.alloc o).cell? ⟨p, 0, none⟩ = some (.slice ao' R.length cap') := fun o => (hB.mod ((Mod.refl (fun _ => False) w2).alloc o) (fun _ _ h => h)).c0; obtain ⟨ao2, cp2, e2⟩ := hu2.shape; subst e2; have hrow := fun o => owns_mod hB.gr.row ((Mod.refl (fun _ => False) w2).alloc o) (fun _ _ h => h); have hgr : ∀ (o : Obj) (w3 : World), (w2.alloc o).grownBy w3 (Value.slice ao' R.length cap').ownBlock → w3.cell? ⟨p, 0, none⟩ = some (.slice ao' R.length cap') ∧ w3.frozen? ⟨p, 0, none⟩ = false := fun o w3 hg => by { have hm1 : Mod (fun k => (Value.slice ao' R.length cap').ownBlock = some k) w2 w3 := ((Mod.refl _ w2).alloc o).grown hg (fun k hk _ => hk); have hb := hm1.obj hB.blk (fun e => hB.far (.inl e)); exact ⟨by simp [World.cell?, hb], by simp [World.frozen?, hb]⟩ }) | (refine step_append_lies _ (by rfl) _ _ 45 (by rfl) 0 30 i0 _ 3 40 Try.underlying45 hi hz0 hz1 hz2 rfl (by decide) (.slice ao' R.length cap') R.length (cel R) (by rfl) (hrow _) ⟨w2.heap.size, 0, none⟩ 1 1 [.int .i64 f, .int .i64 t, .slice ao2 b.length cp2] (by rfl) rfl (by exact app3 _ _ _ _ _) (by simp [Value.oneCell']) (by omega) (by simp only [maxLen]; omega) (by omega) (Nat.zero_le _) (w2.heap.size + 1) (by simp) ?_; intro g cap1 w3 hown1 hgrow hg hlt; obtain ⟨hk1, hk2⟩ := hgr _ w3 hgrow)))
  all_goals
    have hm3 : Mod (fun k => (Value.slice ao' R.length cap').ownBlock = some k) w2 w3 := ((Mod.refl _ w2).alloc _).grown hgrow (fun k hk _ => hk)
    have hMw : Mod (fun _ => False) w w2 := hm.drew.and hm2
    have hws := hMw.size
    have hsd : W.drew.heap.size = w.heap.size + 1 := hsz
    have G := h.gr.app (d := ⟨f, t, b⟩) hMw hu2 hr (fun g hg => by have := hn2 g hg; omega) hown1 hm3 (fun g' hg' => by
      simp only [Value.ownBlock, Option.some.injEq] at hg'
      subst hg'
      rcases hg with h1 | h1
      · exact .inl h1
      · exact .inr (by omega))
    have T := h.store G.1 (G.2.1.mono fun k _ hk => .inl hk) G.2.2
    clear hk1 hk2 hgr hal hrow hown1 hgrow G
    go_wp2
    go_ret
    exact ⟨rfl, _, _, T.1, T.2.1, T.2.2⟩
theorem dPut_any {p : Nat} {L : List Dg} {a : List Bool} {F : Nat → Prop} {d : Dg} {u : Value} {w : World} (h : Da w p L a F) (hu : Sl w u d.b) (hb : d.b.length ≤ 140737488355328) :
    Calls Try.prog 11 #[.pointer (some ⟨p, 0, none⟩), .agg #[.int .i64 d.f, .int .i64 d.t, u]] w fun e w' => e = .returned (.int .i64 (pE L d)) ∧ ∃ F', Da w' p (pL L d) a F' ∧ Gone w w' F F' := by
  obtain ⟨v, R, h, rfl, rfl⟩ := h
  have hlen : (R.map Prod.fst).length = R.length := by simp
  unfold pE pL
  cases hn : nd d.f && nd d.t with
  | false =>
    refine (dPut_node p d u w hu hn).mono ?_
    rintro e w' ⟨rfl, hm⟩
    exact ⟨rfl, _, ⟨v, R, h.mod hm (fun _ _ h => h), rfl, rfl⟩, Gone.none hm⟩
  | true =>
    rw [Bool.and_eq_true] at hn
    simp only [if_true]
    unfold aE aL
    rw [hlen]
    by_cases hl : 4096 ≤ R.length
    · rw [if_pos hl, if_pos hl]
      refine (dPut_full d u w h hl hu hn.1 hn.2).mono ?_
      rintro e w' ⟨rfl, hm⟩
      exact ⟨rfl, _, ⟨v, R, h.mod hm (fun _ _ h => h), rfl, rfl⟩, Gone.none hm⟩
    · rw [if_neg hl, if_neg hl]
      refine (dPut_ok d u w h (by omega) hu hb hn.1 hn.2).mono ?_
      rintro e w' ⟨rfl, v2, u2, hL, hG⟩
      exact ⟨rfl, _, ⟨v2, _, hL, by simp, rfl⟩, hG⟩
theorem Dn.at {w : World} {p : Nat} {v : Value} {R : List (Dg × Value)} {a : List Bool} (h : Dn w p v R a) {i : Nat} (hi : i < R.length) : ∃ g cap x, v = .slice (some ⟨g, 0, none⟩) R.length cap ∧ R.length ≤ cap ∧ cap ≤ maxLen ∧ R[i]? = some x ∧ w.cell? ⟨g, i * 3, none⟩ = some (.int .i64 x.1.f) ∧ w.cell? ⟨g, i * 3 + 1, none⟩ = some (.int .i64 x.1.t) ∧ w.cell? ⟨g, i * 3 + 2, none⟩ = some x.2 ∧ Own w x.2 x.1.b ∧ Oct x.1.b := by
  obtain ⟨ao, cap, rfl, h1, h2, h3⟩ := h.gr.shape
  obtain ⟨g, rfl, hc⟩ := h3 (by omega)
  have hx : R[i]? = some R[i] := by simp [hi]
  obtain ⟨e0, e1, e2⟩ := cel_get R i _ hx
  obtain ⟨o1, o2⟩ := h.gr.own R[i] (List.mem_of_getElem? hx)
  exact ⟨g, cap, R[i], rfl, h1, h2, hx, hc _ _ e0, hc _ _ e1, hc _ _ e2, o1, o2⟩
/-- The document's Double. -/
def eE (L : List Dg) (i : Int) : Int := if i < 0 ∨ (L.length : Int) ≤ i then 9 else pE L (L.getD i.toNat ⟨0, 0, []⟩)
def eL (L : List Dg) (i : Int) : List Dg := if i < 0 ∨ (L.length : Int) ≤ i then L else pL L (L.getD i.toNat ⟨0, 0, []⟩)
set_option maxRecDepth 100000 in
set_option maxHeartbeats 1000000 in
theorem dDouble_any {p : Nat} {L : List Dg} {a : List Bool} {F : Nat → Prop} {i : Int} {w : World} (h : Da w p L a F) : Calls Try.prog 17 #[.pointer (some ⟨p, 0, none⟩), .int .i64 i] w fun e w' => e = .returned (.int .i64 (eE L i)) ∧ ∃ F', Da w' p (eL L i) a F' ∧ Gone w w' F F' := by
  have h0 := h
  obtain ⟨v, R, h, e, eF⟩ := h
  have hN := has_any (i := i) h
  rw [show R.length = L.length by rw [← e]; simp] at hN
  unfold eE eL
  by_cases hi : i < 0 ∨ (L.length : Int) ≤ i
  · rw [if_pos hi, if_pos hi]
    rw [decide_eq_false (fun hn => hn hi)] at hN
    clear h hi
    go_enter Try.func17, Try.ntmps17
    go_wp2_with (go_at_call 34; refine hN.mono ?_; rintro e w' ⟨rfl, rfl⟩)
    go_ret
    exact ⟨rfl, F, h0, Gone.refl _ _⟩
  · rw [if_neg hi, if_neg hi]
    rw [decide_eq_true hi] at hN
    obtain ⟨k, rfl⟩ : ∃ k : Nat, i = k := ⟨i.toNat, by omega⟩
    have hk : k < R.length := by
      have : R.length = L.length := by rw [← e]; simp
      omega
    obtain ⟨g, cap, x, rfl, hc1, hc2, hx, e0, e1, e2, o1, o2⟩ := h.at hk
    have c0 := h.c0
    have hC := dPut_any (d := x.1) h0 (o1.sl o2.1) o2.2
    rw [Int.toNat_natCast, getD_of e hx]
    obtain ⟨ao, cp, ev⟩ := o1.shape
    obtain ⟨⟨f, t, b⟩, u⟩ := x
    dsimp only at *
    subst ev
    generalize pE L _ = E at hC ⊢
    generalize pL L _ = L2 at hC ⊢
    generalize R.length = n at *
    clear h o1 o2 hx e hi h0 hc2
    go_enter Try.func17, Try.ntmps17
    go_wp2_with (first | (go_at_call 34; refine hN.mono ?_; rintro e w' ⟨rfl, rfl⟩) | (go_at_call 11; refine hC.mono ?_; rintro e w' ⟨rfl, F', hL', hG⟩))
    go_ret
    exact ⟨rfl, F', hL', hG⟩
end Go.Proofs.Ythmglemjlinlgaa
