/- How a slice of deeds of the law WindowPlays reads as an argument. No conditions. -/
import Derived.Test.YtejlcoakencdiaaYn
namespace Go.Proofs.Ytejlcoakencdiaa
open Go.ChangeShapes Go.WideShapes Go.ChangeAt Go.RowKit
/-- A deed's cells. -/
def ocl (e : Bool × Int × Dt × Value) : List Value := .bool e.1 :: .int .i64 e.2.1 :: dcl e.2.2.1 e.2.2.2
/-- A slice of deeds. -/
structure Dos (w : World) (val : Value) (es : List (Bool × Int × Dt × Value)) : Prop where
  form : ∃ ao cap, val = .slice ao es.length cap ∧ es.length ≤ maxLen ∧ (es ≠ [] → ∃ b off, ao = some ⟨b, off, none⟩ ∧ ∀ i e, es[i]? = some e → w.rangeAt b (off + i * 20) (ocl e))
  each : ∀ e ∈ es, Sl w e.2.2.2 e.2.2.1.m.body ∧ e.2.2.1.m.body.length ≤ 140737488355328 ∧ I64 e.2.1
section
variable {H : Type} {enc : TypeId × Value → H} {W : World}
theorem weights_all {e : TypeId} {l : List (DataW H)} {d : DataW H} (hd : d ∈ l) {n : Nat} (hn : n ∈ d.weights Try.prog e) : n ∈ DataW.weightsAll Try.prog e l := by
  induction l with
  | nil => cases hd
  | cons a r ih =>
    rw [DataW.weightsAll, List.mem_append]
    rcases List.mem_cons.1 hd with rfl | hd
    · exact .inl hn
    · exact .inr (ih hd)
theorem cellsDt : Try.prog.cellsOf 35 = 18 := by kernel_rfl
theorem cellsDo : Try.prog.cellsOf 37 = 20 := by kernel_rfl
set_option maxRecDepth 100000 in
theorem trod_struct5 {P : Program} {w : World} {base : Nat} {spare : Nat → Bool} {held : Bool} {t : TypeId} {f0 f1 f2 f3 f4 : Field} {fuel : Nat} {cs : List Value} {x : DataW H × List MemPlace} (ht : P.underlying t = some (.struct #[f0, f1, f2, f3, f4])) (h : DataW.trod enc P w base spare held fuel t cs = some x) :
    ∃ y0 y1 y2 y3 y4 n, x.1 = .agg [y0.1, y1.1, y2.1, y3.1, y4.1] ∧ DataW.trod enc P w base spare held n f0.type ((cs.drop f0.offset).take (P.cellsOf f0.type)) = some y0 ∧ DataW.trod enc P w base spare held n f1.type ((cs.drop f1.offset).take (P.cellsOf f1.type)) = some y1 ∧ DataW.trod enc P w base spare held n f2.type ((cs.drop f2.offset).take (P.cellsOf f2.type)) = some y2 ∧ DataW.trod enc P w base spare held n f3.type ((cs.drop f3.offset).take (P.cellsOf f3.type)) = some y3 ∧ DataW.trod enc P w base spare held n f4.type ((cs.drop f4.offset).take (P.cellsOf f4.type)) = some y4 := by
  obtain ⟨xs, n, _, rfl, hl, hlen, hf⟩ := DataW.trod_struct ht h
  match xs, hlen with
  | [y0, y1, y2, y3, y4], _ => exact ⟨y0, y1, y2, y3, y4, n, rfl, by simpa using hf 0 f0 rfl, by simpa using hf 1 f1 rfl, by simpa using hf 2 f2 rfl, by simpa using hf 3 f3 rfl, by simpa using hf 4 f4 rfl⟩
theorem ring_cells {n : Nat} {c0 c1 : Value} {x : DataW H × List MemPlace} {sp : Nat → Bool} (h : DataW.trod enc Try.prog W 0 sp true n 28 [c0, c1] = some x) :
    ∃ q r : Int, c0 = .int .i64 q ∧ c1 = .int .i64 r ∧ (Lit.int .i64 q).wf = true ∧ (Lit.int .i64 r).wf = true := by
  obtain ⟨z0, z1, m', _, _, u0, u1⟩ := trod_struct2 Try.underlying28 h
  simp only [cells3, List.drop_zero, List.drop_succ_cons, List.take_succ_cons, List.take_zero] at u0 u1
  obtain ⟨k1, e1, _, w1⟩ := DataW.trod_int Try.underlying3 u0
  obtain ⟨k2, e2, _, w2⟩ := DataW.trod_int Try.underlying3 u1
  simp at e1 e2
  exact ⟨k1, k2, e1, e2, w1, w2⟩
set_option maxRecDepth 100000 in
theorem trod_struct3 {P : Program} {w : World} {base : Nat} {spare : Nat → Bool} {held : Bool} {t : TypeId} {f0 f1 f2 : Field} {fuel : Nat} {cs : List Value} {x : DataW H × List MemPlace} (ht : P.underlying t = some (.struct #[f0, f1, f2])) (h : DataW.trod enc P w base spare held fuel t cs = some x) :
    ∃ y0 y1 y2 n, x.1 = .agg [y0.1, y1.1, y2.1] ∧ DataW.trod enc P w base spare held n f0.type ((cs.drop f0.offset).take (P.cellsOf f0.type)) = some y0 ∧ DataW.trod enc P w base spare held n f1.type ((cs.drop f1.offset).take (P.cellsOf f1.type)) = some y1 ∧ DataW.trod enc P w base spare held n f2.type ((cs.drop f2.offset).take (P.cellsOf f2.type)) = some y2 := by
  obtain ⟨xs, n, _, rfl, hl, hlen, hf⟩ := DataW.trod_struct ht h
  match xs, hlen with
  | [y0, y1, y2], _ => exact ⟨y0, y1, y2, n, rfl, by simpa using hf 0 f0 rfl, by simpa using hf 1 f1 rfl, by simpa using hf 2 f2 rfl⟩
set_option maxRecDepth 100000 in
theorem data_of_trod {n : Nat} {c0 c1 c2 c3 c4 c5 c6 c7 c8 c9 c10 c11 c12 c13 c14 c15 c16 c17 : Value} {x : DataW H × List MemPlace} (h : DataW.trod enc Try.prog W 0 (fun _ => true) true n 35 [c0, c1, c2, c3, c4, c5, c6, c7, c8, c9, c10, c11, c12, c13, c14, c15, c16, c17] = some x) (hsz : ∀ n ∈ x.1.weights Try.prog 35, n ≤ reachBytes) :
    ∃ (d : Dt) (v : Value), [c0, c1, c2, c3, c4, c5, c6, c7, c8, c9, c10, c11, c12, c13, c14, c15, c16, c17] = dcl d v ∧ Sl W v d.m.body ∧ d.m.body.length ≤ 140737488355328 := by
  obtain ⟨y0, y1, y2, y3, y4, m, hx, t0, t1, t2, t3, t4⟩ := trod_struct5 Try.underlying35 h
  simp only [cells3, cellsR, cellsM, List.drop_zero, List.drop_succ_cons, List.take_succ_cons, List.take_zero] at t0 t1 t2 t3 t4
  obtain ⟨q, r, rfl, rfl, wq, wr⟩ := ring_cells t0
  obtain ⟨k1, e1, _, w1⟩ := DataW.trod_int Try.underlying3 t1
  obtain ⟨k2, e2, _, w2⟩ := DataW.trod_int Try.underlying3 t2
  obtain ⟨k3, e3, _, w3⟩ := DataW.trod_int Try.underlying3 t3
  simp at e1 e2 e3
  obtain ⟨k, o, lf, i, pt, ps, g, s, st, rs, rr, sq, l, ⟨rfl, rfl, rfl, rfl, rfl, rfl, rfl, rfl, rfl, rfl, rfl, rfl⟩, hs, hr, parts, d9, hd, h9, hb⟩ := msg_cells t4
  subst e1 e2 e3
  refine ⟨⟨q, r, k1, k2, k3, ⟨k, o, lf, i, pt, ps, g, s, st, rs, rr, sq, l⟩⟩, c17, rfl, hs, ?_⟩
  show l.length ≤ 140737488355328
  have h2 := reachBytes_lt
  rcases hb with ⟨_, rfl⟩ | ⟨e, s', rfl, he⟩
  · simp
  · have hin : (e.length + s'.length) * Try.prog.bytesOf 5 ∈ y4.1.weights Try.prog 33 := by
      rw [hd, weights_agg Try.prog Try.underlying33]
      exact DataW.weights_mem_each (t := 31) (j := 9) rfl h9 _ (by simp [DataW.weights, Try.underlying31])
    have := hsz _ (by
      rw [hx, weights_agg Try.prog Try.underlying35]
      exact DataW.weights_mem_each (t := 33) (j := 4) rfl (d := y4.1) rfl _ hin)
    rw [bytes5] at this
    omega
theorem ocl_lt {e : Bool × Int × Dt × Value} {t : Nat} {c : Value} (h : (ocl e)[t]? = some c) : t < 20 := by
  rcases Nat.lt_or_ge t 20 with h' | h'
  · exact h'
  · rw [List.getElem?_eq_none (by exact h')] at h; cases h
set_option maxRecDepth 100000 in
theorem open_dos {v : Value} {d : DataW H} {p : List MemPlace} (h : DataW.Trod enc Try.prog W 0 (fun _ => true) true 22 v d p) (hv : ∃ ao len cap, v = .slice ao len cap) (hsz : ∀ n ∈ d.weights Try.prog 22, n ≤ reachBytes) :
    ∃ es, Dos W v es := by
  obtain ⟨ao0, len0, cap0, rfl⟩ := hv
  obtain ⟨fuel, hf⟩ := h
  rcases Deep.open_slice Try.underlying22 hf with ⟨hcs, hx⟩ | ⟨a, len, cap, m, n, D, Pl, hcs, _, hl, hm, hmm, hx, hel⟩
  · simp [Value.cells] at hcs
    obtain ⟨rfl, rfl, rfl⟩ := hcs
    exact ⟨[], ⟨⟨none, 0, rfl, by simp [maxLen], fun h => absurd rfl h⟩, by simp⟩⟩
  · simp [Value.cells] at hcs
    obtain ⟨rfl, rfl, rfl⟩ := hcs
    simp only [if_true] at hmm
    subst hmm
    rw [cellsDo] at hel
    simp only [Prod.mk.injEq] at hx
    obtain ⟨rfl, rfl⟩ := hx
    have one : ∀ i, ∃ x : Bool × Int × Dt × Value, i < len0 → (∀ t c, (ocl x)[t]? = some c → W.cell? (a.add (i * 20 + t)) = some c) ∧ (Sl W x.2.2.2 x.2.2.1.m.body ∧ x.2.2.1.m.body.length ≤ 140737488355328 ∧ I64 x.2.1) := by
      intro i
      by_cases hi : i < len0
      · obtain ⟨cs, hcells, ht⟩ := hel i (by omega)
        obtain ⟨_, hlen, hc⟩ := World.cells?_some hcells
        obtain ⟨y0, y1, y2, k, hy, t0, t1, t2⟩ := trod_struct3 Try.underlying37 ht
        match cs, hlen with
        | [b0, b1, c0, c1, c2, c3, c4, c5, c6, c7, c8, c9, c10, c11, c12, c13, c14, c15, c16, c17], _ =>
          simp only [cells3, cells4, cellsDt, List.drop_zero, List.drop_succ_cons, List.take_succ_cons, List.take_zero] at t0 t1 t2
          obtain ⟨k0, e0, r0⟩ := DataW.trod_bool Try.underlying4 t0
          obtain ⟨k1, e1, r1, w1⟩ := DataW.trod_int Try.underlying3 t1
          simp at e0 e1
          subst e0 e1
          have eD : D i = .agg [y0.1, y1.1, y2.1] := hy
          obtain ⟨dd, vv, hdc, hsl, hbl⟩ := data_of_trod t2 (fun n hn => hsz n (by
            rw [DataW.weights, Try.underlying22]
            refine List.mem_cons_of_mem _ (List.mem_append_left _ (weights_all (List.mem_map_of_mem (List.mem_range.2 hi)) ?_))
            rw [eD, weights_agg Try.prog Try.underlying37]
            exact DataW.weights_mem_each (t := 35) (j := 2) rfl rfl n hn))
          refine ⟨(k0, k1, dd, vv), fun _ => ⟨fun t c hj => ?_, hsl, hbl, by have := bounds_i64 w1; exact this⟩⟩
          have ht20 := ocl_lt hj
          have q := hc t ht20
          rw [Deep.add_add] at q
          rw [q, ← hj]
          unfold ocl
          rw [← hdc]
      · exact ⟨(false, 0, d0, .slice none 0 0), fun h => absurd h hi⟩
    obtain ⟨f, hfx⟩ := Classical.axiomOfChoice one
    have hdl : ((List.range len0).map f).length = len0 := by simp
    refine ⟨(List.range len0).map f, ⟨⟨some a, m, by rw [hdl], by rw [hdl]; omega, fun hne => ?_⟩, ?_⟩⟩
    · have h0 : 0 < len0 := by
        rcases Nat.eq_zero_or_pos len0 with h | h
        · subst h; simp at hne
        · exact h
      obtain ⟨b, off, spot⟩ := a
      have hc0 := (hfx 0 h0).1 0 _ rfl
      have hspot : spot = none := by simpa [Addr.add] using World.cell?_spot hc0
      subst hspot
      refine ⟨b, off, rfl, fun i d hd j c hj => ?_⟩
      have hi : i < len0 := by
        rcases Nat.lt_or_ge i len0 with h | h
        · exact h
        · rw [List.getElem?_eq_none (by rw [hdl]; exact h)] at hd; cases hd
      have ed : d = f i := by simpa [hi] using hd.symm
      subst ed
      have := (hfx i hi).1 j c hj
      simpa only [Addr.add_mid, Nat.add_assoc] using this
    · intro d hd
      obtain ⟨i, hi, rfl⟩ := List.mem_map.1 hd
      exact (hfx i (List.mem_range.1 hi)).2
end
end Go.Proofs.Ytejlcoakencdiaa
