/- How a commit, an entry, a ring number and a slice of entries read as arguments. No conditions. -/
import Derived.Test.YtlekmgjjjniomaaUh
import Derived.Test.YtlekmgjjjniomaaRows
import Derived.ProofKit
import Derived.OpenShut
import Derived.Deep.Slices
import Derived.Deep.Strs
import Derived.SizedLaws
import Derived.Lib.SmallJoins
namespace Go.Proofs.Ytlekmgjjjniomaa
open Go.ChangeShapes Go.WideShapes Go.ChangeAt Go.RowKit
theorem own : ownKnob Try.prog.godebug = none := by kernel_rfl
theorem laidOut : laidOutB Try.prog = true := by kernel_rfl
theorem cells3 : Try.prog.cellsOf 3 = 1 := by kernel_rfl
theorem cellsR : Try.prog.cellsOf 23 = 2 := by kernel_rfl
theorem cellsC : Try.prog.cellsOf 26 = 5 := by kernel_rfl
theorem cellsE : Try.prog.cellsOf 28 = 6 := by kernel_rfl
theorem cellsL : Try.prog.cellsOf 24 = 1 := by kernel_rfl
theorem i64_of_wf {n : Int} (h : (Lit.int .i64 n).wf = true) : I64 n := by
  have := bounds_i64 h
  unfold I64
  omega
variable {H : Type} {enc : TypeId × Value → H} {W : World}
theorem trod_fld {P : Program} {w : World} {base : Nat} {spare : Nat → Bool} {held : Bool} {t : TypeId} {fs : Array Field} {fuel : Nat} {cs : List Value} {x : DataW H × List MemPlace} (ht : P.underlying t = some (.struct fs)) (h : DataW.trod enc P w base spare held fuel t cs = some x) :
    ∃ n, ∀ (i : Nat) (f : Field), fs[i]? = some f → ∃ y, DataW.trod enc P w base spare held n f.type ((cs.drop f.offset).take (P.cellsOf f.type)) = some y := by
  obtain ⟨xs, n, _, _, _, hlen, hf⟩ := DataW.trod_struct ht h
  refine ⟨n, fun i f hi => ?_⟩
  have hlt : i < xs.length := by rw [hlen]; exact (Array.getElem?_eq_some_iff.1 hi).1
  rw [hf i f hi, List.getElem?_eq_getElem hlt]
  exact ⟨_, rfl⟩
theorem trodS2 {P : Program} {w : World} {base : Nat} {spare : Nat → Bool} {held : Bool} {t : TypeId} {f0 f1 : Field} {fuel : Nat} {cs : List Value} {x : DataW H × List MemPlace} (ht : P.underlying t = some (.struct #[f0, f1])) (h : DataW.trod enc P w base spare held fuel t cs = some x) :
    ∃ y0 y1 n, DataW.trod enc P w base spare held n f0.type ((cs.drop f0.offset).take (P.cellsOf f0.type)) = some y0 ∧ DataW.trod enc P w base spare held n f1.type ((cs.drop f1.offset).take (P.cellsOf f1.type)) = some y1 := by
  obtain ⟨n, hf⟩ := trod_fld ht h
  obtain ⟨y0, t0⟩ := hf 0 f0 rfl
  obtain ⟨y1, t1⟩ := hf 1 f1 rfl
  exact ⟨y0, y1, n, t0, t1⟩
theorem trodS4 {P : Program} {w : World} {base : Nat} {spare : Nat → Bool} {held : Bool} {t : TypeId} {f0 f1 f2 f3 : Field} {fuel : Nat} {cs : List Value} {x : DataW H × List MemPlace} (ht : P.underlying t = some (.struct #[f0, f1, f2, f3])) (h : DataW.trod enc P w base spare held fuel t cs = some x) :
    ∃ y0 y1 y2 y3 n, DataW.trod enc P w base spare held n f0.type ((cs.drop f0.offset).take (P.cellsOf f0.type)) = some y0 ∧ DataW.trod enc P w base spare held n f1.type ((cs.drop f1.offset).take (P.cellsOf f1.type)) = some y1 ∧ DataW.trod enc P w base spare held n f2.type ((cs.drop f2.offset).take (P.cellsOf f2.type)) = some y2 ∧ DataW.trod enc P w base spare held n f3.type ((cs.drop f3.offset).take (P.cellsOf f3.type)) = some y3 := by
  obtain ⟨n, hf⟩ := trod_fld ht h
  obtain ⟨y0, t0⟩ := hf 0 f0 rfl
  obtain ⟨y1, t1⟩ := hf 1 f1 rfl
  obtain ⟨y2, t2⟩ := hf 2 f2 rfl
  obtain ⟨y3, t3⟩ := hf 3 f3 rfl
  exact ⟨y0, y1, y2, y3, n, t0, t1, t2, t3⟩
theorem trodS5 {P : Program} {w : World} {base : Nat} {spare : Nat → Bool} {held : Bool} {t : TypeId} {f0 f1 f2 f3 f4 : Field} {fuel : Nat} {cs : List Value} {x : DataW H × List MemPlace} (ht : P.underlying t = some (.struct #[f0, f1, f2, f3, f4])) (h : DataW.trod enc P w base spare held fuel t cs = some x) :
    ∃ y0 y1 y2 y3 y4 n, DataW.trod enc P w base spare held n f0.type ((cs.drop f0.offset).take (P.cellsOf f0.type)) = some y0 ∧ DataW.trod enc P w base spare held n f1.type ((cs.drop f1.offset).take (P.cellsOf f1.type)) = some y1 ∧ DataW.trod enc P w base spare held n f2.type ((cs.drop f2.offset).take (P.cellsOf f2.type)) = some y2 ∧ DataW.trod enc P w base spare held n f3.type ((cs.drop f3.offset).take (P.cellsOf f3.type)) = some y3 ∧ DataW.trod enc P w base spare held n f4.type ((cs.drop f4.offset).take (P.cellsOf f4.type)) = some y4 := by
  obtain ⟨n, hf⟩ := trod_fld ht h
  obtain ⟨y0, t0⟩ := hf 0 f0 rfl
  obtain ⟨y1, t1⟩ := hf 1 f1 rfl
  obtain ⟨y2, t2⟩ := hf 2 f2 rfl
  obtain ⟨y3, t3⟩ := hf 3 f3 rfl
  obtain ⟨y4, t4⟩ := hf 4 f4 rfl
  exact ⟨y0, y1, y2, y3, y4, n, t0, t1, t2, t3, t4⟩
theorem int_cell {n : Nat} {c : Value} {y : DataW H × List MemPlace} (h : DataW.trod enc Try.prog W 0 (fun _ => true) true n 3 [c] = some y) : ∃ k, c = .int .i64 k ∧ I64 k := by
  obtain ⟨k, e, _, w⟩ := DataW.trod_int Try.underlying3 h
  simp at e
  exact ⟨k, e, i64_of_wf w⟩
theorem ring_cell {n : Nat} {c0 c1 : Value} {y : DataW H × List MemPlace} (h : DataW.trod enc Try.prog W 0 (fun _ => true) true n 23 [c0, c1] = some y) : ∃ q r : Int, c0 = .int .i64 q ∧ c1 = .int .i64 r ∧ I64 q ∧ I64 r := by
  obtain ⟨y0, y1, n2, t0, t1⟩ := trodS2 Try.underlying23 h
  simp only [cells3, List.drop_zero, List.drop_succ_cons, List.take_succ_cons, List.take_zero] at t0 t1
  obtain ⟨q, rfl, wq⟩ := int_cell t0
  obtain ⟨r, rfl, wr⟩ := int_cell t1
  exact ⟨q, r, rfl, rfl, wq, wr⟩
/-- All numbers of an entry are ints. -/
structure EI (e : Ey) : Prop where
  nd : I64 e.nd
  os : I64 e.os
  od : I64 e.od
  aru : I64 e.aru
  high : I64 e.high
  ck : I64 e.ck
theorem entry_cell {n : Nat} {c0 c1 c2 c3 c4 c5 : Value} {y : DataW H × List MemPlace} (ht : DataW.trod enc Try.prog W 0 (fun _ => true) true n 28 [c0, c1, c2, c3, c4, c5] = some y) : ∃ e : Ey, EI e ∧ c0 = .int .i64 e.nd ∧ c1 = .int .i64 e.os ∧ c2 = .int .i64 e.od ∧ c3 = .int .i64 e.aru ∧ c4 = .int .i64 e.high ∧ c5 = .int .i64 e.ck := by
  obtain ⟨y0, y1, y2, y3, y4, n2, t0, t1, t2, t3, t4⟩ := trodS5 Try.underlying28 ht
  simp only [cells3, cellsR, List.drop_zero, List.drop_succ_cons, List.take_succ_cons, List.take_zero] at t0 t1 t2 t3 t4
  obtain ⟨k0, rfl, w0⟩ := int_cell t0
  obtain ⟨k1, k2, rfl, rfl, w1, w2⟩ := ring_cell t1
  obtain ⟨k3, rfl, w3⟩ := int_cell t2
  obtain ⟨k4, rfl, w4⟩ := int_cell t3
  obtain ⟨k5, rfl, w5⟩ := int_cell t4
  exact ⟨⟨k0, k1, k2, k3, k4, k5⟩, ⟨w0, w1, w2, w3, w4, w5⟩, rfl, rfl, rfl, rfl, rfl, rfl⟩
set_option maxRecDepth 100000 in
theorem slE_of_trod {fuel : Nat} {c : Value} {x : DataW H × List MemPlace} (h : DataW.trod enc Try.prog W 0 (fun _ => true) true fuel 24 [c] = some x) : ∃ l, SlE W c l ∧ ∀ e ∈ l, EI e := by
  rcases Deep.open_slice Try.underlying24 h with ⟨hcs, hx⟩ | ⟨a, len, cap, m, n, D, Pl, hcs, _, hl, hm, hmm, hx, hel⟩
  · cases hcs
    exact ⟨[], SlE.nil _, by simp⟩
  · cases hcs
    simp only [if_true] at hmm
    subst hmm
    rw [cellsE] at hel
    have one : ∀ i, ∃ e : Ey, i < len → EI e ∧ W.cell? (a.add (i * 6)) = some (.int .i64 e.nd) ∧ W.cell? (a.add (i * 6 + 1)) = some (.int .i64 e.os) ∧ W.cell? (a.add (i * 6 + 2)) = some (.int .i64 e.od) ∧ W.cell? (a.add (i * 6 + 3)) = some (.int .i64 e.aru) ∧ W.cell? (a.add (i * 6 + 4)) = some (.int .i64 e.high) ∧ W.cell? (a.add (i * 6 + 5)) = some (.int .i64 e.ck) := by
      intro i
      by_cases hi : i < len
      · obtain ⟨cs, hcells, ht⟩ := hel i (by omega)
        obtain ⟨_, hlen, hc⟩ := World.cells?_some hcells
        match cs, hlen with
        | [c0, c1, c2, c3, c4, c5], _ =>
          obtain ⟨e, hei, rfl, rfl, rfl, rfl, rfl, rfl⟩ := entry_cell ht
          refine ⟨e, fun _ => ?_⟩
          have q0 := hc 0 (by omega)
          have q1 := hc 1 (by omega)
          have q2 := hc 2 (by omega)
          have q3 := hc 3 (by omega)
          have q4 := hc 4 (by omega)
          have q5 := hc 5 (by omega)
          simp only [Deep.add_add] at q0 q1 q2 q3 q4 q5
          simp at q0 q1 q2 q3 q4 q5
          exact ⟨hei, q0, q1, q2, q3, q4, q5⟩
      · exact ⟨⟨0, 0, 0, 0, 0, 0⟩, fun h => absurd h hi⟩
    obtain ⟨f, hfx⟩ := Classical.axiomOfChoice one
    have hEI : ∀ e ∈ (List.range len).map f, EI e := fun e he => by
      obtain ⟨i, hi, rfl⟩ := List.mem_map.1 he
      exact (hfx i (List.mem_range.1 hi)).1
    have hdl : ((List.range len).map f).length = len := by simp
    refine ⟨(List.range len).map f, ⟨some a, m, by rw [hdl], by rw [hdl]; omega, by omega, (by intro h; cases h), fun hne => ?_⟩, hEI⟩
    have h0 : 0 < len := by
      rcases Nat.eq_zero_or_pos len with h | h
      · subst h; simp at hne
      · exact h
    obtain ⟨b, off, spot⟩ := a
    have hc0 := (hfx 0 h0).2.1
    have hspot : spot = none := by simpa [Addr.add] using World.cell?_spot hc0
    subst hspot
    refine ⟨b, off, rfl, fun i d hd => ?_⟩
    have hi : i < len := by
      rcases Nat.lt_or_ge i len with h | h
      · exact h
      · rw [List.getElem?_eq_none (by rw [hdl]; exact h)] at hd; cases hd
    have ed : d = f i := by simpa [hi] using hd.symm
    subst ed
    have := (hfx i hi).2
    simpa only [Cr.add_at, Nat.add_assoc] using this
theorem array5 {α : Type} {xs : Array α} (h : xs.size = 5) : ∃ c0 c1 c2 c3 c4, xs = #[c0, c1, c2, c3, c4] := by
  obtain ⟨l⟩ := xs
  match l, h with
  | [c0, c1, c2, c3, c4], _ => exact ⟨c0, c1, c2, c3, c4, rfl⟩
theorem array6 {α : Type} {xs : Array α} (h : xs.size = 6) : ∃ c0 c1 c2 c3 c4 c5, xs = #[c0, c1, c2, c3, c4, c5] := by
  obtain ⟨l⟩ := xs
  match l, h with
  | [c0, c1, c2, c3, c4, c5], _ => exact ⟨c0, c1, c2, c3, c4, c5, rfl⟩
theorem array2 {α : Type} {xs : Array α} (h : xs.size = 2) : ∃ c0 c1, xs = #[c0, c1] := by
  obtain ⟨l⟩ := xs
  match l, h with
  | [c0, c1], _ => exact ⟨c0, c1, rfl⟩
set_option maxRecDepth 100000 in
theorem open_commit {r : Reach} {base : Nat} {v : Value} {d : DataW H} {p : List MemPlace} (hv : Value.okWide Try.prog W r base 26 v) (h : DataW.Trod enc Try.prog W 0 (fun _ => true) true 26 v d p) : ∃ c : Cm, Cv W v c ∧ I64 c.mem ∧ I64 c.hop := by
  obtain ⟨cs, rfl, hsz⟩ := okWide_struct Try.underlying26 hv
  obtain ⟨c0, c1, c2, c3, c4, rfl⟩ := array5 (hsz.trans cellsC)
  obtain ⟨fuel, hf⟩ := h
  obtain ⟨y0, y1, y2, y3, m, t0, t1, t2, t3⟩ := trodS4 Try.underlying26 (by simpa [Value.cells] using hf)
  simp only [cells3, cellsR, cellsL, List.drop_zero, List.drop_succ_cons, List.take_succ_cons, List.take_zero] at t0 t1 t2 t3
  obtain ⟨q, r, rfl, rfl, _, _⟩ := ring_cell t0
  obtain ⟨mm, rfl, wm⟩ := int_cell t1
  obtain ⟨hp, rfl, wh⟩ := int_cell t2
  obtain ⟨l, hl, _⟩ := slE_of_trod t3
  obtain ⟨ao, cap, rfl, _⟩ := hl.form
  exact ⟨⟨q, r, mm, hp, l⟩, ⟨ao, cap, rfl, hl⟩, wm, wh⟩
set_option maxRecDepth 100000 in
theorem open_entry {r : Reach} {base : Nat} {v : Value} {d : DataW H} {p : List MemPlace} (hv : Value.okWide Try.prog W r base 28 v) (h : DataW.Trod enc Try.prog W 0 (fun _ => true) true 28 v d p) : ∃ e : Ey, v = .agg (eyc e) ∧ EI e := by
  obtain ⟨cs, rfl, hsz⟩ := okWide_struct Try.underlying28 hv
  obtain ⟨c0, c1, c2, c3, c4, c5, rfl⟩ := array6 (hsz.trans cellsE)
  obtain ⟨fuel, hf⟩ := h
  obtain ⟨e, he, rfl, rfl, rfl, rfl, rfl, rfl⟩ := entry_cell (by simpa [Value.cells] using hf)
  exact ⟨e, rfl, he⟩
set_option maxRecDepth 100000 in
theorem open_ring {r : Reach} {base : Nat} {v : Value} {d : DataW H} {p : List MemPlace} (hv : Value.okWide Try.prog W r base 23 v) (h : DataW.Trod enc Try.prog W 0 (fun _ => true) true 23 v d p) : ∃ q s : Int, v = .agg #[.int .i64 q, .int .i64 s] := by
  obtain ⟨cs, rfl, hsz⟩ := okWide_struct Try.underlying23 hv
  obtain ⟨c0, c1, rfl⟩ := array2 (hsz.trans cellsR)
  obtain ⟨fuel, hf⟩ := h
  obtain ⟨q, s, rfl, rfl, _, _⟩ := ring_cell (by simpa [Value.cells] using hf)
  exact ⟨q, s, rfl⟩
theorem open_entries {v : Value} {d : DataW H} {p : List MemPlace} (h : DataW.Trod enc Try.prog W 0 (fun _ => true) true 24 v d p) (hv : ∃ ao n cap, v = .slice ao n cap) : ∃ l : List Ey, SlE W v l ∧ ∀ e ∈ l, EI e := by
  obtain ⟨ao, n, cap, rfl⟩ := hv
  obtain ⟨fuel, hf⟩ := h
  exact slE_of_trod (by simpa [Value.cells] using hf)
end Go.Proofs.Ytlekmgjjjniomaa
