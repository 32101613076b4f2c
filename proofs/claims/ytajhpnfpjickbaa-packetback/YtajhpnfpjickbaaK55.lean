/- How a packet reads as an argument: ints, a message, a slice of ints, a slice of entries. No conditions. -/
import Derived.Test.YtajhpnfpjickbaaK53
import Derived.Test.YtajhpnfpjickbaaK54
namespace Go.Proofs.Ytajhpnfpjickbaa
open Go.ChangeShapes Go.WideShapes Go.ChangeAt Go.RowKit
variable {H : Type} {enc : TypeId × Value → H} {W : World}
theorem cellsT : Try.prog.cellsOf 67 = 9 := by kernel_rfl
theorem cellsJ : Try.prog.cellsOf 69 = 3 := by kernel_rfl
theorem cellsC : Try.prog.cellsOf 72 = 5 := by kernel_rfl
theorem cellsN : Try.prog.cellsOf 74 = 3 := by kernel_rfl
theorem cellsE : Try.prog.cellsOf 167 = 6 := by kernel_rfl
theorem cellsI : Try.prog.cellsOf 65 = 1 := by kernel_rfl
theorem cellsL : Try.prog.cellsOf 70 = 1 := by kernel_rfl
theorem cellsP : Try.prog.cellsOf 76 = 40 := by kernel_rfl
theorem trod_fld {P : Program} {w : World} {base : Nat} {spare : Nat → Bool} {held : Bool} {t : TypeId} {fs : Array Field} {fuel : Nat} {cs : List Value} {x : DataW H × List MemPlace} (ht : P.underlying t = some (.struct fs)) (h : DataW.trod enc P w base spare held fuel t cs = some x) :
    ∃ n, ∀ (i : Nat) (f : Field), fs[i]? = some f → ∃ y, DataW.trod enc P w base spare held n f.type ((cs.drop f.offset).take (P.cellsOf f.type)) = some y := by
  obtain ⟨xs, n, _, _, _, hlen, hf⟩ := DataW.trod_struct ht h
  refine ⟨n, fun i f hi => ?_⟩
  have hlt : i < xs.length := by rw [hlen]; exact (Array.getElem?_eq_some_iff.1 hi).1
  rw [hf i f hi, List.getElem?_eq_getElem hlt]
  exact ⟨_, rfl⟩
theorem trodS2 {P : Program} {w : World} {base : Nat} {spare : Nat → Bool} {held : Bool} {t : TypeId} {f0 f1 : Field} {fuel : Nat} {cs : List Value} {x : DataW H × List MemPlace} (ht : P.underlying t = some (.struct #[f0, f1])) (h : DataW.trod enc P w base spare held fuel t cs = some x) :
    ∃ y0 y1 n, DataW.trod enc P w base spare held n f0.type ((cs.drop f0.offset).take (P.cellsOf f0.type)) = some y0 ∧ DataW.trod enc P w base spare held n f1.type ((cs.drop f1.offset).take (P.cellsOf f1.type)) = some y1 := by
  obtain ⟨n, hf⟩ := trod_fld ht h
  obtain ⟨y0, t0⟩ := hf 0 f0 rfl
  obtain ⟨y1, t1⟩ := hf 1 f1 rfl
  exact ⟨y0, y1, n, t0, t1⟩
theorem trodS3 {P : Program} {w : World} {base : Nat} {spare : Nat → Bool} {held : Bool} {t : TypeId} {f0 f1 f2 : Field} {fuel : Nat} {cs : List Value} {x : DataW H × List MemPlace} (ht : P.underlying t = some (.struct #[f0, f1, f2])) (h : DataW.trod enc P w base spare held fuel t cs = some x) :
    ∃ y0 y1 y2 n, DataW.trod enc P w base spare held n f0.type ((cs.drop f0.offset).take (P.cellsOf f0.type)) = some y0 ∧ DataW.trod enc P w base spare held n f1.type ((cs.drop f1.offset).take (P.cellsOf f1.type)) = some y1 ∧ DataW.trod enc P w base spare held n f2.type ((cs.drop f2.offset).take (P.cellsOf f2.type)) = some y2 := by
  obtain ⟨n, hf⟩ := trod_fld ht h
  obtain ⟨y0, t0⟩ := hf 0 f0 rfl
  obtain ⟨y1, t1⟩ := hf 1 f1 rfl
  obtain ⟨y2, t2⟩ := hf 2 f2 rfl
  exact ⟨y0, y1, y2, n, t0, t1, t2⟩
theorem trodS4 {P : Program} {w : World} {base : Nat} {spare : Nat → Bool} {held : Bool} {t : TypeId} {f0 f1 f2 f3 : Field} {fuel : Nat} {cs : List Value} {x : DataW H × List MemPlace} (ht : P.underlying t = some (.struct #[f0, f1, f2, f3])) (h : DataW.trod enc P w base spare held fuel t cs = some x) :
    ∃ y0 y1 y2 y3 n, DataW.trod enc P w base spare held n f0.type ((cs.drop f0.offset).take (P.cellsOf f0.type)) = some y0 ∧ DataW.trod enc P w base spare held n f1.type ((cs.drop f1.offset).take (P.cellsOf f1.type)) = some y1 ∧ DataW.trod enc P w base spare held n f2.type ((cs.drop f2.offset).take (P.cellsOf f2.type)) = some y2 ∧ DataW.trod enc P w base spare held n f3.type ((cs.drop f3.offset).take (P.cellsOf f3.type)) = some y3 := by
  obtain ⟨n, hf⟩ := trod_fld ht h
  obtain ⟨y0, t0⟩ := hf 0 f0 rfl
  obtain ⟨y1, t1⟩ := hf 1 f1 rfl
  obtain ⟨y2, t2⟩ := hf 2 f2 rfl
  obtain ⟨y3, t3⟩ := hf 3 f3 rfl
  exact ⟨y0, y1, y2, y3, n, t0, t1, t2, t3⟩
theorem trodS5 {P : Program} {w : World} {base : Nat} {spare : Nat → Bool} {held : Bool} {t : TypeId} {f0 f1 f2 f3 f4 : Field} {fuel : Nat} {cs : List Value} {x : DataW H × List MemPlace} (ht : P.underlying t = some (.struct #[f0, f1, f2, f3, f4])) (h : DataW.trod enc P w base spare held fuel t cs = some x) :
    ∃ y0 y1 y2 y3 y4 n, DataW.trod enc P w base spare held n f0.type ((cs.drop f0.offset).take (P.cellsOf f0.type)) = some y0 ∧ DataW.trod enc P w base spare held n f1.type ((cs.drop f1.offset).take (P.cellsOf f1.type)) = some y1 ∧ DataW.trod enc P w base spare held n f2.type ((cs.drop f2.offset).take (P.cellsOf f2.type)) = some y2 ∧ DataW.trod enc P w base spare held n f3.type ((cs.drop f3.offset).take (P.cellsOf f3.type)) = some y3 ∧ DataW.trod enc P w base spare held n f4.type ((cs.drop f4.offset).take (P.cellsOf f4.type)) = some y4 := by
  obtain ⟨n, hf⟩ := trod_fld ht h
  obtain ⟨y0, t0⟩ := hf 0 f0 rfl
  obtain ⟨y1, t1⟩ := hf 1 f1 rfl
  obtain ⟨y2, t2⟩ := hf 2 f2 rfl
  obtain ⟨y3, t3⟩ := hf 3 f3 rfl
  obtain ⟨y4, t4⟩ := hf 4 f4 rfl
  exact ⟨y0, y1, y2, y3, y4, n, t0, t1, t2, t3, t4⟩
theorem trodS7 {P : Program} {w : World} {base : Nat} {spare : Nat → Bool} {held : Bool} {t : TypeId} {f0 f1 f2 f3 f4 f5 f6 : Field} {fuel : Nat} {cs : List Value} {x : DataW H × List MemPlace} (ht : P.underlying t = some (.struct #[f0, f1, f2, f3, f4, f5, f6])) (h : DataW.trod enc P w base spare held fuel t cs = some x) :
    ∃ y0 y1 y2 y3 y4 y5 y6 n, DataW.trod enc P w base spare held n f0.type ((cs.drop f0.offset).take (P.cellsOf f0.type)) = some y0 ∧ DataW.trod enc P w base spare held n f1.type ((cs.drop f1.offset).take (P.cellsOf f1.type)) = some y1 ∧ DataW.trod enc P w base spare held n f2.type ((cs.drop f2.offset).take (P.cellsOf f2.type)) = some y2 ∧ DataW.trod enc P w base spare held n f3.type ((cs.drop f3.offset).take (P.cellsOf f3.type)) = some y3 ∧ DataW.trod enc P w base spare held n f4.type ((cs.drop f4.offset).take (P.cellsOf f4.type)) = some y4 ∧ DataW.trod enc P w base spare held n f5.type ((cs.drop f5.offset).take (P.cellsOf f5.type)) = some y5 ∧ DataW.trod enc P w base spare held n f6.type ((cs.drop f6.offset).take (P.cellsOf f6.type)) = some y6 := by
  obtain ⟨n, hf⟩ := trod_fld ht h
  obtain ⟨y0, t0⟩ := hf 0 f0 rfl
  obtain ⟨y1, t1⟩ := hf 1 f1 rfl
  obtain ⟨y2, t2⟩ := hf 2 f2 rfl
  obtain ⟨y3, t3⟩ := hf 3 f3 rfl
  obtain ⟨y4, t4⟩ := hf 4 f4 rfl
  obtain ⟨y5, t5⟩ := hf 5 f5 rfl
  obtain ⟨y6, t6⟩ := hf 6 f6 rfl
  exact ⟨y0, y1, y2, y3, y4, y5, y6, n, t0, t1, t2, t3, t4, t5, t6⟩
theorem trodS8 {P : Program} {w : World} {base : Nat} {spare : Nat → Bool} {held : Bool} {t : TypeId} {f0 f1 f2 f3 f4 f5 f6 f7 : Field} {fuel : Nat} {cs : List Value} {x : DataW H × List MemPlace} (ht : P.underlying t = some (.struct #[f0, f1, f2, f3, f4, f5, f6, f7])) (h : DataW.trod enc P w base spare held fuel t cs = some x) :
    ∃ y0 y1 y2 y3 y4 y5 y6 y7 n, DataW.trod enc P w base spare held n f0.type ((cs.drop f0.offset).take (P.cellsOf f0.type)) = some y0 ∧ DataW.trod enc P w base spare held n f1.type ((cs.drop f1.offset).take (P.cellsOf f1.type)) = some y1 ∧ DataW.trod enc P w base spare held n f2.type ((cs.drop f2.offset).take (P.cellsOf f2.type)) = some y2 ∧ DataW.trod enc P w base spare held n f3.type ((cs.drop f3.offset).take (P.cellsOf f3.type)) = some y3 ∧ DataW.trod enc P w base spare held n f4.type ((cs.drop f4.offset).take (P.cellsOf f4.type)) = some y4 ∧ DataW.trod enc P w base spare held n f5.type ((cs.drop f5.offset).take (P.cellsOf f5.type)) = some y5 ∧ DataW.trod enc P w base spare held n f6.type ((cs.drop f6.offset).take (P.cellsOf f6.type)) = some y6 ∧ DataW.trod enc P w base spare held n f7.type ((cs.drop f7.offset).take (P.cellsOf f7.type)) = some y7 := by
  obtain ⟨n, hf⟩ := trod_fld ht h
  obtain ⟨y0, t0⟩ := hf 0 f0 rfl
  obtain ⟨y1, t1⟩ := hf 1 f1 rfl
  obtain ⟨y2, t2⟩ := hf 2 f2 rfl
  obtain ⟨y3, t3⟩ := hf 3 f3 rfl
  obtain ⟨y4, t4⟩ := hf 4 f4 rfl
  obtain ⟨y5, t5⟩ := hf 5 f5 rfl
  obtain ⟨y6, t6⟩ := hf 6 f6 rfl
  obtain ⟨y7, t7⟩ := hf 7 f7 rfl
  exact ⟨y0, y1, y2, y3, y4, y5, y6, y7, n, t0, t1, t2, t3, t4, t5, t6, t7⟩
def IR (k : Int) : Prop := -9223372036854775808 ≤ k ∧ k ≤ 9223372036854775807
theorem int_cell {n : Nat} {c : Value} {y : DataW H × List MemPlace} (h : DataW.trod enc Try.prog W 0 (fun _ => true) true n 3 [c] = some y) : ∃ k, c = .int .i64 k ∧ IR k := by
  obtain ⟨k, e, _, w⟩ := DataW.trod_int Try.underlying3 h
  simp at e
  exact ⟨k, e, i64_of_wf w⟩
theorem ring_cell {n : Nat} {c0 c1 : Value} {y : DataW H × List MemPlace} (h : DataW.trod enc Try.prog W 0 (fun _ => true) true n 23 [c0, c1] = some y) : ∃ q r : Int, c0 = .int .i64 q ∧ c1 = .int .i64 r := by
  obtain ⟨q, r, e1, e2, _⟩ := ring_cells h
  exact ⟨q, r, e1, e2⟩
theorem slI_of_trod {n : Nat} {c : Value} {x : DataW H × List MemPlace} (h : DataW.trod enc Try.prog W 0 (fun _ => true) true n 65 [c] = some x) : ∃ l, Cr.Sl W c l ∧ ∀ x ∈ l, IR x := by
  rcases open_ints Try.underlying65 Try.underlying3 cells3 h with ⟨hcs, rfl⟩ | ⟨a, len, cap, zs, hcs, _, hl, hm, hz, rfl, hcell, hwz⟩
  · cases hcs
    exact ⟨[], CrSl.nil _, by simp⟩
  · cases hcs
    simp only [if_true] at hz
    have hlen : (zs.take len).length = len := by simp; omega
    refine ⟨zs.take len, ⟨some a, cap, by rw [hlen], by omega, hm, (by intro h; cases h), fun hne => ?_⟩, fun x hx => i64_of_wf (hwz x (List.mem_of_mem_take hx))⟩
    have h0 : 0 < len := by
      rcases Nat.eq_zero_or_pos len with h | h
      · subst h; simp at hne
      · exact h
    obtain ⟨b, off, spot⟩ := a
    have hc0 := hcell 0 (by omega)
    have hspot : spot = none := by simpa [Addr.add] using World.cell?_spot hc0
    subst hspot
    refine ⟨b, off, rfl, fun j hj => ?_⟩
    rw [hlen] at hj
    have := hcell j (by omega)
    rw [add_at] at this
    rw [this]
    simp [hj]
set_option maxRecDepth 100000 in
theorem slE_of_trod {fuel : Nat} {c : Value} {x : DataW H × List MemPlace} (h : DataW.trod enc Try.prog W 0 (fun _ => true) true fuel 70 [c] = some x) : ∃ l, SlE W c l := by
  rcases Deep.open_slice Try.underlying70 h with ⟨hcs, hx⟩ | ⟨a, len, cap, m, n, D, Pl, hcs, _, hl, hm, hmm, hx, hel⟩
  · cases hcs
    exact ⟨[], SlE.nil _⟩
  · cases hcs
    simp only [if_true] at hmm
    subst hmm
    rw [cellsE] at hel
    have one : ∀ i, ∃ e : Ey, i < len → W.cell? (a.add (i * 6)) = some (.int .i64 e.nd) ∧ W.cell? (a.add (i * 6 + 1)) = some (.int .i64 e.os) ∧ W.cell? (a.add (i * 6 + 2)) = some (.int .i64 e.od) ∧ W.cell? (a.add (i * 6 + 3)) = some (.int .i64 e.aru) ∧ W.cell? (a.add (i * 6 + 4)) = some (.int .i64 e.high) ∧ W.cell? (a.add (i * 6 + 5)) = some (.int .i64 e.ck) := by
      intro i
      by_cases hi : i < len
      · obtain ⟨cs, hcells, ht⟩ := hel i (by omega)
        obtain ⟨_, hlen, hc⟩ := World.cells?_some hcells
        match cs, hlen with
        | [c0, c1, c2, c3, c4, c5], _ =>
          obtain ⟨y0, y1, y2, y3, y4, n2, t0, t1, t2, t3, t4⟩ := trodS5 Try.underlying167 ht
          simp only [cells3, cellsR, List.drop_zero, List.drop_succ_cons, List.take_succ_cons, List.take_zero] at t0 t1 t2 t3 t4
          obtain ⟨k0, rfl, _⟩ := int_cell t0
          obtain ⟨k1, k2, rfl, rfl⟩ := ring_cell t1
          obtain ⟨k3, rfl, _⟩ := int_cell t2
          obtain ⟨k4, rfl, _⟩ := int_cell t3
          obtain ⟨k5, rfl, _⟩ := int_cell t4
          refine ⟨⟨k0, k1, k2, k3, k4, k5⟩, fun _ => ?_⟩
          have q0 := hc 0 (by omega)
          have q1 := hc 1 (by omega)
          have q2 := hc 2 (by omega)
          have q3 := hc 3 (by omega)
          have q4 := hc 4 (by omega)
          have q5 := hc 5 (by omega)
          simp only [Deep.add_add] at q0 q1 q2 q3 q4 q5
          simp at q0 q1 q2 q3 q4 q5
          exact ⟨q0, q1, q2, q3, q4, q5⟩
      · exact ⟨⟨0, 0, 0, 0, 0, 0⟩, fun h => absurd h hi⟩
    obtain ⟨f, hfx⟩ := Classical.axiomOfChoice one
    have hdl : ((List.range len).map f).length = len := by simp
    refine ⟨(List.range len).map f, ⟨some a, m, by rw [hdl], by rw [hdl]; omega, by omega, (by intro h; cases h), fun hne => ?_⟩⟩
    have h0 : 0 < len := by
      rcases Nat.eq_zero_or_pos len with h | h
      · subst h; simp at hne
      · exact h
    obtain ⟨b, off, spot⟩ := a
    have hc0 := (hfx 0 h0).1
    have hspot : spot = none := by simpa [Addr.add] using World.cell?_spot hc0
    subst hspot
    refine ⟨b, off, rfl, fun i d hd => ?_⟩
    have hi : i < len := by
      rcases Nat.lt_or_ge i len with h | h
      · exact h
      · rw [List.getElem?_eq_none (by rw [hdl]; exact h)] at hd; cases hd
    have ed : d = f i := by simpa [hi] using hd.symm
    subst ed
    have := hfx i hi
    simpa only [add_at, Nat.add_assoc] using this
set_option maxRecDepth 100000 in
theorem array40 {α : Type} {xs : Array α} (h : xs.size = 40) : ∃ c0 c1 c2 c3 c4 c5 c6 c7 c8 c9 c10 c11 c12 c13 c14 c15 c16 c17 c18 c19 c20 c21 c22 c23 c24 c25 c26 c27 c28 c29 c30 c31 c32 c33 c34 c35 c36 c37 c38 c39, xs = #[c0, c1, c2, c3, c4, c5, c6, c7, c8, c9, c10, c11, c12, c13, c14, c15, c16, c17, c18, c19, c20, c21, c22, c23, c24, c25, c26, c27, c28, c29, c30, c31, c32, c33, c34, c35, c36, c37, c38, c39] := by
  obtain ⟨l⟩ := xs
  match l, h with
  | c0 :: c1 :: c2 :: c3 :: c4 :: c5 :: c6 :: c7 :: c8 :: c9 :: c10 :: c11 :: c12 :: c13 :: c14 :: c15 :: c16 :: c17 :: c18 :: c19 :: c20 :: c21 :: c22 :: c23 :: c24 :: c25 :: c26 :: c27 :: c28 :: c29 :: c30 :: c31 :: c32 :: c33 :: c34 :: c35 :: c36 :: c37 :: c38 :: c39 :: [], _ => exact ⟨c0, c1, c2, c3, c4, c5, c6, c7, c8, c9, c10, c11, c12, c13, c14, c15, c16, c17, c18, c19, c20, c21, c22, c23, c24, c25, c26, c27, c28, c29, c30, c31, c32, c33, c34, c35, c36, c37, c38, c39, rfl⟩
set_option maxRecDepth 100000 in
set_option maxHeartbeats 4000000 in
/-- A packet as an argument. -/
theorem open_packet {r : Reach} {base : Nat} {v : Value} {d : DataW H} {p : List MemPlace} (hv : Value.okWide Try.prog W r base 76 v) (h : DataW.Trod enc Try.prog W 0 (fun _ => true) true 76 v d p) : ∃ P xs, v = .agg xs ∧ PkIn W 0 xs P ∧ Rn P := by
  obtain ⟨cells, rfl, hsz⟩ := okWide_struct Try.underlying76 hv
  obtain ⟨c0, c1, c2, c3, c4, c5, c6, c7, c8, c9, c10, c11, c12, c13, c14, c15, c16, c17, c18, c19, c20, c21, c22, c23, c24, c25, c26, c27, c28, c29, c30, c31, c32, c33, c34, c35, c36, c37, c38, c39, rfl⟩ := array40 (hsz.trans cellsP)
  obtain ⟨fuel, hf0⟩ := h
  obtain ⟨y0, y1, y2, y3, y4, y5, y6, n, t0, t1, t2, t3, t4, t5, t6⟩ := trodS7 Try.underlying76 (by simpa [Value.cells] using hf0)
  simp only [cells3, cellsD, cellsT, cellsJ, cellsC, cellsN, List.drop_zero, List.drop_succ_cons, List.take_succ_cons, List.take_zero] at t0 t1 t2 t3 t4 t5 t6
  obtain ⟨kd, rfl, _⟩ := int_cell t0
  obtain ⟨to, rfl, _⟩ := int_cell t1
  obtain ⟨zd0, zd1, zd2, zd3, zd4, nd, ud0, ud1, ud2, ud3, ud4⟩ := trodS5 Try.underlying49 t2
  simp only [cells3, cellsR, cellsM, List.drop_zero, List.drop_succ_cons, List.take_succ_cons, List.take_zero] at ud0 ud1 ud2 ud3 ud4
  obtain ⟨dq, dr, rfl, rfl⟩ := ring_cell ud0
  obtain ⟨ds, rfl, _⟩ := int_cell ud1
  obtain ⟨dn, rfl, _⟩ := int_cell ud2
  obtain ⟨dt, rfl, _⟩ := int_cell ud3
  obtain ⟨k, o, lf, i, pt, ps, g, s, st, rs, rr, sq, l, ⟨rfl, rfl, rfl, rfl, rfl, rfl, rfl, rfl, rfl, rfl, rfl, rfl⟩, hs, _⟩ := msg_cells ud4
  obtain ⟨ao, cap, rfl, _⟩ := hs.form
  obtain ⟨zt0, zt1, zt2, zt3, zt4, zt5, zt6, zt7, nt, ut0, ut1, ut2, ut3, ut4, ut5, ut6, ut7⟩ := trodS8 Try.underlying67 t3
  simp only [cells3, cellsR, cellsI, List.drop_zero, List.drop_succ_cons, List.take_succ_cons, List.take_zero] at ut0 ut1 ut2 ut3 ut4 ut5 ut6 ut7
  obtain ⟨tq, tr, rfl, rfl⟩ := ring_cell ut0
  obtain ⟨th, rfl, _⟩ := int_cell ut1
  obtain ⟨tsq, rfl, _⟩ := int_cell ut2
  obtain ⟨ta, rfl, _⟩ := int_cell ut3
  obtain ⟨tl, rfl, _⟩ := int_cell ut4
  obtain ⟨tst, rfl, _⟩ := int_cell ut5
  obtain ⟨ti, rfl, _⟩ := int_cell ut6
  obtain ⟨tk, hk, hki⟩ := slI_of_trod ut7
  obtain ⟨tao, tcap, rfl, hk2⟩ := hk
  have hk : Cr.Sl W (.slice tao tk.length tcap) tk := ⟨tao, tcap, rfl, hk2⟩
  obtain ⟨zj0, zj1, zj2, nj, uj0, uj1, uj2⟩ := trodS3 Try.underlying69 t4
  simp only [cells3, List.drop_zero, List.drop_succ_cons, List.take_succ_cons, List.take_zero] at uj0 uj1 uj2
  obtain ⟨js, rfl, ws⟩ := int_cell uj0
  obtain ⟨jp, rfl, wp⟩ := int_cell uj1
  obtain ⟨jc, rfl, wc⟩ := int_cell uj2
  obtain ⟨zc0, zc1, zc2, zc3, nc, uc0, uc1, uc2, uc3⟩ := trodS4 Try.underlying72 t5
  simp only [cells3, cellsR, cellsL, List.drop_zero, List.drop_succ_cons, List.take_succ_cons, List.take_zero] at uc0 uc1 uc2 uc3
  obtain ⟨cq, cr_, rfl, rfl⟩ := ring_cell uc0
  obtain ⟨cm, rfl, wm⟩ := int_cell uc1
  obtain ⟨ch_, rfl, wh⟩ := int_cell uc2
  obtain ⟨ce, he⟩ := slE_of_trod uc3
  obtain ⟨cao, ccap, e, he2⟩ := he.form
  subst e
  obtain ⟨zb0, zb1, nb, ub0, ub1⟩ := trodS2 Try.underlying74 t6
  simp only [cells3, cellsR, List.drop_zero, List.drop_succ_cons, List.take_succ_cons, List.take_zero] at ub0 ub1
  obtain ⟨bq, br_, rfl, rfl⟩ := ring_cell ub0
  obtain ⟨bs, rfl, _⟩ := int_cell ub1
  exact ⟨⟨kd, to, ⟨dq, dr, ds, dn, dt, ⟨k, o, lf, i, pt, ps, g, s, st, rs, rr, sq, l⟩⟩, ⟨tq, tr, th, tsq, ta, tl, tst, ti, tk⟩, ⟨js, jp, jc⟩, ⟨cq, cr_, cm, ch_, ce⟩, ⟨bq, br_, bs⟩⟩, _, rfl, ⟨ao, cap, tao, tcap, cao, ccap, rfl, hs, hk, he, fun _ _ _ => Nat.zero_le _, fun _ _ _ => Nat.zero_le _, fun _ _ _ => Nat.zero_le _⟩, ⟨hki, wp, wm, wh.2⟩⟩
end Go.Proofs.Ytajhpnfpjickbaa
