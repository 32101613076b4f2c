/- How a token and a slice of ints as arguments read; arrays of eight ints. No conditions. -/
import Derived.Test.YtbjkncfpddhpkaaAf
import Derived.Test.YtbjkncfpddhpkaaRows
import Derived.ProofKit
import Derived.OpenShut
import Derived.Deep.Slices
import Derived.Deep.Strs
import Derived.SizedLaws
import Derived.Lib.SmallJoins
namespace Go.Proofs.Ytbjkncfpddhpkaa
open Go.ChangeShapes Go.WideShapes Go.ChangeAt Go.RowKit
theorem own : ownKnob Try.prog.godebug = none := by kernel_rfl
theorem laidOut : laidOutB Try.prog = true := by kernel_rfl
theorem cells3 : Try.prog.cellsOf 3 = 1 := by kernel_rfl
theorem cellsR : Try.prog.cellsOf 23 = 2 := by kernel_rfl
theorem i64_of_wf {n : Int} (h : (Lit.int .i64 n).wf = true) : -9223372036854775808 ≤ n ∧ n ≤ 9223372036854775807 := by
  have := bounds_i64 h
  omega
/-- A slice of ints that came in. -/
structure Si (w : World) (v : Value) (l : List Int) : Prop where
  form : ∃ ao cap, v = .slice ao l.length cap ∧ l.length ≤ cap ∧ cap ≤ maxLen ∧ (ao = none → cap = 0) ∧
    (l ≠ [] → ∃ b off, ao = some ⟨b, off, none⟩ ∧ ∀ j, j < l.length → w.cell? ⟨b, off + j, none⟩ = some (.int .i64 (l.getD j 0)))
  rng : ∀ n ∈ l, I64 n
theorem Si.mod {w w' : World} {v : Value} {l : List Int} (h : Si w v l) (hm : Mod (fun _ => False) w w') : Si w' v l := by
  obtain ⟨ao, cap, rfl, h1, h2, h3, h4⟩ := h.form
  refine ⟨⟨ao, cap, rfl, h1, h2, h3, fun hl => ?_⟩, h.rng⟩
  obtain ⟨b, off, rfl, hc⟩ := h4 hl
  exact ⟨b, off, rfl, fun j hj => hm.cell (hc j hj) (fun h => h)⟩
theorem Si.sl {w : World} {v : Value} {l : List Int} (h : Si w v l) : Cr.Sl w v l := h.form
section
variable {H : Type} {enc : TypeId × Value → H} {W : World}
theorem cellsInt : Try.prog.cellsOf 3 = 1 := by kernel_rfl
theorem open_l {v : Value} {d : DataW H} {p : List MemPlace} (h : DataW.Trod enc Try.prog W 0 (fun _ => true) true 24 v d p) (hv : ∃ ao len cap, v = .slice ao len cap) : ∃ l, Si W v l := by
  obtain ⟨ao0, len0, cap0, rfl⟩ := hv
  obtain ⟨fuel, hf⟩ := h
  rcases open_ints Try.underlying24 Try.underlying3 cellsInt hf with ⟨hcs, _⟩ | ⟨a, len, cap, zs, hcs, _, hl, hm, hz, _, hcell, hwz⟩
  · simp [Value.cells] at hcs
    obtain ⟨rfl, rfl, rfl⟩ := hcs
    exact ⟨[], ⟨⟨none, 0, rfl, Nat.le_refl _, by simp [maxLen], fun _ => rfl, fun h => absurd rfl h⟩, by simp⟩⟩
  · simp [Value.cells] at hcs
    obtain ⟨rfl, rfl, rfl⟩ := hcs
    simp only [if_true] at hz
    have hlen : (zs.take len0).length = len0 := by simp; omega
    refine ⟨zs.take len0, ⟨⟨some a, cap0, by rw [hlen], by omega, hm, (by intro h; cases h), fun hne => ?_⟩, fun n hn => ?_⟩⟩
    · have h0 : 0 < len0 := by
        rcases Nat.eq_zero_or_pos len0 with h | h
        · subst h; simp at hne
        · exact h
      obtain ⟨b, off, spot⟩ := a
      have hc0 := hcell 0 (by omega)
      have hspot : spot = none := by simpa [Addr.add] using World.cell?_spot hc0
      subst hspot
      refine ⟨b, off, rfl, fun j hj => ?_⟩
      rw [hlen] at hj
      have := hcell j (by omega)
      rw [Cr.add_at] at this
      rw [this]
      simp [hj]
    · have := hwz n (List.mem_of_mem_take hn)
      exact i64_of_wf this
theorem cellsLs : Try.prog.cellsOf 24 = 1 := by kernel_rfl
theorem cellsTk : Try.prog.cellsOf 26 = 9 := by kernel_rfl
theorem slice_of_trod {n : Nat} {c : Value} {x : DataW H × List MemPlace} (h : DataW.trod enc Try.prog W 0 (fun _ => true) true n 24 [c] = some x) : ∃ ao len cap, c = .slice ao len cap := by
  rcases open_ints Try.underlying24 Try.underlying3 cellsInt h with ⟨hcs, _⟩ | ⟨a, len, cap, zs, hcs, _⟩
  · simp at hcs
    exact ⟨_, _, _, hcs⟩
  · simp at hcs
    exact ⟨_, _, _, hcs⟩
set_option maxRecDepth 100000 in
theorem trod_struct8 {P : Program} {w : World} {base : Nat} {spare : Nat → Bool} {held : Bool} {t : TypeId} {f0 f1 f2 f3 f4 f5 f6 f7 : Field} {fuel : Nat} {cs : List Value} {x : DataW H × List MemPlace} (ht : P.underlying t = some (.struct #[f0, f1, f2, f3, f4, f5, f6, f7])) (h : DataW.trod enc P w base spare held fuel t cs = some x) :
    ∃ y0 y1 y2 y3 y4 y5 y6 y7 n, DataW.trod enc P w base spare held n f0.type ((cs.drop f0.offset).take (P.cellsOf f0.type)) = some y0 ∧ DataW.trod enc P w base spare held n f1.type ((cs.drop f1.offset).take (P.cellsOf f1.type)) = some y1 ∧ DataW.trod enc P w base spare held n f2.type ((cs.drop f2.offset).take (P.cellsOf f2.type)) = some y2 ∧ DataW.trod enc P w base spare held n f3.type ((cs.drop f3.offset).take (P.cellsOf f3.type)) = some y3 ∧ DataW.trod enc P w base spare held n f4.type ((cs.drop f4.offset).take (P.cellsOf f4.type)) = some y4 ∧ DataW.trod enc P w base spare held n f5.type ((cs.drop f5.offset).take (P.cellsOf f5.type)) = some y5 ∧ DataW.trod enc P w base spare held n f6.type ((cs.drop f6.offset).take (P.cellsOf f6.type)) = some y6 ∧ DataW.trod enc P w base spare held n f7.type ((cs.drop f7.offset).take (P.cellsOf f7.type)) = some y7 := by
  obtain ⟨xs, n, _, rfl, hl, hlen, hf⟩ := DataW.trod_struct ht h
  match xs, hlen with
  | [y0, y1, y2, y3, y4, y5, y6, y7], _ => exact ⟨y0, y1, y2, y3, y4, y5, y6, y7, n, by simpa using hf 0 f0 rfl, by simpa using hf 1 f1 rfl, by simpa using hf 2 f2 rfl, by simpa using hf 3 f3 rfl, by simpa using hf 4 f4 rfl, by simpa using hf 5 f5 rfl, by simpa using hf 6 f6 rfl, by simpa using hf 7 f7 rfl⟩
theorem array9 {α : Type} {cs : Array α} (h : cs.size = 9) : ∃ c0 c1 c2 c3 c4 c5 c6 c7 c8, cs = #[c0, c1, c2, c3, c4, c5, c6, c7, c8] := by
  obtain ⟨l⟩ := cs
  match l, h with
  | [c0, c1, c2, c3, c4, c5, c6, c7, c8], _ => exact ⟨c0, c1, c2, c3, c4, c5, c6, c7, c8, rfl⟩
set_option maxRecDepth 100000 in
theorem open_token {r : Reach} {base : Nat} {v : Value} {d : DataW H} {p : List MemPlace} (hv : Value.okWide Try.prog W r base 26 v) (h : DataW.Trod enc Try.prog W 0 (fun _ => true) true 26 v d p) :
    ∃ (rs rr hp sq ar lw st ix : Int) (ao : Option Addr) (cap : Nat) (l : List Int), v = .agg #[.int .i64 rs, .int .i64 rr, .int .i64 hp, .int .i64 sq, .int .i64 ar, .int .i64 lw, .int .i64 st, .int .i64 ix, .slice ao l.length cap] ∧ Si W (.slice ao l.length cap) l ∧ I64 rs ∧ I64 rr ∧ I64 hp ∧ I64 sq ∧ I64 ar ∧ I64 lw ∧ I64 st ∧ I64 ix := by
  obtain ⟨cs, rfl, hsz⟩ := okWide_struct Try.underlying26 hv
  obtain ⟨c0, c1, c2, c3, c4, c5, c6, c7, c8, rfl⟩ := array9 (hsz.trans cellsTk)
  obtain ⟨fuel, hf⟩ := h
  obtain ⟨y0, y1, y2, y3, y4, y5, y6, y7, m, t0, t1, t2, t3, t4, t5, t6, t7⟩ := trod_struct8 Try.underlying26 (by simpa [Value.cells] using hf)
  simp only [cells3, cellsR, cellsLs, List.drop_zero, List.drop_succ_cons, List.take_succ_cons, List.take_zero] at t0 t1 t2 t3 t4 t5 t6 t7
  obtain ⟨z0, z1, m', _, _, u0, u1⟩ := trod_struct2 Try.underlying23 t0
  simp only [cells3, List.drop_zero, List.drop_succ_cons, List.take_succ_cons, List.take_zero] at u0 u1
  obtain ⟨k0, e0, _, w0⟩ := DataW.trod_int Try.underlying3 u0
  obtain ⟨k1, e1, _, w1⟩ := DataW.trod_int Try.underlying3 u1
  obtain ⟨k2, e2, _, w2⟩ := DataW.trod_int Try.underlying3 t1
  obtain ⟨k3, e3, _, w3⟩ := DataW.trod_int Try.underlying3 t2
  obtain ⟨k4, e4, _, w4⟩ := DataW.trod_int Try.underlying3 t3
  obtain ⟨k5, e5, _, w5⟩ := DataW.trod_int Try.underlying3 t4
  obtain ⟨k6, e6, _, w6⟩ := DataW.trod_int Try.underlying3 t5
  obtain ⟨k7, e7, _, w7⟩ := DataW.trod_int Try.underlying3 t6
  obtain ⟨ao, len, cap, rfl⟩ := slice_of_trod t7
  obtain ⟨l, hl⟩ := open_l (v := .slice ao len cap) ⟨m, by simpa [Value.cells] using t7⟩ ⟨_, _, _, rfl⟩
  obtain ⟨ao', cap', e, _⟩ := hl.form
  simp only [Value.slice.injEq] at e
  obtain ⟨_, rfl, _⟩ := e
  simp at e0 e1 e2 e3 e4 e5 e6 e7
  subst e0 e1 e2 e3 e4 e5 e6 e7
  exact ⟨k0, k1, k2, k3, k4, k5, k6, k7, ao, cap, l, rfl, hl, i64_of_wf w0, i64_of_wf w1, i64_of_wf w2, i64_of_wf w3, i64_of_wf w4, i64_of_wf w5, i64_of_wf w6, i64_of_wf w7⟩
end
/-- An array of eight ints in a block. -/
structure Ar (w : World) (b : Nat) (f : Nat → Int) : Prop where
  at' : ∃ xs, w.heap[b]? = some (.cells xs 41 (0, 0)) ∧ xs.size = 8 ∧ ∀ j, j < 8 → xs[j]? = some (.int .i64 (f j))
theorem Ar.cell {w : World} {b : Nat} {f : Nat → Int} (h : Ar w b f) {j : Nat} (hj : j < 8) : w.cell? ⟨b, j, none⟩ = some (.int .i64 (f j)) := by
  obtain ⟨xs, hb, _, hx⟩ := h.at'
  rw [(Bk.mk hb : Bk w b _ xs).cell, hx j hj]
theorem Ar.frz {w : World} {b : Nat} {f : Nat → Int} (h : Ar w b f) (j : Nat) : w.frozen? ⟨b, j, none⟩ = false := by
  obtain ⟨xs, hb, _⟩ := h.at'
  exact (Bk.mk hb : Bk w b _ xs).frz j
theorem Ar.lt {w : World} {b : Nat} {f : Nat → Int} (h : Ar w b f) : b < w.heap.size := by
  obtain ⟨xs, hb, _⟩ := h.at'
  exact lt_of_block hb
theorem Ar.mod {S : Nat → Prop} {w w' : World} {b : Nat} {f : Nat → Int} (h : Ar w b f) (hm : Mod S w w') (hb : ¬ S b) : Ar w' b f := by
  obtain ⟨xs, h1, h2⟩ := h.at'
  exact ⟨xs, hm.obj h1 hb, h2⟩
theorem Ar.set {w : World} {b : Nat} {f : Nat → Int} (h : Ar w b f) {k : Nat} (hk : k < 8) (v : Int) : Ar (w.setCell ⟨b, k, none⟩ (.int .i64 v)) b (fun j => if j = k then v else f j) := by
  obtain ⟨xs, h1, h2, h3⟩ := h.at'
  refine ⟨xs.setIfInBounds k (.int .i64 v), ((Bk.mk h1 : Bk w b _ xs).set k _).at', by simp [h2], fun j hj => ?_⟩
  rw [Array.getElem?_setIfInBounds]
  by_cases e : k = j
  · subst e
    simp [h2, hk]
  · have e2 : ¬ j = k := fun h => e h.symm
    simp only [if_neg e, if_neg e2]
    exact h3 j hj
theorem Ar.other {w : World} {b : Nat} {f : Nat → Int} (h : Ar w b f) (a : Addr) (v : Value) (ha : a.block ≠ b) : Ar (w.setCell a v) b f :=
  h.mod ((Mod.refl (fun x => x = a.block) w).setCell a v (.inl rfl)) (fun e => ha e.symm)
theorem Ar.new (w : World) : Ar (w.alloc (.cells #[.int .i64 0, .int .i64 0, .int .i64 0, .int .i64 0, .int .i64 0, .int .i64 0, .int .i64 0, .int .i64 0] 41)) w.heap.size (fun _ => 0) := by
  refine ⟨_, heap_alloc_new w _, rfl, fun j hj => ?_⟩
  have : j = 0 ∨ j = 1 ∨ j = 2 ∨ j = 3 ∨ j = 4 ∨ j = 5 ∨ j = 6 ∨ j = 7 := by omega
  rcases this with rfl | rfl | rfl | rfl | rfl | rfl | rfl | rfl <;> rfl
end Go.Proofs.Ytbjkncfpddhpkaa
