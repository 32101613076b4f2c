/- How the laws' argument reads: a slice of deeds as a list of deeds, each with its datagram. No conditions. -/
import Derived.Test.YthmglemjlinlgaaLi
import Derived.Test.YthmglemjlinlgaaRows
import Derived.ProofKit
import Derived.OpenShut
import Derived.Deep.Slices
import Derived.Deep.Strs
import Derived.Lib.SmallJoins
import Derived.SizedLaws
namespace Go.Proofs.Ythmglemjlinlgaa
open Go.ChangeShapes Go.WideShapes Go.ChangeAt Go.RowKit
def I64 (x : Int) : Prop := -9223372036854775808 ≤ x ∧ x ≤ 9223372036854775807
/-- A deed: what is done, its numbers, its datagram and the slice of its bytes. -/
structure Dd where
  kind : Int
  a : Int
  b : Int
  d : Dg
  bv : Value
/-- A slice of deeds. -/
structure Deeds (w : World) (val : Value) (ds : List Dd) : Prop where
  form : ∃ ao cap, val = .slice ao ds.length cap ∧ ds.length ≤ maxLen ∧
    (ds ≠ [] → ∃ b off, ao = some ⟨b, off, none⟩ ∧ ∀ i d, ds[i]? = some d → w.cell? ⟨b, off + i * 6, none⟩ = some (.int .i64 d.kind) ∧ w.cell? ⟨b, off + i * 6 + 1, none⟩ = some (.int .i64 d.a) ∧
      w.cell? ⟨b, off + i * 6 + 2, none⟩ = some (.int .i64 d.b) ∧ w.cell? ⟨b, off + i * 6 + 3, none⟩ = some (.int .i64 d.d.f) ∧ w.cell? ⟨b, off + i * 6 + 4, none⟩ = some (.int .i64 d.d.t) ∧ w.cell? ⟨b, off + i * 6 + 5, none⟩ = some d.bv)
  each : ∀ d ∈ ds, Sl w d.bv d.d.b ∧ d.d.b.length ≤ 140737488355328 ∧ I64 d.kind ∧ I64 d.a ∧ I64 d.b ∧ I64 d.d.f ∧ I64 d.d.t
section
variable {H : Type} {enc : TypeId × Value → H} {W : World}
theorem cells34 : Try.prog.cellsOf 34 = 6 := by kernel_rfl
theorem cells30 : Try.prog.cellsOf 30 = 3 := by kernel_rfl
theorem cells28 : Try.prog.cellsOf 28 = 1 := by kernel_rfl
theorem cells3 : Try.prog.cellsOf 3 = 1 := by kernel_rfl
theorem cells5 : Try.prog.cellsOf 5 = 1 := by kernel_rfl
theorem bytes5 : Try.prog.bytesOf 5 = 1 := by kernel_rfl
theorem i64_of_wf {n : Int} (h : (Lit.int .i64 n).wf = true) : I64 n := by
  have := bounds_i64 h
  unfold I64
  omega
theorem sl_of_trod {n : Nat} {c : Value} {x : DataW H × List MemPlace} (h : DataW.trod enc Try.prog W 0 (fun _ => true) true n 28 [c] = some x) :
    ∃ l, Sl W c l ∧ (x.1 = .nil ∧ l = [] ∨ ∃ e s, x.1 = .slice e s ∧ e.length = l.length) := by
  rcases open_ints Try.underlying28 Try.underlying5 cells5 h with ⟨hcs, rfl⟩ | ⟨a, len, cap, zs, hcs, _, hl, hm, hz, rfl, hcell, hwz⟩
  · cases hcs
    exact ⟨[], ⟨⟨none, 0, rfl, Nat.le_refl _, by simp [maxLen], fun _ => rfl, fun h => absurd rfl h⟩, by simp⟩, .inl ⟨rfl, rfl⟩⟩
  · cases hcs
    simp only [if_true] at hz
    have hlen : (zs.take len).length = len := by simp; omega
    refine ⟨zs.take len, ⟨⟨some a, cap, by rw [hlen], by omega, hm, (by intro h; cases h), fun hne => ?_⟩, ?_⟩, .inr ⟨_, _, rfl, by simp [lits]⟩⟩
    · have h0 : 0 < len := by
        rcases Nat.eq_zero_or_pos len with h | h
        · subst h; simp at hne
        · exact h
      obtain ⟨b, off, spot⟩ := a
      have hc0 := hcell 0 (by omega)
      have hspot : spot = none := by simpa [Addr.add] using World.cell?_spot hc0
      subst hspot
      refine ⟨b, off, rfl, fun j hj => ?_⟩
      rw [hlen] at hj
      have := hcell j (by omega)
      rw [add_at] at this
      rw [this]
      simp [hj]
    · intro c hc
      have := hwz c (List.mem_of_mem_take hc)
      have hb := bounds_u8 this
      omega
theorem weights_all {e : TypeId} {l : List (DataW H)} {d : DataW H} (hd : d ∈ l) {n : Nat} (hn : n ∈ d.weights Try.prog e) : n ∈ DataW.weightsAll Try.prog e l := by
  induction l with
  | nil => cases hd
  | cons a r ih =>
    rw [DataW.weightsAll, List.mem_append]
    rcases List.mem_cons.1 hd with rfl | hd
    · exact .inl hn
    · exact .inr (ih hd)
theorem open_deeds {v : Value} {d : DataW H} {p : List MemPlace} (h : DataW.Trod enc Try.prog W 0 (fun _ => true) true 22 v d p) (hv : ∃ ao len cap, v = .slice ao len cap) (hsz : ∀ n ∈ d.weights Try.prog 22, n ≤ reachBytes) :
    ∃ ds : List Dd, Deeds W v ds := by
  obtain ⟨ao0, len0, cap0, rfl⟩ := hv
  obtain ⟨fuel, hf⟩ := h
  rcases Deep.open_slice Try.underlying22 hf with ⟨hcs, hx⟩ | ⟨a, len, cap, m, n, D, Pl, hcs, _, hl, hm, hmm, hx, hel⟩
  · simp [Value.cells] at hcs
    obtain ⟨rfl, rfl, rfl⟩ := hcs
    exact ⟨[], ⟨⟨none, 0, rfl, by simp [maxLen], fun h => absurd rfl h⟩, by simp⟩⟩
  · simp [Value.cells] at hcs
    obtain ⟨rfl, rfl, rfl⟩ := hcs
    simp only [if_true] at hmm
    subst hmm
    rw [cells34] at hel
    simp only [Prod.mk.injEq] at hx
    obtain ⟨rfl, rfl⟩ := hx
    have one : ∀ i, ∃ x : Dd, i < len0 → (W.cell? (a.add (i * 6)) = some (.int .i64 x.kind) ∧ W.cell? (a.add (i * 6 + 1)) = some (.int .i64 x.a) ∧ W.cell? (a.add (i * 6 + 2)) = some (.int .i64 x.b) ∧ W.cell? (a.add (i * 6 + 3)) = some (.int .i64 x.d.f) ∧ W.cell? (a.add (i * 6 + 4)) = some (.int .i64 x.d.t) ∧ W.cell? (a.add (i * 6 + 5)) = some x.bv) ∧
        (Sl W x.bv x.d.b ∧ x.d.b.length ≤ 140737488355328 ∧ I64 x.kind ∧ I64 x.a ∧ I64 x.b ∧ I64 x.d.f ∧ I64 x.d.t) := by
      intro i
      by_cases hi : i < len0
      · obtain ⟨cs, hcells, ht⟩ := hel i (by omega)
        obtain ⟨_, hlen, hc⟩ := World.cells?_some hcells
        obtain ⟨y0, y1, y2, y3, k, hy, _, t0, t1, t2, t3⟩ := Joins.trod_struct4 Try.underlying34 ht
        match cs, hlen with
        | [c0, c1, c2, c3, c4, c5], _ =>
          simp only [cells3, cells30, List.drop_zero, List.drop_succ_cons, List.take_succ_cons, List.take_zero] at t0 t1 t2 t3
          obtain ⟨k0, e0, r0, w0⟩ := DataW.trod_int Try.underlying3 t0
          obtain ⟨k1, e1, r1, w1⟩ := DataW.trod_int Try.underlying3 t1
          obtain ⟨k2, e2, r2, w2⟩ := DataW.trod_int Try.underlying3 t2
          obtain ⟨z0, z1, z2, k', hz, _, s0, s1, s2⟩ := Deep.trod_struct3 Try.underlying30 t3
          simp only [cells3, cells28, List.drop_zero, List.drop_succ_cons, List.take_succ_cons, List.take_zero] at s0 s1 s2
          obtain ⟨k3, e3, r3, w3⟩ := DataW.trod_int Try.underlying3 s0
          obtain ⟨k4, e4, r4, w4⟩ := DataW.trod_int Try.underlying3 s1
          obtain ⟨bl, hs, hb⟩ := sl_of_trod s2
          simp at e0 e1 e2 e3 e4
          subst e0 e1 e2 e3 e4
          refine ⟨⟨k0, k1, k2, ⟨k3, k4, bl⟩, c5⟩, fun _ => ⟨?_, ⟨hs, ?_, i64_of_wf w0, i64_of_wf w1, i64_of_wf w2, i64_of_wf w3, i64_of_wf w4⟩⟩⟩
          · have q0 := hc 0 (by omega)
            have q1 := hc 1 (by omega)
            have q2 := hc 2 (by omega)
            have q3 := hc 3 (by omega)
            have q4 := hc 4 (by omega)
            have q5 := hc 5 (by omega)
            simp only [Deep.add_add] at q0 q1 q2 q3 q4 q5
            simp at q0 q1 q2 q3 q4 q5
            exact ⟨q0, q1, q2, q3, q4, q5⟩
          · rcases hb with ⟨_, rfl⟩ | ⟨e, s, hb1, hb2⟩
            · simp
            · have eD : D i = .agg [y0.1, y1.1, y2.1, y3.1] := congrArg Prod.fst hy
              have eE : y3.1 = .agg [z0.1, z1.1, z2.1] := congrArg Prod.fst hz
              have hn : (e.length + s.length) * Try.prog.bytesOf 5 ∈ (D i).weights Try.prog 34 := by
                rw [eD, eE, hb1]
                simp [DataW.weights, DataW.weightsEach, Try.underlying34, Try.underlying30, Try.underlying28]
              have := hsz _ (by
                rw [DataW.weights, Try.underlying22]
                exact List.mem_cons_of_mem _ (List.mem_append_left _ (weights_all (List.mem_map_of_mem (List.mem_range.2 hi)) hn)))
              rw [bytes5] at this
              have h2 := reachBytes_lt
              show bl.length ≤ 140737488355328
              omega
      · exact ⟨⟨0, 0, 0, ⟨0, 0, []⟩, .slice none 0 0⟩, fun h => absurd h hi⟩
    obtain ⟨f, hfx⟩ := Classical.axiomOfChoice one
    have hdl : ((List.range len0).map f).length = len0 := by simp
    refine ⟨(List.range len0).map f, ⟨⟨some a, m, by rw [hdl], by rw [hdl]; omega, fun hne => ?_⟩, ?_⟩⟩
    · have h0 : 0 < len0 := by
        rcases Nat.eq_zero_or_pos len0 with h | h
        · subst h; simp at hne
        · exact h
      obtain ⟨b, off, spot⟩ := a
      have hc0 := (hfx 0 h0).1.1
      have hspot : spot = none := by simpa [Addr.add] using World.cell?_spot hc0
      subst hspot
      refine ⟨b, off, rfl, fun i d hd => ?_⟩
      have hi : i < len0 := by
        rcases Nat.lt_or_ge i len0 with h | h
        · exact h
        · rw [List.getElem?_eq_none (by rw [hdl]; exact h)] at hd; cases hd
      have ed : d = f i := by simpa [hi] using hd.symm
      subst ed
      have := (hfx i hi).1
      simpa only [add_at, Nat.add_assoc] using this
    · intro d hd
      obtain ⟨i, hi, rfl⟩ := List.mem_map.1 hd
      exact (hfx i (List.mem_range.1 hi)).2
end
theorem Deeds.at {w : World} {ao : Option Addr} {cap : Nat} {ds : List Dd} (h : Deeds w (.slice ao ds.length cap) ds) {k : Nat} {d : Dd} (hk : ds[k]? = some d) :
    ∃ b off, ao = some ⟨b, off, none⟩ ∧ ∀ w', Mod (fun _ => False) w w' → (w'.cell? ⟨b, off + k * 6, none⟩ = some (.int .i64 d.kind) ∧ w'.cell? ⟨b, off + k * 6 + 1, none⟩ = some (.int .i64 d.a) ∧
      w'.cell? ⟨b, off + k * 6 + 2, none⟩ = some (.int .i64 d.b) ∧ w'.cell? ⟨b, off + k * 6 + 3, none⟩ = some (.int .i64 d.d.f) ∧ w'.cell? ⟨b, off + k * 6 + 4, none⟩ = some (.int .i64 d.d.t) ∧ w'.cell? ⟨b, off + k * 6 + 5, none⟩ = some d.bv) ∧ Sl w' d.bv d.d.b := by
  obtain ⟨ao', cap', e, _, h4⟩ := h.form
  simp only [Value.slice.injEq, true_and] at e
  obtain ⟨rfl, rfl⟩ := e
  obtain ⟨b, off, rfl, hc⟩ := h4 (by rintro rfl; simp at hk)
  refine ⟨b, off, rfl, fun w' hm => ?_⟩
  obtain ⟨c0, c1, c2, c3, c4, c5⟩ := hc k d hk
  exact ⟨⟨hm.cell c0 (fun h => h), hm.cell c1 (fun h => h), hm.cell c2 (fun h => h), hm.cell c3 (fun h => h), hm.cell c4 (fun h => h), hm.cell c5 (fun h => h)⟩, (h.each d (List.mem_of_getElem? hk)).1.mod hm (fun _ _ h => h)⟩
theorem own : ownKnob Try.prog.godebug = none := by kernel_rfl
theorem laidOut : laidOutB Try.prog = true := by kernel_rfl
end Go.Proofs.Ythmglemjlinlgaa
