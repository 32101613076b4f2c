/- How the laws' argument reads: a slice of deeds as a list of deeds. No conditions. -/
import Derived.Test.YtkbncndinfimnaaDa
import Derived.Test.YtkbncndinfimnaaRows
import Derived.ProofKit
import Derived.OpenShut
import Derived.Deep.Slices
import Derived.Deep.Strs
namespace Go.Proofs.Ytkbncndinfimnaa
open Go.ChangeShapes Go.WideShapes Go.ChangeAt Go.RowKit

/-- A deed: what is done, to which kind, how many ticks. -/
structure Dd where
  kind : Int
  n : Int
  bh : Int

/-- A slice of deeds. -/
structure Deeds (w : World) (val : Value) (ds : List Dd) : Prop where
  form : ∃ ao cap, val = .slice ao ds.length cap ∧ ds.length ≤ maxLen ∧
    (ds ≠ [] → ∃ b off, ao = some ⟨b, off, none⟩ ∧ ∀ i d, ds[i]? = some d → w.cell? ⟨b, off + i * 3, none⟩ = some (.int .i64 d.kind) ∧ w.cell? ⟨b, off + i * 3 + 1, none⟩ = some (.int .i64 d.n) ∧
      w.cell? ⟨b, off + i * 3 + 2, none⟩ = some (.int .i64 d.bh))
  each : ∀ d ∈ ds, I64 d.kind ∧ I64 d.n ∧ I64 d.bh

section
variable {H : Type} {enc : TypeId × Value → H} {W : World}
theorem cells32 : Try.prog.cellsOf 32 = 3 := by kernel_rfl
theorem cells3 : Try.prog.cellsOf 3 = 1 := by kernel_rfl
theorem i64_of_wf {n : Int} (h : (Lit.int .i64 n).wf = true) : I64 n := by
  have := bounds_i64 h
  unfold I64
  omega
theorem open_deeds {v : Value} {d : DataW H} {p : List MemPlace} (h : DataW.Trod enc Try.prog W 0 (fun _ => true) true 22 v d p) (hv : ∃ ao len cap, v = .slice ao len cap) :
    ∃ ds : List Dd, Deeds W v ds := by
  obtain ⟨ao0, len0, cap0, rfl⟩ := hv
  obtain ⟨fuel, hf⟩ := h
  rcases Deep.open_slice Try.underlying22 hf with ⟨hcs, hx⟩ | ⟨a, len, cap, m, n, D, Pl, hcs, _, hl, hm, hmm, hx, hel⟩
  · simp [Value.cells] at hcs
    obtain ⟨rfl, rfl, rfl⟩ := hcs
    exact ⟨[], ⟨⟨none, 0, rfl, by simp [maxLen], fun h => absurd rfl h⟩, by simp⟩⟩
  · simp [Value.cells] at hcs
    obtain ⟨rfl, rfl, rfl⟩ := hcs
    simp only [if_true] at hmm
    subst hmm
    rw [cells32] at hel
    have one : ∀ i, ∃ x : Dd, i < len0 → (W.cell? (a.add (i * 3)) = some (.int .i64 x.kind) ∧ W.cell? (a.add (i * 3 + 1)) = some (.int .i64 x.n) ∧ W.cell? (a.add (i * 3 + 2)) = some (.int .i64 x.bh)) ∧
        (I64 x.kind ∧ I64 x.n ∧ I64 x.bh) := by
      intro i
      by_cases hi : i < len0
      · obtain ⟨cs, hcells, ht⟩ := hel i (by omega)
        obtain ⟨_, hlen, hc⟩ := World.cells?_some hcells
        obtain ⟨y0, y1, y2, k, hy, _, t0, t1, t2⟩ := Deep.trod_struct3 Try.underlying32 ht
        match cs, hlen with
        | [c0, c1, c2], _ =>
          simp only [cells3, List.drop_zero, List.drop_succ_cons, List.take_succ_cons, List.take_zero] at t0 t1 t2
          obtain ⟨k0, e0, r0, w0⟩ := DataW.trod_int Try.underlying3 t0
          obtain ⟨k1, e1, r1, w1⟩ := DataW.trod_int Try.underlying3 t1
          obtain ⟨k2, e2, r2, w2⟩ := DataW.trod_int Try.underlying3 t2
          simp at e0 e1 e2
          subst e0 e1 e2
          refine ⟨⟨k0, k1, k2⟩, fun _ => ⟨?_, ⟨i64_of_wf w0, i64_of_wf w1, i64_of_wf w2⟩⟩⟩
          have q0 := hc 0 (by omega)
          have q1 := hc 1 (by omega)
          have q2 := hc 2 (by omega)
          simp only [Deep.add_add] at q0 q1 q2
          simp at q0 q1 q2
          exact ⟨q0, q1, q2⟩
      · exact ⟨⟨0, 0, 0⟩, fun h => absurd h hi⟩
    obtain ⟨f, hfx⟩ := Classical.axiomOfChoice one
    have hdl : ((List.range len0).map f).length = len0 := by simp
    refine ⟨(List.range len0).map f, ⟨⟨some a, m, by rw [hdl], by rw [hdl]; omega, fun hne => ?_⟩, ?_⟩⟩
    · have h0 : 0 < len0 := by
        rcases Nat.eq_zero_or_pos len0 with h | h
        · subst h; simp at hne
        · exact h
      obtain ⟨b, off, spot⟩ := a
      have hc0 := (hfx 0 h0).1.1
      have hspot : spot = none := by simpa [Addr.add] using World.cell?_spot hc0
      subst hspot
      refine ⟨b, off, rfl, fun i d hd => ?_⟩
      have hi : i < len0 := by
        rcases Nat.lt_or_ge i len0 with h | h
        · exact h
        · rw [List.getElem?_eq_none (by rw [hdl]; exact h)] at hd; cases hd
      have ed : d = f i := by simpa [hi] using hd.symm
      subst ed
      have := (hfx i hi).1
      simpa only [add_at, Nat.add_assoc] using this
    · intro d hd
      obtain ⟨i, hi, rfl⟩ := List.mem_map.1 hd
      exact (hfx i (List.mem_range.1 hi)).2
end
theorem Deeds.at {w : World} {ao : Option Addr} {cap : Nat} {ds : List Dd} (h : Deeds w (.slice ao ds.length cap) ds) {k : Nat} {d : Dd} (hk : ds[k]? = some d) :
    ∃ b off, ao = some ⟨b, off, none⟩ ∧ ∀ w', Mod (fun _ => False) w w' → w'.cell? ⟨b, off + k * 3, none⟩ = some (.int .i64 d.kind) ∧ w'.cell? ⟨b, off + k * 3 + 1, none⟩ = some (.int .i64 d.n) ∧
      w'.cell? ⟨b, off + k * 3 + 2, none⟩ = some (.int .i64 d.bh) := by
  obtain ⟨ao', cap', e, _, h4⟩ := h.form
  simp only [Value.slice.injEq, true_and] at e
  obtain ⟨rfl, rfl⟩ := e
  obtain ⟨b, off, rfl, hc⟩ := h4 (by rintro rfl; simp at hk)
  refine ⟨b, off, rfl, fun w' hm => ?_⟩
  obtain ⟨c0, c1, c2⟩ := hc k d hk
  exact ⟨hm.cell c0 (fun h => h), hm.cell c1 (fun h => h), hm.cell c2 (fun h => h)⟩
theorem own : ownKnob Try.prog.godebug = none := by kernel_rfl
theorem laidOut : laidOutB Try.prog = true := by kernel_rfl
theorem Al.drew {w : World} {p B n : Nat} {f : Int → Int} (h : Al w p B n f) : Al w.drew p B n f := ⟨h.blk, ⟨h.map.own⟩⟩
theorem Dl.drew {w : World} {p b n : Nat} {f : Int → Int} (h : Dl w p b n f) : Dl w.drew p b n f := ⟨h.blk, h.row⟩
theorem Al.drewN {w : World} {p B n : Nat} {f : Int → Int} (h : Al w p B n f) (m : Nat) : Al (w.drewN m) p B n f := ⟨h.blk, ⟨h.map.own⟩⟩
theorem Dl.drewN {w : World} {p b n : Nat} {f : Int → Int} (h : Dl w p b n f) (m : Nat) : Dl (w.drewN m) p b n f := ⟨h.blk, h.row⟩
end Go.Proofs.Ytkbncndinfimnaa
