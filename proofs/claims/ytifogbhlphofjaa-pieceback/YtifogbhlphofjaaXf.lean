/- How a slice of messages as an argument reads: a list of messages, each with its body. No conditions. -/
import Derived.Test.YtifogbhlphofjaaXg
import Derived.Test.YtifogbhlphofjaaEn
namespace Go.Proofs.Ytifogbhlphofjaa
open Go.ChangeShapes Go.WideShapes Go.ChangeAt Go.RowKit
/-- A slice of messages. -/
structure Mgs (w : World) (val : Value) (ds : List (Ms × Value)) : Prop where
  form : ∃ ao cap, val = .slice ao ds.length cap ∧ ds.length ≤ 140737488355327 ∧ (ds ≠ [] → ∃ b off, ao = some ⟨b, off, none⟩ ∧ ∀ i d, ds[i]? = some d → w.rangeAt b (off + i * 13) (mcl d.1 d.2))
  each : ∀ d ∈ ds, Sl w d.2 d.1.body ∧ d.1.body.length ≤ 140737488355328
section
variable {H : Type} {enc : TypeId × Value → H} {W : World}
theorem bytesM : Try.prog.bytesOf 28 = 120 := by kernel_rfl
theorem weights_all {e : TypeId} {l : List (DataW H)} {d : DataW H} (hd : d ∈ l) {n : Nat} (hn : n ∈ d.weights Try.prog e) : n ∈ DataW.weightsAll Try.prog e l := by
  induction l with
  | nil => cases hd
  | cons a r ih =>
    rw [DataW.weightsAll, List.mem_append]
    rcases List.mem_cons.1 hd with rfl | hd
    · exact .inl hn
    · exact .inr (ih hd)
set_option maxRecDepth 100000 in
theorem open_msgs {v : Value} {d : DataW H} {p : List MemPlace} (h : DataW.Trod enc Try.prog W 0 (fun _ => true) true 31 v d p) (hv : ∃ ao len cap, v = .slice ao len cap) (hsz : ∀ n ∈ d.weights Try.prog 31, n ≤ reachBytes) :
    ∃ ds : List (Ms × Value), Mgs W v ds := by
  obtain ⟨ao0, len0, cap0, rfl⟩ := hv
  obtain ⟨fuel, hf⟩ := h
  rcases Deep.open_slice Try.underlying31 hf with ⟨hcs, hx⟩ | ⟨a, len, cap, m, n, D, Pl, hcs, _, hl, hm, hmm, hx, hel⟩
  · simp [Value.cells] at hcs
    obtain ⟨rfl, rfl, rfl⟩ := hcs
    exact ⟨[], ⟨⟨none, 0, rfl, by simp, fun h => absurd rfl h⟩, by simp⟩⟩
  · simp [Value.cells] at hcs
    obtain ⟨rfl, rfl, rfl⟩ := hcs
    simp only [if_true] at hmm
    subst hmm
    rw [cellsM] at hel
    simp only [Prod.mk.injEq] at hx
    obtain ⟨rfl, rfl⟩ := hx
    have h2 := reachBytes_lt
    have hlen0 : len0 ≤ 140737488355327 := by
      have := hsz ((((List.range len0).map D).length + ((List.range (m - len0)).map fun i => D (len0 + i)).length) * Try.prog.bytesOf 28) (by
        rw [DataW.weights, Try.underlying31]
        exact List.mem_cons_self ..)
      rw [bytesM] at this
      simp at this
      omega
    have one : ∀ i, ∃ x : Ms × Value, i < len0 → (∀ j c, (mcl x.1 x.2)[j]? = some c → W.cell? (a.add (i * 13 + j)) = some c) ∧ (Sl W x.2 x.1.body ∧ x.1.body.length ≤ 140737488355328) := by
      intro i
      by_cases hi : i < len0
      · obtain ⟨cs, hcells, ht⟩ := hel i (by omega)
        obtain ⟨_, hlen, hc⟩ := World.cells?_some hcells
        match cs, hlen with
        | [c0, c1, c2, c3, c4, c5, c6, c7, c8, c9, c10, c11, c12], _ =>
          obtain ⟨k, o, lf, id, pt, ps, g, s, st, rs, rr, sq, l, ⟨rfl, rfl, rfl, rfl, rfl, rfl, rfl, rfl, rfl, rfl, rfl, rfl⟩, hs, _, parts, d9, hd, h9, hb⟩ := msg_cells ht
          refine ⟨(⟨k, o, lf, id, pt, ps, g, s, st, rs, rr, sq, l⟩, c12), fun _ => ⟨fun j c hj => ?_, hs, ?_⟩⟩
          · have hj13 : j < 13 := by
              rcases Nat.lt_or_ge j 13 with h | h
              · exact h
              · rw [List.getElem?_eq_none (by exact h)] at hj; cases hj
            have q := hc j hj13
            rw [Deep.add_add] at q
            rw [q]
            exact hj
          · rcases hb with ⟨_, rfl⟩ | ⟨e, s', rfl, he⟩
            · simp
            · have hn : (e.length + s'.length) * Try.prog.bytesOf 5 ∈ (D i).weights Try.prog 28 := by
                have hd2 : D i = .agg parts := hd
                rw [hd2, weights_agg Try.prog Try.underlying28]
                exact DataW.weights_mem_each (t := 26) (j := 9) rfl h9 ((e.length + s'.length) * Try.prog.bytesOf 5) (by simp [DataW.weights, Try.underlying26])
              have := hsz _ (by
                rw [DataW.weights, Try.underlying31]
                exact List.mem_cons_of_mem _ (List.mem_append_left _ (weights_all (List.mem_map_of_mem (List.mem_range.2 hi)) hn)))
              rw [bytes5] at this
              show l.length ≤ 140737488355328
              omega
      · exact ⟨(⟨0, 0, 0, 0, 0, 0, 0, false, 0, 0, 0, 0, []⟩, .slice none 0 0), fun h => absurd h hi⟩
    obtain ⟨f, hfx⟩ := Classical.axiomOfChoice one
    have hdl : ((List.range len0).map f).length = len0 := by simp
    refine ⟨(List.range len0).map f, ⟨⟨some a, m, by rw [hdl], by rw [hdl]; exact hlen0, fun hne => ?_⟩, ?_⟩⟩
    · have h0 : 0 < len0 := by
        rcases Nat.eq_zero_or_pos len0 with h | h
        · subst h; simp at hne
        · exact h
      obtain ⟨b, off, spot⟩ := a
      have hc0 := (hfx 0 h0).1 0 _ rfl
      have hspot : spot = none := by simpa [Addr.add] using World.cell?_spot hc0
      subst hspot
      refine ⟨b, off, rfl, fun i d hd j c hj => ?_⟩
      have hi : i < len0 := by
        rcases Nat.lt_or_ge i len0 with h | h
        · exact h
        · rw [List.getElem?_eq_none (by rw [hdl]; exact h)] at hd; cases hd
      have ed : d = f i := by simpa [hi] using hd.symm
      subst ed
      have := (hfx i hi).1 j c hj
      simpa only [Addr.add_mid, Nat.add_assoc] using this
    · intro d hd
      obtain ⟨i, hi, rfl⟩ := List.mem_map.1 hd
      exact (hfx i (List.mem_range.1 hi)).2
end
end Go.Proofs.Ytifogbhlphofjaa
