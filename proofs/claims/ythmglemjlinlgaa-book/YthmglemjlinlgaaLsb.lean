/- A lane and the law's book of it beside each other; what is kept apart from them. No conditions. -/
import Derived.Test.YthmglemjlinlgaaLj
namespace Go.Proofs.Ythmglemjlinlgaa
open Go.RowKit
/-- One more, of bytes that were there. -/
theorem Gr.app2 {w w2 : World} {v v' v2 : Value} {R : List (Dg × Value)} {d : Dg} (h : Gr w v R) (hv : Own w v' d.b) (hr : Oct d.b) (hn : ∀ g, v'.ownBlock = some g → ¬ Ft v R g)
    (ho : w2.ownsRow 0 30 3 v2 (R.length + 1) (cel R ++ dcs (d, v'))) (hm2 : Mod (fun k => v.ownBlock = some k) w w2) (hat : ∀ g, v2.ownBlock = some g → v.ownBlock = some g ∨ w.heap.size ≤ g) :
    Gr w2 v2 (R ++ [(d, v')]) ∧ (∀ k, Ft v2 (R ++ [(d, v')]) k → Ft v R k ∨ v'.ownBlock = some k ∨ w.heap.size ≤ k) := by
  refine ⟨⟨?_, ?_, ?_⟩, ?_⟩
  · rw [cel_app]
    simpa [cel] using ho
  · intro x hx
    rcases List.mem_append.1 hx with hx | hx
    · exact ⟨(h.own x hx).1.mod hm2 (fun g hg hv => h.far hx g hv hg), (h.own x hx).2⟩
    · simp only [List.mem_singleton] at hx
      subst hx
      exact ⟨hv.mod hm2 (fun g hg e => hn g hg (.inl e)), hr⟩
  · rw [List.map_append, List.pairwise_append]
    refine ⟨h.sep, by simp, fun u hu y hy => ?_⟩
    simp only [List.map_cons, List.map_nil, List.mem_singleton] at hy
    subst hy
    intro g hg hg2
    exact hn g hg2 (.inr ⟨u, hu, hg⟩)
  · intro k hk
    rcases hk with hk | ⟨u, hu, hk⟩
    · rcases hat k hk with h1 | h1
      · exact .inl (.inl h1)
      · exact .inr (.inr h1)
    · rw [List.map_append, List.mem_append] at hu
      rcases hu with hu | hu
      · exact .inl (.inr ⟨u, hu, hk⟩)
      · simp only [List.map_cons, List.map_nil, List.mem_singleton] at hu
        subst hu
        exact .inr (.inl hk)
/-- The lane at p, the book at v; X: blocks that are none of theirs. -/
structure Sb (w0 w : World) (p : Nat) (L : List Dg) (s : Int) (F : Nat → Prop) (v : Value) (R : List (Dg × Value)) (X : Nat → Prop) : Prop where
  la : La w p L s F
  gr : Gr w v R
  far : ∀ k, F k → ¬ Ft v R k
  nf : ∀ k, F k → w0.heap.size ≤ k
  ng : ∀ k, Ft v R k → w0.heap.size ≤ k
  x : ∀ k, X k → ¬ F k ∧ ¬ Ft v R k ∧ k < w.heap.size ∧ w0.heap.size ≤ k
  mod : Mod (fun _ => False) w0 w
variable {w0 w w' : World} {p : Nat} {L : List Dg} {s : Int} {F X : Nat → Prop} {v : Value} {R : List (Dg × Value)}
theorem Sb.onL (h : Sb w0 w p L s F v R X) {L' : List Dg} {s' : Int} {F' : Nat → Prop} (hL : La w' p L' s' F') (g : Gone w w' F F') : Sb w0 w' p L' s' F' v R X where
  la := hL
  gr := h.gr.mod g.1 (fun k hk hF => h.far k hF hk)
  far := fun k hk hG => by
    rcases g.2 k hk with h1 | h1
    · exact h.far k h1 hG
    · have := h.gr.lt hG
      omega
  nf := fun k hk => by
    rcases g.2 k hk with h1 | h1
    · exact h.nf k h1
    · exact Nat.le_trans h.mod.size h1
  ng := h.ng
  x := fun k hk => by
    obtain ⟨h1, h2, h3, h4⟩ := h.x k hk
    refine ⟨fun hF => ?_, h2, Nat.lt_of_lt_of_le h3 g.1.size, h4⟩
    rcases g.2 k hF with h6 | h6
    · exact h1 h6
    · omega
  mod := h.mod.trans g.1 (fun _ _ h => h) (fun k hk hF => by have := h.nf k hF; omega)
theorem Sb.onX (h : Sb w0 w p L s F v R X) {S : Nat → Prop} (g : Mod S w w') (hS : ∀ k, S k → X k) : Sb w0 w' p L s F v R X where
  la := h.la.mod g (fun k hk hs => (h.x k (hS k hs)).1 hk)
  gr := h.gr.mod g (fun k hk hs => (h.x k (hS k hs)).2.1 hk)
  far := h.far
  nf := h.nf
  ng := h.ng
  x := fun k hk => by
    obtain ⟨h1, h2, h3, h4⟩ := h.x k hk
    exact ⟨h1, h2, Nat.lt_of_lt_of_le h3 g.size, h4⟩
  mod := h.mod.trans g (fun _ _ h => h) (fun k hk hF => by have := (h.x k (hS k hF)).2.2.2; omega)
theorem Sb.quiet (h : Sb w0 w p L s F v R X) (g : Mod (fun _ => False) w w') : Sb w0 w' p L s F v R X := h.onX g (fun _ h => h.elim)
theorem Sb.less (h : Sb w0 w p L s F v R X) {Y : Nat → Prop} (hY : ∀ k, Y k → X k) : Sb w0 w p L s F v R Y :=
  ⟨h.la, h.gr, h.far, h.nf, h.ng, fun k hk => h.x k (hY k hk), h.mod⟩
theorem Sb.more (h : Sb w0 w p L s F v R X) {Y : Nat → Prop} (hY : ∀ k, Y k → ¬ F k ∧ ¬ Ft v R k ∧ k < w.heap.size ∧ w0.heap.size ≤ k) : Sb w0 w p L s F v R (fun k => X k ∨ Y k) :=
  ⟨h.la, h.gr, h.far, h.nf, h.ng, fun k hk => by
    rcases hk with hk | hk
    · exact h.x k hk
    · exact hY k hk, h.mod⟩
theorem Sb.alloc (h : Sb w0 w p L s F v R X) (o : Obj) : Sb w0 (w.alloc o) p L s F v R (fun k => X k ∨ k = w.heap.size) :=
  (h.quiet ((Mod.refl (fun _ => False) w).alloc o)).more fun k hk => by
    subst hk
    refine ⟨fun hA => ?_, fun hB => ?_, by simp, h.mod.size⟩
    · have := h.la.lt hA
      omega
    · have := h.gr.lt hB
      omega
theorem Sb.fresh (h : Sb w0 w p L s F v R X) (g : Mod (fun _ => False) w w') {u : Value} {l : List Int} (ho : Own w' u l) (hn : ∀ k, u.ownBlock = some k → w.heap.size ≤ k) : Sb w0 w' p L s F v R (fun k => X k ∨ u.ownBlock = some k) :=
  (h.quiet g).more fun k hk => by
    have h1 := hn k hk
    refine ⟨fun hA => ?_, fun hB => ?_, ho.lt k hk, Nat.le_trans h.mod.size h1⟩
    · have := h.la.lt hA
      omega
    · have := h.gr.lt hB
      omega
theorem Sb.taken (h : Sb w0 w p L s F v R X) {L' : List Dg} {s' : Int} {F' : Nat → Prop} (hL : La w' p L' s' F') (g : Gone w w' F F') {u : Value} {d : Dg} (hT : Tk w' u d F F') : Sb w0 w' p L' s' F' v R (fun k => X k ∨ u.ownBlock = some k) :=
  (h.onL hL g).more fun k hk => by
    obtain ⟨h1, h2⟩ := hT.far k hk
    exact ⟨h2, h.far k h1, hT.own.lt k hk, h.nf k h1⟩
/-- The book turned. -/
theorem Sb.onG (h : Sb w0 w p L s F v R X) {v' : Value} {R' : List (Dg × Value)} {Y : Nat → Prop} (hG : Gr w' v' R') (g : Mod (Ft v R) w w') (hf : ∀ k, Ft v' R' k → Ft v R k ∨ X k ∨ w.heap.size ≤ k) (hY : ∀ k, Y k → X k ∧ ¬ Ft v' R' k) : Sb w0 w' p L s F v' R' Y where
  la := h.la.mod g (fun k hk hs => h.far k hk hs)
  gr := hG
  far := fun k hk hs => by
    rcases hf k hs with h1 | h1 | h1
    · exact h.far k hk h1
    · exact (h.x k h1).1 hk
    · have := h.la.lt hk
      omega
  nf := h.nf
  ng := fun k hk => by
    rcases hf k hk with h1 | h1 | h1
    · exact h.ng k h1
    · exact (h.x k h1).2.2.2
    · exact Nat.le_trans h.mod.size h1
  x := fun k hk => by
    obtain ⟨h0, hn⟩ := hY k hk
    obtain ⟨h1, _, h3, h4⟩ := h.x k h0
    exact ⟨h1, hn, Nat.lt_of_lt_of_le h3 g.size, h4⟩
  mod := h.mod.trans g (fun _ _ h => h) (fun k hk hF => by have := h.ng k hF; omega)
theorem Gr.at {w : World} {v : Value} {R : List (Dg × Value)} (h : Gr w v R) {i : Nat} (hi : i < R.length) : ∃ g cap x, v = .slice (some ⟨g, 0, none⟩) R.length cap ∧ R.length ≤ cap ∧ cap ≤ maxLen ∧ R[i]? = some x ∧ w.cell? ⟨g, i * 3, none⟩ = some (.int .i64 x.1.f) ∧ w.cell? ⟨g, i * 3 + 1, none⟩ = some (.int .i64 x.1.t) ∧ w.cell? ⟨g, i * 3 + 2, none⟩ = some x.2 ∧ Own w x.2 x.1.b ∧ Oct x.1.b := by
  obtain ⟨ao, cap, rfl, h1, h2, h3⟩ := h.shape
  obtain ⟨g, rfl, hc⟩ := h3 (by omega)
  have hx : R[i]? = some R[i] := by simp [hi]
  obtain ⟨e0, e1, e2⟩ := cel_get R i _ hx
  obtain ⟨o1, o2⟩ := h.own R[i] (List.mem_of_getElem? hx)
  exact ⟨g, cap, R[i], rfl, h1, h2, hx, hc _ _ e0, hc _ _ e1, hc _ _ e2, o1, o2⟩
theorem Ft.of {v : Value} {R : List (Dg × Value)} {i : Nat} {x : Dg × Value} (hx : R[i]? = some x) {g : Nat} (hg : x.2.ownBlock = some g) : Ft v R g := .inr ⟨x.2, List.mem_map_of_mem (List.mem_of_getElem? hx), hg⟩
/-- The lane and its book are alike. -/
def Ib (w wr : World) (p : Nat) (v : Value) (n : Nat) : Prop := ∃ s F R, Sb w wr p (R.map Prod.fst) s F v R (fun _ => False) ∧ R.length ≤ n
end Go.Proofs.Ythmglemjlinlgaa
