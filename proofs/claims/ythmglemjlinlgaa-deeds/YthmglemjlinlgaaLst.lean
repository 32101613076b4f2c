/- The program's lane and the document's beside each other, and a third one; what is kept apart from them. No conditions. -/
import Derived.Test.YthmglemjlinlgaaLj
namespace Go.Proofs.Ythmglemjlinlgaa
open Go.RowKit
/-- All datagrams are of nodes. -/
def Nds (L : List Dg) : Prop := ∀ d ∈ L, (nd d.f && nd d.t) = true
/-- Three lanes: the program's at a, the document's at b, one more at c; X: blocks that are none of theirs. -/
structure St (w0 w : World) (a b c : Nat) (L M : List Dg) (s t u : Int) (A B C X : Nat → Prop) : Prop where
  la : La w a L s A
  lb : Da w b M (side t) B
  lc : La w c [] u C
  ab : ∀ k, A k → ¬ B k
  ac : ∀ k, A k → ¬ C k
  bc : ∀ k, B k → ¬ C k
  na : ∀ k, A k → w0.heap.size ≤ k
  nb : ∀ k, B k → w0.heap.size ≤ k
  nc : ∀ k, C k → w0.heap.size ≤ k
  x : ∀ k, X k → ¬ A k ∧ ¬ B k ∧ ¬ C k ∧ k < w.heap.size ∧ w0.heap.size ≤ k
  mod : Mod (fun _ => False) w0 w
variable {w0 w w' : World} {a b c : Nat} {L M : List Dg} {s t u : Int} {A B C X : Nat → Prop}
theorem St.onA (h : St w0 w a b c L M s t u A B C X) {L' : List Dg} {s' : Int} {A' : Nat → Prop} (hL : La w' a L' s' A') (g : Gone w w' A A') : St w0 w' a b c L' M s' t u A' B C X where
  la := hL
  lb := h.lb.mod g.1 (fun k hk hA => h.ab k hA hk)
  lc := h.lc.mod g.1 (fun k hk hA => h.ac k hA hk)
  ab := fun k hk hB => by
    rcases g.2 k hk with h1 | h1
    · exact h.ab k h1 hB
    · have := h.lb.lt hB
      omega
  ac := fun k hk hC => by
    rcases g.2 k hk with h1 | h1
    · exact h.ac k h1 hC
    · have := h.lc.lt hC
      omega
  bc := h.bc
  na := fun k hk => by
    rcases g.2 k hk with h1 | h1
    · exact h.na k h1
    · exact Nat.le_trans h.mod.size h1
  nb := h.nb
  nc := h.nc
  x := fun k hk => by
    obtain ⟨h1, h2, h3, h4, h5⟩ := h.x k hk
    refine ⟨fun hA => ?_, h2, h3, Nat.lt_of_lt_of_le h4 g.1.size, h5⟩
    rcases g.2 k hA with h6 | h6
    · exact h1 h6
    · omega
  mod := h.mod.trans g.1 (fun _ _ h => h) (fun k hk hF => by have := h.na k hF; omega)
theorem St.onB (h : St w0 w a b c L M s t u A B C X) {M' : List Dg} {t' : Int} {B' : Nat → Prop} (hM : Da w' b M' (side t') B') (g : Gone w w' B B') : St w0 w' a b c L M' s t' u A B' C X where
  la := h.la.mod g.1 (fun k hk hB => h.ab k hk hB)
  lb := hM
  lc := h.lc.mod g.1 (fun k hk hB => h.bc k hB hk)
  ab := fun k hA hk => by
    rcases g.2 k hk with h1 | h1
    · exact h.ab k hA h1
    · have := h.la.lt hA
      omega
  ac := h.ac
  bc := fun k hk hC => by
    rcases g.2 k hk with h1 | h1
    · exact h.bc k h1 hC
    · have := h.lc.lt hC
      omega
  na := h.na
  nb := fun k hk => by
    rcases g.2 k hk with h1 | h1
    · exact h.nb k h1
    · exact Nat.le_trans h.mod.size h1
  nc := h.nc
  x := fun k hk => by
    obtain ⟨h1, h2, h3, h4, h5⟩ := h.x k hk
    refine ⟨h1, fun hB => ?_, h3, Nat.lt_of_lt_of_le h4 g.1.size, h5⟩
    rcases g.2 k hB with h6 | h6
    · exact h2 h6
    · omega
  mod := h.mod.trans g.1 (fun _ _ h => h) (fun k hk hF => by have := h.nb k hF; omega)
theorem St.onC (h : St w0 w a b c L M s t u A B C X) {u' : Int} (hC : La w' c [] u' C) (g : Mod C w w') : St w0 w' a b c L M s t u' A B C X where
  la := h.la.mod g (fun k hk hC => h.ac k hk hC)
  lb := h.lb.mod g (fun k hk hC => h.bc k hk hC)
  lc := hC
  ab := h.ab
  ac := h.ac
  bc := h.bc
  na := h.na
  nb := h.nb
  nc := h.nc
  x := fun k hk => by
    obtain ⟨h1, h2, h3, h4, h5⟩ := h.x k hk
    exact ⟨h1, h2, h3, Nat.lt_of_lt_of_le h4 g.size, h5⟩
  mod := h.mod.trans g (fun _ _ h => h) (fun k hk hF => by have := h.nc k hF; omega)
/-- What is turned is kept apart. -/
theorem St.onX (h : St w0 w a b c L M s t u A B C X) {S : Nat → Prop} (g : Mod S w w') (hS : ∀ k, S k → X k) : St w0 w' a b c L M s t u A B C X where
  la := h.la.mod g (fun k hk hs => (h.x k (hS k hs)).1 hk)
  lb := h.lb.mod g (fun k hk hs => (h.x k (hS k hs)).2.1 hk)
  lc := h.lc.mod g (fun k hk hs => (h.x k (hS k hs)).2.2.1 hk)
  ab := h.ab
  ac := h.ac
  bc := h.bc
  na := h.na
  nb := h.nb
  nc := h.nc
  x := fun k hk => by
    obtain ⟨h1, h2, h3, h4, h5⟩ := h.x k hk
    exact ⟨h1, h2, h3, Nat.lt_of_lt_of_le h4 g.size, h5⟩
  mod := h.mod.trans g (fun _ _ h => h) (fun k hk hF => by have := (h.x k (hS k hF)).2.2.2.2; omega)
theorem St.quiet (h : St w0 w a b c L M s t u A B C X) (g : Mod (fun _ => False) w w') : St w0 w' a b c L M s t u A B C X := h.onX g (fun _ h => h.elim)
theorem St.less (h : St w0 w a b c L M s t u A B C X) {Y : Nat → Prop} (hY : ∀ k, Y k → X k) : St w0 w a b c L M s t u A B C Y :=
  ⟨h.la, h.lb, h.lc, h.ab, h.ac, h.bc, h.na, h.nb, h.nc, fun k hk => h.x k (hY k hk), h.mod⟩
/-- More is kept apart. -/
theorem St.more (h : St w0 w a b c L M s t u A B C X) {Y : Nat → Prop} (hY : ∀ k, Y k → ¬ A k ∧ ¬ B k ∧ ¬ C k ∧ k < w.heap.size ∧ w0.heap.size ≤ k) : St w0 w a b c L M s t u A B C (fun k => X k ∨ Y k) :=
  ⟨h.la, h.lb, h.lc, h.ab, h.ac, h.bc, h.na, h.nb, h.nc, fun k hk => by
    rcases hk with hk | hk
    · exact h.x k hk
    · exact hY k hk, h.mod⟩
/-- A block that is laid now is kept apart. -/
theorem St.alloc (h : St w0 w a b c L M s t u A B C X) (o : Obj) : St w0 (w.alloc o) a b c L M s t u A B C (fun k => X k ∨ k = w.heap.size) :=
  (h.quiet ((Mod.refl (fun _ => False) w).alloc o)).more fun k hk => by
    subst hk
    refine ⟨fun hA => ?_, fun hB => ?_, fun hC => ?_, by simp, h.mod.size⟩
    · have := h.la.lt hA
      omega
    · have := h.lb.lt hB
      omega
    · have := h.lc.lt hC
      omega
/-- What a call makes anew is kept apart. -/
theorem St.fresh (h : St w0 w a b c L M s t u A B C X) (g : Mod (fun _ => False) w w') {v : Value} {l : List Int} (ho : Own w' v l) (hn : ∀ k, v.ownBlock = some k → w.heap.size ≤ k) : St w0 w' a b c L M s t u A B C (fun k => X k ∨ v.ownBlock = some k) :=
  (h.quiet g).more fun k hk => by
    have h1 := hn k hk
    refine ⟨fun hA => ?_, fun hB => ?_, fun hC => ?_, ho.lt k hk, Nat.le_trans h.mod.size h1⟩
    · have := h.la.lt hA
      omega
    · have := h.lb.lt hB
      omega
    · have := h.lc.lt hC
      omega
/-- What is taken off the program's lane is kept apart. -/
theorem St.takenA (h : St w0 w a b c L M s t u A B C X) {L' : List Dg} {s' : Int} {A' : Nat → Prop} (hL : La w' a L' s' A') (g : Gone w w' A A') {v : Value} {d : Dg} (hT : Tk w' v d A A') : St w0 w' a b c L' M s' t u A' B C (fun k => X k ∨ v.ownBlock = some k) :=
  (h.onA hL g).more fun k hk => by
    obtain ⟨h1, h2⟩ := hT.far k hk
    exact ⟨h2, h.ab k h1, h.ac k h1, hT.own.lt k hk, h.na k h1⟩
theorem St.takenB (h : St w0 w a b c L M s t u A B C X) {M' : List Dg} {t' : Int} {B' : Nat → Prop} (hM : Da w' b M' (side t') B') (g : Gone w w' B B') {v : Value} {d : Dg} (hT : Tk w' v d B B') : St w0 w' a b c L M' s t' u A B' C (fun k => X k ∨ v.ownBlock = some k) :=
  (h.onB hM g).more fun k hk => by
    obtain ⟨h1, h2⟩ := hT.far k hk
    exact ⟨fun hA => h.ab k hA h1, h2, h.bc k h1, hT.own.lt k hk, h.nb k h1⟩
theorem Nds.put {L : List Dg} (h : Nds L) (d : Dg) : Nds (pL L d) := by
  unfold pL aL
  split
  · rename_i hd
    split
    · exact h
    · intro e he
      rcases List.mem_append.1 he with he | he
      · exact h e he
      · simp only [List.mem_singleton] at he
        subst he
        exact hd
  · exact h
theorem put_len {L : List Dg} (h : L.length ≤ 4096) (d : Dg) : (pL L d).length ≤ 4096 := by
  unfold pL aL
  split
  · split
    · exact h
    · simp; omega
  · exact h
theorem Nds.take {L : List Dg} (h : Nds L) (i : Int) : Nds (tL L i) := by
  unfold tL
  split
  · exact h
  · intro e he
    exact h e ((List.eraseIdx_sublist _ _).subset he)
theorem take_len {L : List Dg} (h : L.length ≤ 4096) (i : Int) : (tL L i).length ≤ 4096 := by
  unfold tL
  split
  · exact h
  · have := (List.eraseIdx_sublist L i.toNat).length_le
    omega
theorem Nds.at {L : List Dg} (h : Nds L) {i : Nat} (hi : i < L.length) : (nd (L.getD i ⟨0, 0, []⟩).f && nd (L.getD i ⟨0, 0, []⟩).t) = true := by
  have e : L.getD i ⟨0, 0, []⟩ = L[i] := by simp [hi]
  rw [e]
  exact h _ (List.getElem_mem hi)
theorem dbl_same {L : List Dg} (h : Nds L) (i : Int) : eE L i = dE L i ∧ eL L i = dL L i := by
  unfold eE eL dE dL
  by_cases hi : i < 0 ∨ (L.length : Int) ≤ i
  · rw [if_pos hi, if_pos hi, if_pos hi, if_pos hi]
    exact ⟨rfl, rfl⟩
  · have hn := h.at (i := i.toNat) (by omega)
    rw [if_neg hi, if_neg hi, if_neg hi, if_neg hi]
    unfold pE pL
    rw [if_pos hn, if_pos hn]
    exact ⟨rfl, rfl⟩
theorem Nds.dbl {L : List Dg} (h : Nds L) (i : Int) : Nds (dL L i) := by
  rw [← (dbl_same h i).2]
  unfold eL
  split
  · exact h
  · exact h.put _
theorem dbl_len {L : List Dg} (h : L.length ≤ 4096) (i : Int) : (dL L i).length ≤ 4096 := by
  unfold dL aL
  split
  · exact h
  · split
    · exact h
    · simp; omega
theorem Nds.flip {L : List Dg} (h : Nds L) (i t : Int) : Nds (fL L i t) := by
  unfold fL
  split
  · exact h
  · intro e he
    obtain ⟨k, hk⟩ := List.mem_iff_getElem?.1 he
    rw [List.getElem?_modify] at hk
    cases hx : L[k]? with
    | none => simp [hx] at hk
    | some y =>
      have hy := h y (List.mem_of_getElem? hx)
      by_cases e' : i.toNat = k
      · simp [hx, e'] at hk
        subst hk
        exact hy
      · simp [hx, e'] at hk
        subst hk
        exact hy
theorem flip_len {L : List Dg} (h : L.length ≤ 4096) (i t : Int) : (fL L i t).length ≤ 4096 := by
  unfold fL
  split
  · exact h
  · simpa using h
end Go.Proofs.Ythmglemjlinlgaa
