/- Datagrams in memory: a row of them, each with bytes of its own; the program's lane and the document's. No conditions; definitions and small laws on them. -/
import Derived.Test.YthmglemjlinlgaaLb
import Derived.Laws.CopyRow
import Derived.Laws.IdiomCopy
import Derived.Laws.ResultCell
import Derived.Deep.MidRow
namespace Go.Proofs.Ythmglemjlinlgaa
open Go.RowKit
/-- A datagram. -/
structure Dg where
  f : Int
  t : Int
  b : List Int
/-- What bytes are. -/
def Oct (l : List Int) : Prop := (∀ c ∈ l, 0 ≤ c ∧ c ≤ 255) ∧ l.length ≤ 140737488355328
/-- A datagram's cells, its bytes at x.2. -/
def dcs (x : Dg × Value) : List Value := [.int .i64 x.1.f, .int .i64 x.1.t, x.2]
/-- Those of a row. -/
def cel : List (Dg × Value) → List Value
  | [] => []
  | x :: r => dcs x ++ cel r
theorem cel_len : ∀ R : List (Dg × Value), (cel R).length = R.length * 3
  | [] => rfl
  | x :: r => by simp [cel, dcs, cel_len r]; omega
theorem cel_app : ∀ (R T : List (Dg × Value)), cel (R ++ T) = cel R ++ cel T
  | [], _ => rfl
  | x :: r, T => by simp [cel, cel_app r T]
theorem cel_get : ∀ (R : List (Dg × Value)) (j : Nat) (x : Dg × Value), R[j]? = some x → (cel R)[j * 3]? = some (.int .i64 x.1.f) ∧ (cel R)[j * 3 + 1]? = some (.int .i64 x.1.t) ∧ (cel R)[j * 3 + 2]? = some x.2
  | [], j, x, h => by simp at h
  | y :: r, 0, x, h => by
    simp only [List.getElem?_cons_zero, Option.some.injEq] at h
    subst h
    exact ⟨rfl, rfl, rfl⟩
  | y :: r, j + 1, x, h => by
    simp only [List.getElem?_cons_succ] at h
    have ih := cel_get r j x h
    have e : ∀ k, (cel (y :: r))[(j + 1) * 3 + k]? = (cel r)[j * 3 + k]? := fun k => by
      rw [show (j + 1) * 3 + k = (j * 3 + k) + 3 from by omega]
      rfl
    exact ⟨(e 0).trans ih.1, (e 1).trans ih.2.1, (e 2).trans ih.2.2⟩
theorem cel_drop : ∀ (R : List (Dg × Value)) (i : Nat), cel (R.drop i) = (cel R).drop (i * 3)
  | R, 0 => by simp
  | [], i + 1 => by simp [cel]
  | x :: r, i + 1 => by
    rw [List.drop_succ_cons, cel_drop r i, show (i + 1) * 3 = i * 3 + 1 + 1 + 1 from by omega]
    rfl
theorem cel_take : ∀ (R : List (Dg × Value)) (i : Nat), cel (R.take i) = (cel R).take (i * 3)
  | R, 0 => by simp [cel]
  | [], i + 1 => by simp [cel]
  | x :: r, i + 1 => by
    rw [List.take_succ_cons, show (i + 1) * 3 = i * 3 + 1 + 1 + 1 from by omega]
    simp [cel, dcs, cel_take r i]
theorem cel_one (R : List (Dg × Value)) (h : ∀ x ∈ R, x.2.oneCell' = true) : ∀ u ∈ cel R, u.oneCell' = true := by
  induction R with
  | nil => intro u hu; cases hu
  | cons x r ih =>
    intro u hu
    rcases List.mem_append.1 hu with h1 | h1
    · simp only [dcs, List.mem_cons, List.not_mem_nil, or_false] at h1
      rcases h1 with rfl | rfl | rfl
      · rfl
      · rfl
      · exact h x (by simp)
    · exact ih (fun y hy => h y (by simp [hy])) u h1
theorem owns_mod {S : Nat → Prop} {w w' : World} {B n z : Nat} {e : TypeId} {v : Value} {xs : List Value} (h : w.ownsRow B e z v n xs) (hm : Mod S w w') (hv : ∀ g, v.ownBlock = some g → ¬ S g) : w'.ownsRow B e z v n xs := by
  obtain ⟨h1, h2⟩ := h
  refine ⟨h1, ?_⟩
  rcases h2 with h2 | ⟨g, cap, cur, rfl, hb, hg, r⟩
  · exact Or.inl h2
  · exact Or.inr ⟨g, cap, cur, rfl, hb, hm.obj hg (hv g rfl), r⟩
theorem Own.oneCell {w : World} {v : Value} {l : List Int} (h : Own w v l) : v.oneCell' = true := by
  obtain ⟨ao, cap, rfl⟩ := h.shape
  rfl
/-- Which blocks a row of datagrams takes. -/
def Ft (v : Value) (R : List (Dg × Value)) (k : Nat) : Prop := v.ownBlock = some k ∨ ∃ u ∈ R.map Prod.snd, u.ownBlock = some k
/-- Apart. -/
def Apt (u v : Value) : Prop := ∀ g, u.ownBlock = some g → v.ownBlock ≠ some g
theorem Apt.symm {u v : Value} (h : Apt u v) : Apt v u := fun g hg hu => h g hu hg
/-- A row of datagrams. -/
structure Gr (w : World) (v : Value) (R : List (Dg × Value)) : Prop where
  row : w.ownsRow 0 30 3 v R.length (cel R)
  own : ∀ x ∈ R, Own w x.2 x.1.b ∧ Oct x.1.b
  sep : (R.map Prod.snd).Pairwise Apt
theorem Gr.nil (w : World) : Gr w (.slice none 0 0) [] := ⟨World.ownsRow_nil _ _ _ _, by simp, by simp⟩
theorem Gr.mod {S : Nat → Prop} {w w' : World} {v : Value} {R : List (Dg × Value)} (h : Gr w v R) (hm : Mod S w w') (hS : ∀ k, Ft v R k → ¬ S k) : Gr w' v R :=
  ⟨owns_mod h.row hm (fun g hg => hS g (.inl hg)), fun x hx => ⟨(h.own x hx).1.mod hm (fun g hg => hS g (.inr ⟨x.2, List.mem_map_of_mem hx, hg⟩)), (h.own x hx).2⟩, h.sep⟩
theorem Gr.kind {w : World} {v : Value} {R : List (Dg × Value)} (h : Gr w v R) {k : Nat} (hk : Ft v R k) : ∃ cur t, w.heap[k]? = some (.cells cur t (0, 0)) ∧ ((v.ownBlock = some k ∧ t = 30) ∨ t = 5) := by
  rcases hk with hk | ⟨u, hu, hk⟩
  · rcases h.row.2 with ⟨rfl, _⟩ | ⟨g, cap, cur, rfl, _, hg, _⟩
    · simp [Value.ownBlock] at hk
    · simp only [Value.ownBlock, Option.some.injEq] at hk
      subst hk
      exact ⟨cur, _, hg, .inl ⟨rfl, rfl⟩⟩
  · obtain ⟨x, hx, rfl⟩ := List.mem_map.1 hu
    obtain ⟨cur, hc⟩ := (h.own x hx).1.kind hk
    exact ⟨cur, 5, hc, .inr rfl⟩
theorem Gr.lt {w : World} {v : Value} {R : List (Dg × Value)} (h : Gr w v R) {k : Nat} (hk : Ft v R k) : k < w.heap.size := by
  obtain ⟨cur, t, hc, _⟩ := h.kind hk
  exact lt_of_block hc
/-- The row itself is none of the bytes. -/
theorem Gr.far {w : World} {v : Value} {R : List (Dg × Value)} (h : Gr w v R) {x : Dg × Value} (hx : x ∈ R) : Apt v x.2 := fun g hg hu => by
  obtain ⟨cur, hc⟩ := (h.own x hx).1.kind hu
  rcases h.row.2 with ⟨rfl, _⟩ | ⟨g', cap, cur', rfl, _, hg', _⟩
  · simp [Value.ownBlock] at hg
  · simp only [Value.ownBlock, Option.some.injEq] at hg
    subst hg
    rw [hc] at hg'
    simp at hg'
theorem Gr.shape {w : World} {v : Value} {R : List (Dg × Value)} (h : Gr w v R) : ∃ ao cap, v = .slice ao R.length cap ∧ R.length ≤ cap ∧ cap ≤ maxLen ∧ (0 < R.length → ∃ g, ao = some ⟨g, 0, none⟩ ∧ ∀ j u, (cel R)[j]? = some u → w.cell? ⟨g, j, none⟩ = some u) := by
  rcases h.row.2 with ⟨rfl, h0⟩ | ⟨g, cap, cur, rfl, _, hg, hn, hm, hs, ht⟩
  · exact ⟨none, 0, by rw [h0], by omega, by simp [maxLen], by omega⟩
  · refine ⟨_, cap, rfl, hn, hm, fun _ => ⟨g, rfl, fun j u hu => ?_⟩⟩
    rw [← ht, List.getElem?_take] at hu
    split at hu
    · simpa [World.cell?, hg] using hu
    · cases hu
theorem Gr.ones {w : World} {v : Value} {R : List (Dg × Value)} (h : Gr w v R) : ∀ u ∈ cel R, u.oneCell' = true := cel_one R fun x hx => (h.own x hx).1.oneCell
/-- One more, behind an append. -/
theorem Gr.app {w W w2 : World} {v v' v2 : Value} {R : List (Dg × Value)} {d : Dg} (h : Gr w v R) (hm : Mod (fun _ => False) w W) (hv : Own W v' d.b) (hr : Oct d.b) (hn : ∀ g, v'.ownBlock = some g → w.heap.size ≤ g)
    (ho : w2.ownsRow 0 30 3 v2 (R.length + 1) (cel R ++ dcs (d, v'))) (hm2 : Mod (fun k => v.ownBlock = some k) W w2) (hat : ∀ g, v2.ownBlock = some g → v.ownBlock = some g ∨ w.heap.size ≤ g) :
    Gr w2 v2 (R ++ [(d, v')]) ∧ Mod (fun k => v.ownBlock = some k) w w2 ∧ (∀ k, Ft v2 (R ++ [(d, v')]) k → Ft v R k ∨ w.heap.size ≤ k) := by
  have hM : Mod (fun k => v.ownBlock = some k) w w2 := hm.trans hm2 (fun _ _ h => h.elim) (fun _ _ h => h)
  have hvn : ∀ g, v'.ownBlock = some g → ¬ v.ownBlock = some g := fun g hg hv => by
    have h1 := h.lt (.inl hv)
    have h2 := hn g hg
    omega
  refine ⟨⟨?_, ?_, ?_⟩, hM, ?_⟩
  · rw [cel_app]
    simpa [cel] using ho
  · intro x hx
    rcases List.mem_append.1 hx with hx | hx
    · exact ⟨(h.own x hx).1.mod hM (fun g hg hv => h.far hx g hv hg), (h.own x hx).2⟩
    · simp only [List.mem_singleton] at hx
      subst hx
      exact ⟨hv.mod hm2 hvn, hr⟩
  · rw [List.map_append, List.pairwise_append]
    refine ⟨h.sep, by simp, fun u hu y hy => ?_⟩
    simp only [List.map_cons, List.map_nil, List.mem_singleton] at hy
    subst hy
    intro g hg hg2
    have h1 := h.lt (.inr ⟨u, hu, hg⟩)
    have h2 := hn g hg2
    omega
  · intro k hk
    rcases hk with hk | ⟨u, hu, hk⟩
    · rcases hat k hk with h1 | h1
      · exact .inl (.inl h1)
      · exact .inr h1
    · rw [List.map_append, List.mem_append] at hu
      rcases hu with hu | hu
      · exact .inl (.inr ⟨u, hu, hk⟩)
      · simp only [List.map_cons, List.map_nil, List.mem_singleton] at hu
        subst hu
        exact .inr (hn k hk)
/-- One out of the midst: what is left stands in another row. -/
theorem Gr.out {w w2 : World} {v v2 : Value} {R : List (Dg × Value)} {i : Nat} (h : Gr w v R) (ho : w2.ownsRow 0 30 3 v2 (R.eraseIdx i).length (cel (R.eraseIdx i))) (hm : Mod (fun k => v.ownBlock = some k) w w2) : Gr w2 v2 (R.eraseIdx i) :=
  ⟨ho, fun x hx => by
    have hx' := (List.eraseIdx_sublist R i).subset hx
    exact ⟨(h.own x hx').1.mod hm (fun g hg hv => h.far hx' g hv hg), (h.own x hx').2⟩, h.sep.sublist ((List.eraseIdx_sublist R i).map _)⟩
theorem Ft.out {v : Value} {R : List (Dg × Value)} {i k : Nat} (h : ∃ u ∈ (R.eraseIdx i).map Prod.snd, u.ownBlock = some k) : Ft v R k := by
  obtain ⟨u, hu, hk⟩ := h
  exact .inr ⟨u, ((List.eraseIdx_sublist R i).map _).subset hu, hk⟩
theorem pair_erase {α : Type} {P : α → α → Prop} (hs : ∀ a b, P a b → P b a) : ∀ {l : List α} {i : Nat} {x : α}, l.Pairwise P → l[i]? = some x → ∀ y ∈ l.eraseIdx i, P x y
  | [], i, x, _, h, y, hy => by simp at h
  | a :: r, 0, x, hp, h, y, hy => by
    simp only [List.getElem?_cons_zero, Option.some.injEq] at h
    subst h
    exact (List.pairwise_cons.1 hp).1 y (by simpa using hy)
  | a :: r, i + 1, x, hp, h, y, hy => by
    simp only [List.getElem?_cons_succ] at h
    simp only [List.eraseIdx_cons_succ, List.mem_cons] at hy
    have hp' := List.pairwise_cons.1 hp
    rcases hy with rfl | hy
    · exact hs _ _ (hp'.1 x (List.mem_of_getElem? h))
    · exact pair_erase hs hp'.2 h y hy
theorem map_eraseIdx' {α β : Type} (f : α → β) : ∀ (l : List α) (i : Nat), (l.eraseIdx i).map f = (l.map f).eraseIdx i
  | [], i => by simp
  | a :: r, 0 => by simp
  | a :: r, i + 1 => by simp [map_eraseIdx' f r i]
/-- The bytes of the one that is taken are none of the others'. -/
theorem Gr.gone {w : World} {v v2 : Value} {R : List (Dg × Value)} {i : Nat} {x : Dg × Value} (h : Gr w v R) (hx : R[i]? = some x) (hv : ∀ g, v2.ownBlock = some g → v.ownBlock = some g ∨ w.heap.size ≤ g) : ∀ g, x.2.ownBlock = some g → ¬ Ft v2 (R.eraseIdx i) g := by
  intro g hg hk
  have hmem := List.mem_of_getElem? hx
  rcases hk with hk | ⟨u, hu, hk⟩
  · rcases hv g hk with h1 | h1
    · exact h.far hmem g h1 hg
    · have := h.lt (.inr ⟨x.2, List.mem_map_of_mem hmem, hg⟩)
      omega
  · rw [map_eraseIdx'] at hu
    exact pair_erase (fun a b h => h.symm) h.sep (by simp [hx]) u hu g hg hk
/-- A lane of the program at block p. -/
structure Ln (w : World) (p : Nat) (v : Value) (R : List (Dg × Value)) (s : Int) : Prop where
  blk : w.heap[p]? = some (.cells #[.bool true, v, .int .i64 s] 50 (0, 0))
  gr : Gr w v R
/-- Which blocks a lane takes. -/
def Fl (p : Nat) (v : Value) (R : List (Dg × Value)) (k : Nat) : Prop := k = p ∨ Ft v R k
theorem Ln.mod {S : Nat → Prop} {w w' : World} {p : Nat} {v : Value} {R : List (Dg × Value)} {s : Int} (h : Ln w p v R s) (hm : Mod S w w') (hS : ∀ k, Fl p v R k → ¬ S k) : Ln w' p v R s :=
  ⟨hm.obj h.blk (hS p (.inl rfl)), h.gr.mod hm (fun k hk => hS k (.inr hk))⟩
theorem Ln.lt {w : World} {p : Nat} {v : Value} {R : List (Dg × Value)} {s : Int} (h : Ln w p v R s) {k : Nat} (hk : Fl p v R k) : k < w.heap.size := by
  rcases hk with rfl | hk
  · exact lt_of_block h.blk
  · exact h.gr.lt hk
theorem Ln.far {w : World} {p : Nat} {v : Value} {R : List (Dg × Value)} {s : Int} (h : Ln w p v R s) : ¬ Ft v R p := fun hk => by
  obtain ⟨cur, t, hc, ht⟩ := h.gr.kind hk
  rw [h.blk] at hc
  simp at hc
  rcases ht with ⟨_, rfl⟩ | rfl <;> simp at hc
theorem Ln.c0 {w : World} {p : Nat} {v : Value} {R : List (Dg × Value)} {s : Int} (h : Ln w p v R s) : w.cell? ⟨p, 0, none⟩ = some (.bool true) := by simp [World.cell?, h.blk]
theorem Ln.c1 {w : World} {p : Nat} {v : Value} {R : List (Dg × Value)} {s : Int} (h : Ln w p v R s) : w.cell? ⟨p, 1, none⟩ = some v := by simp [World.cell?, h.blk]
theorem Ln.c2 {w : World} {p : Nat} {v : Value} {R : List (Dg × Value)} {s : Int} (h : Ln w p v R s) : w.cell? ⟨p, 2, none⟩ = some (.int .i64 s) := by simp [World.cell?, h.blk]
theorem Ln.f1 {w : World} {p : Nat} {v : Value} {R : List (Dg × Value)} {s : Int} (h : Ln w p v R s) (j : Nat) : w.frozen? ⟨p, j, none⟩ = false := by simp [World.frozen?, h.blk]
/-- Another row stored. -/
theorem Ln.store {w w2 : World} {p : Nat} {v v2 : Value} {R R2 : List (Dg × Value)} {s : Int} (h : Ln w p v R s) (hg : Gr w2 v2 R2) (hm : Mod (Ft v R) w w2) (hf : ∀ k, Ft v2 R2 k → Ft v R k ∨ w.heap.size ≤ k) :
    Ln (w2.setCell ⟨p, 1, none⟩ v2) p v2 R2 s ∧ Mod (Fl p v R) w (w2.setCell ⟨p, 1, none⟩ v2) ∧ (∀ k, Fl p v2 R2 k → Fl p v R k ∨ w.heap.size ≤ k) := by
  have hb := hm.obj h.blk h.far
  have hlt := lt_of_block h.blk
  refine ⟨⟨by simp [World.setCell, Array.getElem?_modify, hb], ?_⟩, (hm.mono fun k _ hk => .inr hk).setCell _ _ (.inl (.inl rfl)), ?_⟩
  · refine hg.mod ((Mod.refl (fun k => k = p) w2).setCell _ _ (.inl rfl)) fun k hk e => ?_
    subst e
    rcases hf _ hk with h1 | h1
    · exact h.far h1
    · omega
  · rintro k (rfl | hk)
    · exact .inl (.inl rfl)
    · rcases hf k hk with h1 | h1
      · exact .inl (.inr h1)
      · exact .inr h1
/-- A lane of the document at block p: its side. -/
structure Dn (w : World) (p : Nat) (v : Value) (R : List (Dg × Value)) (a : List Bool) : Prop where
  blk : w.heap[p]? = some (.cells (v :: a.map Value.bool).toArray 53 (0, 0))
  len : a.length = 9
  gr : Gr w v R
theorem Dn.mod {S : Nat → Prop} {w w' : World} {p : Nat} {v : Value} {R : List (Dg × Value)} {a : List Bool} (h : Dn w p v R a) (hm : Mod S w w') (hS : ∀ k, Fl p v R k → ¬ S k) : Dn w' p v R a :=
  ⟨hm.obj h.blk (hS p (.inl rfl)), h.len, h.gr.mod hm (fun k hk => hS k (.inr hk))⟩
theorem Dn.lt {w : World} {p : Nat} {v : Value} {R : List (Dg × Value)} {a : List Bool} (h : Dn w p v R a) {k : Nat} (hk : Fl p v R k) : k < w.heap.size := by
  rcases hk with rfl | hk
  · exact lt_of_block h.blk
  · exact h.gr.lt hk
theorem Dn.far {w : World} {p : Nat} {v : Value} {R : List (Dg × Value)} {a : List Bool} (h : Dn w p v R a) : ¬ Ft v R p := fun hk => by
  obtain ⟨cur, t, hc, ht⟩ := h.gr.kind hk
  rw [h.blk] at hc
  simp at hc
  rcases ht with ⟨_, rfl⟩ | rfl <;> simp at hc
theorem Dn.c0 {w : World} {p : Nat} {v : Value} {R : List (Dg × Value)} {a : List Bool} (h : Dn w p v R a) : w.cell? ⟨p, 0, none⟩ = some v := by simp [World.cell?, h.blk]
theorem Dn.cs {w : World} {p : Nat} {v : Value} {R : List (Dg × Value)} {a : List Bool} (h : Dn w p v R a) {j : Nat} (hj : j < 9) : w.cell? ⟨p, 1 + j, none⟩ = some (.bool (a.getD j false)) := by
  have := h.len
  simp [World.cell?, h.blk, Nat.add_comm 1 j, show j < a.length by omega]
theorem Dn.f {w : World} {p : Nat} {v : Value} {R : List (Dg × Value)} {a : List Bool} (h : Dn w p v R a) (j : Nat) : w.frozen? ⟨p, j, none⟩ = false := by simp [World.frozen?, h.blk]
theorem Dn.store {w w2 : World} {p : Nat} {v v2 : Value} {R R2 : List (Dg × Value)} {a : List Bool} (h : Dn w p v R a) (hg : Gr w2 v2 R2) (hm : Mod (Ft v R) w w2) (hf : ∀ k, Ft v2 R2 k → Ft v R k ∨ w.heap.size ≤ k) :
    Dn (w2.setCell ⟨p, 0, none⟩ v2) p v2 R2 a ∧ Mod (Fl p v R) w (w2.setCell ⟨p, 0, none⟩ v2) ∧ (∀ k, Fl p v2 R2 k → Fl p v R k ∨ w.heap.size ≤ k) := by
  have hb := hm.obj h.blk h.far
  have hlt := lt_of_block h.blk
  refine ⟨⟨by simp [World.setCell, Array.getElem?_modify, hb], h.len, ?_⟩, (hm.mono fun k _ hk => .inr hk).setCell _ _ (.inl (.inl rfl)), ?_⟩
  · refine hg.mod ((Mod.refl (fun k => k = p) w2).setCell _ _ (.inl rfl)) fun k hk e => ?_
    subst e
    rcases hf _ hk with h1 | h1
    · exact h.far h1
    · omega
  · rintro k (rfl | hk)
    · exact .inl (.inl rfl)
    · rcases hf k hk with h1 | h1
      · exact .inl (.inr h1)
      · exact .inr h1
/-- A byte of one datagram set. -/
def stb (R : List (Dg × Value)) (i j : Nat) (c : Int) : List (Dg × Value) := R.modify i fun x => ({ x.1 with b := x.1.b.set j c }, x.2)
theorem stb_snd (R : List (Dg × Value)) (i j : Nat) (c : Int) : (stb R i j c).map Prod.snd = R.map Prod.snd := by
  apply List.ext_getElem?
  intro k
  simp only [stb, List.getElem?_map, List.getElem?_modify]
  cases R[k]? with
  | none => rfl
  | some x => by_cases e : i = k <;> simp [e]
theorem stb_cel : ∀ (R : List (Dg × Value)) (i j : Nat) (c : Int), cel (stb R i j c) = cel R
  | [], i, j, c => by simp [stb]
  | x :: r, 0, j, c => by simp [stb, cel, dcs]
  | x :: r, i + 1, j, c => by
    have := stb_cel r i j c
    simp only [stb] at this ⊢
    simp [cel, this]
theorem set_U (l : List Int) (j : Nat) (c : Int) : U (l.set j c) = (U l).set j (.int .u8 c) := by simp [U, List.map_set]
theorem Own.set {w : World} {v : Value} {l : List Int} {g : Nat} (h : Own w v l) (hg : v.ownBlock = some g) {j : Nat} (hj : j < l.length) (c : Int) : Own (w.setCell ⟨g, j, none⟩ (.int .u8 c)) v (l.set j c) := by
  rcases h.2 with ⟨rfl, h0⟩ | ⟨g', cap, cur, rfl, hb, hh, hn, hm, hs, ht⟩
  · omega
  · simp only [Value.ownBlock, Option.some.injEq] at hg
    subst hg
    refine ⟨by simp [U], .inr ⟨g', cap, cur.setIfInBounds j (.int .u8 c), by simp, hb, ?_, by simpa using hn, hm, by simpa using hs, ?_⟩⟩
    · simp [World.setCell, Array.getElem?_modify, hh]
    · rw [set_U, ← ht]
      simp [List.take_set]
theorem Gr.setb {w : World} {v : Value} {R : List (Dg × Value)} {i j g : Nat} {x : Dg × Value} (h : Gr w v R) (hx : R[i]? = some x) (hg : x.2.ownBlock = some g) (hj : j < x.1.b.length) {c : Int} (hc : 0 ≤ c ∧ c ≤ 255) :
    Gr (w.setCell ⟨g, j, none⟩ (.int .u8 c)) v (stb R i j c) ∧ Mod (fun k => k = g) w (w.setCell ⟨g, j, none⟩ (.int .u8 c)) := by
  have hm : Mod (fun k => k = g) w (w.setCell ⟨g, j, none⟩ (.int .u8 c)) := (Mod.refl _ w).setCell _ _ (.inl rfl)
  have hmem := List.mem_of_getElem? hx
  refine ⟨⟨?_, ?_, by rw [stb_snd]; exact h.sep⟩, hm⟩
  · rw [stb_cel, show (stb R i j c).length = R.length from by simp [stb]]
    exact owns_mod h.row hm (fun g' hg' e => by subst e; exact h.far hmem _ hg' hg)
  · intro y hy
    obtain ⟨k, hk⟩ := List.mem_iff_getElem?.1 hy
    rw [stb, List.getElem?_modify] at hk
    by_cases e : i = k
    · subst e
      rw [hx] at hk
      simp at hk
      subst hk
      refine ⟨(h.own x hmem).1.set hg hj c, fun z hz => ?_, by simpa using (h.own x hmem).2.2⟩
      rcases List.mem_or_eq_of_mem_set hz with hz | rfl
      · exact (h.own x hmem).2.1 z hz
      · exact hc
    · simp [e] at hk
      have hy' := List.mem_of_getElem? hk
      refine ⟨(h.own y hy').1.mod hm (fun g' hg' e' => ?_), (h.own y hy').2⟩
      subst e'
      have hi := (List.getElem?_eq_some_iff.1 hx).1
      have hk' := (List.getElem?_eq_some_iff.1 hk).1
      have hp := List.pairwise_iff_getElem.1 h.sep
      have e1 : x = R[i] := ((List.getElem?_eq_some_iff.1 hx).2).symm
      have e2 : y = R[k] := ((List.getElem?_eq_some_iff.1 hk).2).symm
      rcases Nat.lt_or_gt_of_ne e with hlt | hlt
      · have := hp i k (by simpa using hi) (by simpa using hk') hlt
        simp only [List.getElem_map] at this
        rw [← e1, ← e2] at this
        exact this _ hg hg'
      · have := hp k i (by simpa using hk') (by simpa using hi) hlt
        simp only [List.getElem_map] at this
        rw [← e1, ← e2] at this
        exact this _ hg' hg
theorem Ft.setb {v : Value} {R : List (Dg × Value)} {i j : Nat} {c : Int} : Ft v (stb R i j c) = Ft v R := by
  funext k
  unfold Ft
  rw [stb_snd]
theorem Ln.setb {w : World} {p : Nat} {v : Value} {R : List (Dg × Value)} {s : Int} {i j g : Nat} {x : Dg × Value} (h : Ln w p v R s) (hx : R[i]? = some x) (hg : x.2.ownBlock = some g) (hj : j < x.1.b.length) {c : Int} (hc : 0 ≤ c ∧ c ≤ 255) :
    Ln (w.setCell ⟨g, j, none⟩ (.int .u8 c)) p v (stb R i j c) s ∧ Mod (Fl p v R) w (w.setCell ⟨g, j, none⟩ (.int .u8 c)) := by
  obtain ⟨h1, h2⟩ := h.gr.setb hx hg hj hc
  have hin : Ft v R g := .inr ⟨x.2, List.mem_map_of_mem (List.mem_of_getElem? hx), hg⟩
  exact ⟨⟨h2.obj h.blk (fun e => h.far (e ▸ hin)), h1⟩, h2.mono fun k _ e => .inr (e ▸ hin)⟩
theorem Dn.setb {w : World} {p : Nat} {v : Value} {R : List (Dg × Value)} {a : List Bool} {i j g : Nat} {x : Dg × Value} (h : Dn w p v R a) (hx : R[i]? = some x) (hg : x.2.ownBlock = some g) (hj : j < x.1.b.length) {c : Int} (hc : 0 ≤ c ∧ c ≤ 255) :
    Dn (w.setCell ⟨g, j, none⟩ (.int .u8 c)) p v (stb R i j c) a ∧ Mod (Fl p v R) w (w.setCell ⟨g, j, none⟩ (.int .u8 c)) := by
  obtain ⟨h1, h2⟩ := h.gr.setb hx hg hj hc
  have hin : Ft v R g := .inr ⟨x.2, List.mem_map_of_mem (List.mem_of_getElem? hx), hg⟩
  exact ⟨⟨h2.obj h.blk (fun e => h.far (e ▸ hin)), h.len, h1⟩, h2.mono fun k _ e => .inr (e ▸ hin)⟩
theorem info3d : (Try.prog.info? 30).map (·.size) = some 3 := by kernel_rfl
theorem range3 {w : World} {b : Nat} {t : TypeId} {x y z : Value} {fr : Nat × Nat} (hb : w.heap[b]? = some (.cells #[x, y, z] t fr)) : w.rangeAt b 0 [x, y, z] := fun j v hv => by
  simp only [World.cell?, hb, Nat.zero_add]
  simpa using hv
theorem results_2 {fn : Func} {p q : Tmp} {ty : TypeId} (h : fn.results = #[.cell p ty, .tmp q]) (tmps : Array Value) (P : Program) (w : World) :
    (results fn tmps).run P w = ((asAddr (tmps.getD p undef)).run P w).andThen fun a w₁ => ((loadVar ty a).run P w₁).andThen fun v w₂ => .ok (.tuple #[v, tmps.getD q undef]) w₂ := by
  simp only [results, h]
  simp [Sem.run_bind, Result.andThen]
theorem results_1 {fn : Func} {p : Tmp} {ty : TypeId} (h : fn.results = #[.cell p ty]) (tmps : Array Value) (P : Program) (w : World) :
    (results fn tmps).run P w = ((asAddr (tmps.getD p undef)).run P w).andThen fun a w₁ => (loadVar ty a).run P w₁ := by
  simp only [results, h]
  simp [Sem.run_bind, Result.andThen]
/-- A datagram as a result through a cell. -/
theorem res3 {fn : Func} {pp u : Tmp} (h : fn.results = #[.cell pp 30, .tmp u]) {tmps : Array Value} {w : World} {b : Nat} {x y z v : Value} {t : TypeId} {fr : Nat × Nat} (hp : tmps.getD pp undef = .pointer (some ⟨b, 0, none⟩)) (hv : tmps.getD u undef = v) (hb : w.heap[b]? = some (.cells #[x, y, z] t fr)) :
    (results fn tmps).run Try.prog w = .ok (.tuple #[.agg #[x, y, z], v]) w := by
  rw [results_2 h, hp, hv]
  have hl := run_loadVar_mid (P := Try.prog) w b 0 30 [x, y, z] _ (range3 hb) Try.underlying30 rfl (by rw [info3d]; rfl)
  simp only [asAddr, Sem.run_pure, Result.andThen]
  rw [hl]
theorem res1 {fn : Func} {pp : Tmp} (h : fn.results = #[.cell pp 30]) {tmps : Array Value} {w : World} {b : Nat} {x y z : Value} {t : TypeId} {fr : Nat × Nat} (hp : tmps.getD pp undef = .pointer (some ⟨b, 0, none⟩)) (hb : w.heap[b]? = some (.cells #[x, y, z] t fr)) :
    (results fn tmps).run Try.prog w = .ok (.agg #[x, y, z]) w := by
  rw [results_1 h, hp]
  have hl := run_loadVar_mid (P := Try.prog) w b 0 30 [x, y, z] _ (range3 hb) Try.underlying30 rfl (by rw [info3d]; rfl)
  simp only [asAddr, Sem.run_pure, Result.andThen]
  rw [hl]
end Go.Proofs.Ythmglemjlinlgaa
