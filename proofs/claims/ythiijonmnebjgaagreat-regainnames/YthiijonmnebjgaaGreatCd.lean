/- parcel's get, handed pointers into a message: what is read stands in the message, and nothing else is turned. Contracts of it for eight numbers, for four, and for one. No conditions. -/
import Derived.Test.YthiijonmnebjgaaGreatCc
namespace Go.Proofs.YthiijonmnebjgaaGreat
open Go.RowKit
theorem MB.i0 {w : World} {m : Nat} {k o lf i p ps g : Int} {s : Bool} {st rs rr sq : Int} {bv : Value} (h : MB w m k o lf i p ps g s st rs rr sq bv) (x : Int) : MB (w.setCell ⟨m, 0, none⟩ (.int .i64 x)) m x o lf i p ps g s st rs rr sq bv := by
  unfold MB at *
  simp [World.setCell, Array.getElem?_modify, h]
theorem MB.i1 {w : World} {m : Nat} {k o lf i p ps g : Int} {s : Bool} {st rs rr sq : Int} {bv : Value} (h : MB w m k o lf i p ps g s st rs rr sq bv) (x : Int) : MB (w.setCell ⟨m, 1, none⟩ (.int .i64 x)) m k x lf i p ps g s st rs rr sq bv := by
  unfold MB at *
  simp [World.setCell, Array.getElem?_modify, h]
theorem MB.i2 {w : World} {m : Nat} {k o lf i p ps g : Int} {s : Bool} {st rs rr sq : Int} {bv : Value} (h : MB w m k o lf i p ps g s st rs rr sq bv) (x : Int) : MB (w.setCell ⟨m, 2, none⟩ (.int .i64 x)) m k o x i p ps g s st rs rr sq bv := by
  unfold MB at *
  simp [World.setCell, Array.getElem?_modify, h]
theorem MB.i3 {w : World} {m : Nat} {k o lf i p ps g : Int} {s : Bool} {st rs rr sq : Int} {bv : Value} (h : MB w m k o lf i p ps g s st rs rr sq bv) (x : Int) : MB (w.setCell ⟨m, 3, none⟩ (.int .i64 x)) m k o lf x p ps g s st rs rr sq bv := by
  unfold MB at *
  simp [World.setCell, Array.getElem?_modify, h]
theorem MB.i4 {w : World} {m : Nat} {k o lf i p ps g : Int} {s : Bool} {st rs rr sq : Int} {bv : Value} (h : MB w m k o lf i p ps g s st rs rr sq bv) (x : Int) : MB (w.setCell ⟨m, 4, none⟩ (.int .i64 x)) m k o lf i x ps g s st rs rr sq bv := by
  unfold MB at *
  simp [World.setCell, Array.getElem?_modify, h]
theorem MB.i5 {w : World} {m : Nat} {k o lf i p ps g : Int} {s : Bool} {st rs rr sq : Int} {bv : Value} (h : MB w m k o lf i p ps g s st rs rr sq bv) (x : Int) : MB (w.setCell ⟨m, 5, none⟩ (.int .i64 x)) m k o lf i p x g s st rs rr sq bv := by
  unfold MB at *
  simp [World.setCell, Array.getElem?_modify, h]
theorem MB.i6 {w : World} {m : Nat} {k o lf i p ps g : Int} {s : Bool} {st rs rr sq : Int} {bv : Value} (h : MB w m k o lf i p ps g s st rs rr sq bv) (x : Int) : MB (w.setCell ⟨m, 6, none⟩ (.int .i64 x)) m k o lf i p ps x s st rs rr sq bv := by
  unfold MB at *
  simp [World.setCell, Array.getElem?_modify, h]
theorem MB.i8 {w : World} {m : Nat} {k o lf i p ps g : Int} {s : Bool} {st rs rr sq : Int} {bv : Value} (h : MB w m k o lf i p ps g s st rs rr sq bv) (x : Int) : MB (w.setCell ⟨m, 8, none⟩ (.int .i64 x)) m k o lf i p ps g s x rs rr sq bv := by
  unfold MB at *
  simp [World.setCell, Array.getElem?_modify, h]
theorem MB.i9 {w : World} {m : Nat} {k o lf i p ps g : Int} {s : Bool} {st rs rr sq : Int} {bv : Value} (h : MB w m k o lf i p ps g s st rs rr sq bv) (x : Int) : MB (w.setCell ⟨m, 9, none⟩ (.int .i64 x)) m k o lf i p ps g s st x rr sq bv := by
  unfold MB at *
  simp [World.setCell, Array.getElem?_modify, h]
theorem MB.i10 {w : World} {m : Nat} {k o lf i p ps g : Int} {s : Bool} {st rs rr sq : Int} {bv : Value} (h : MB w m k o lf i p ps g s st rs rr sq bv) (x : Int) : MB (w.setCell ⟨m, 10, none⟩ (.int .i64 x)) m k o lf i p ps g s st rs x sq bv := by
  unfold MB at *
  simp [World.setCell, Array.getElem?_modify, h]
theorem MB.i11 {w : World} {m : Nat} {k o lf i p ps g : Int} {s : Bool} {st rs rr sq : Int} {bv : Value} (h : MB w m k o lf i p ps g s st rs rr sq bv) (x : Int) : MB (w.setCell ⟨m, 11, none⟩ (.int .i64 x)) m k o lf i p ps g s st rs rr x bv := by
  unfold MB at *
  simp [World.setCell, Array.getElem?_modify, h]
theorem MB.b7 {w : World} {m : Nat} {k o lf i p ps g : Int} {s : Bool} {st rs rr sq : Int} {bv : Value} (h : MB w m k o lf i p ps g s st rs rr sq bv) (x : Bool) : MB (w.setCell ⟨m, 7, none⟩ (.bool x)) m k o lf i p ps g x st rs rr sq bv := by
  unfold MB at *
  simp [World.setCell, Array.getElem?_modify, h]
theorem MB.v12 {w : World} {m : Nat} {k o lf i p ps g : Int} {s : Bool} {st rs rr sq : Int} {bv : Value} (h : MB w m k o lf i p ps g s st rs rr sq bv) (x : Value) : MB (w.setCell ⟨m, 12, none⟩ x) m k o lf i p ps g s st rs rr sq x := by
  unfold MB at *
  simp [World.setCell, Array.getElem?_modify, h]
theorem MB.other {w : World} {m : Nat} {k o lf i p ps g : Int} {s : Bool} {st rs rr sq : Int} {bv : Value} (h : MB w m k o lf i p ps g s st rs rr sq bv) (a : Addr) (u : Value) (ha : a.block ≠ m) : MB (w.setCell a u) m k o lf i p ps g s st rs rr sq bv :=
  h.mod ((Mod.refl (fun k => k = a.block) w).setCell _ _ (.inl rfl)) (fun e => ha e.symm)
/-- A message, whatever its numbers are. -/
def MX (w : World) (m : Nat) (s : Bool) (bv : Value) : Prop := ∃ k o lf i p ps g st rs rr sq, MB w m k o lf i p ps g s st rs rr sq bv
def Ix (j : Nat) : Prop := j = 0 ∨ j = 1 ∨ j = 2 ∨ j = 3 ∨ j = 4 ∨ j = 5 ∨ j = 6 ∨ j = 8 ∨ j = 9 ∨ j = 10 ∨ j = 11
theorem MX.set {w : World} {m : Nat} {s : Bool} {bv : Value} (h : MX w m s bv) (a : Nat × Nat) (x : Int) (ha : a.1 = m → Ix a.2) : MX (w.setCell ⟨a.1, a.2, none⟩ (.int .i64 x)) m s bv := by
  obtain ⟨k, o, lf, i, p, ps, g, st, rs, rr, sq, h⟩ := h
  obtain ⟨b, j⟩ := a
  by_cases hb : b = m
  · subst hb
    rcases ha rfl with h' | h' | h' | h' | h' | h' | h' | h' | h' | h' | h' <;> (dsimp only at h'; subst h')
    · exact ⟨_, _, _, _, _, _, _, _, _, _, _, h.i0 x⟩
    · exact ⟨_, _, _, _, _, _, _, _, _, _, _, h.i1 x⟩
    · exact ⟨_, _, _, _, _, _, _, _, _, _, _, h.i2 x⟩
    · exact ⟨_, _, _, _, _, _, _, _, _, _, _, h.i3 x⟩
    · exact ⟨_, _, _, _, _, _, _, _, _, _, _, h.i4 x⟩
    · exact ⟨_, _, _, _, _, _, _, _, _, _, _, h.i5 x⟩
    · exact ⟨_, _, _, _, _, _, _, _, _, _, _, h.i6 x⟩
    · exact ⟨_, _, _, _, _, _, _, _, _, _, _, h.i8 x⟩
    · exact ⟨_, _, _, _, _, _, _, _, _, _, _, h.i9 x⟩
    · exact ⟨_, _, _, _, _, _, _, _, _, _, _, h.i10 x⟩
    · exact ⟨_, _, _, _, _, _, _, _, _, _, _, h.i11 x⟩
  · exact ⟨_, _, _, _, _, _, _, _, _, _, _, h.other _ _ hb⟩
theorem MX.sets : ∀ (l : List ((Nat × Nat) × Int)) {w : World} {m : Nat} {s : Bool} {bv : Value}, MX w m s bv → (∀ y ∈ l, y.1.1 = m → Ix y.1.2) → MX (sets w l) m s bv
  | [], _, _, _, _, h, _ => h
  | (a, x) :: l, _, _, _, _, h, ha => MX.sets l (h.set a x (ha (a, x) (by simp))) (fun y hy => ha y (by simp [hy]))
theorem MX.mod {S : Nat → Prop} {w w' : World} {m : Nat} {s : Bool} {bv : Value} (h : MX w m s bv) (hm : Mod S w w') (hb : ¬ S m) : MX w' m s bv := by
  obtain ⟨k, o, lf, i, p, ps, g, st, rs, rr, sq, h⟩ := h
  exact ⟨k, o, lf, i, p, ps, g, st, rs, rr, sq, h.mod hm hb⟩
/-- An int in a block of its own. -/
def IB (w : World) (b : Nat) (x : Int) : Prop := w.heap[b]? = some (.cells #[.int .i64 x] 3 (0, 0))
theorem IB.cell {w : World} {b : Nat} {x : Int} (h : IB w b x) : w.cell? ⟨b, 0, none⟩ = some (.int .i64 x) := by
  unfold IB at h
  simp [World.cell?, h]
theorem IB.frz {w : World} {b : Nat} {x : Int} (h : IB w b x) : w.frozen? ⟨b, 0, none⟩ = false := by
  unfold IB at h
  simp [World.frozen?, h]
theorem IB.set {w : World} {b : Nat} {x : Int} (h : IB w b x) (y : Int) : IB (w.setCell ⟨b, 0, none⟩ (.int .i64 y)) b y := by
  unfold IB at *
  simp [World.setCell, Array.getElem?_modify, h]
theorem IB.other {w : World} {b : Nat} {x : Int} (h : IB w b x) (a : Addr) (u : Value) (ha : a.block ≠ b) : IB (w.setCell a u) b x :=
  ((Mod.refl (fun k => k = a.block) w).setCell _ _ (.inl rfl)).obj h (fun e => ha e.symm)
theorem IB.mod {S : Nat → Prop} {w w' : World} {b : Nat} {x : Int} (h : IB w b x) (hm : Mod S w w') (hb : ¬ S b) : IB w' b x := hm.obj h hb
theorem MB.pt {w : World} {m : Nat} {k o lf i p ps g : Int} {s : Bool} {st rs rr sq : Int} {bv : Value} (h : MB w m k o lf i p ps g s st rs rr sq bv) {r b : Nat} {v : Value} {j : Nat} (hj : Ix j) (h1 : m ≠ r) (h2 : m ≠ b) (h3 : v.ownBlock ≠ some m) : Pt w r b v (m, j) := by
  obtain ⟨a0, a1, a2, a3, a4, a5, a6, a7, a8, a9, a10, a11, a12⟩ := h.cells
  refine ⟨?_, h.frz j, h1, h2, h3⟩
  rcases hj with rfl | rfl | rfl | rfl | rfl | rfl | rfl | rfl | rfl | rfl | rfl
  · exact ⟨_, a0⟩
  · exact ⟨_, a1⟩
  · exact ⟨_, a2⟩
  · exact ⟨_, a3⟩
  · exact ⟨_, a4⟩
  · exact ⟨_, a5⟩
  · exact ⟨_, a6⟩
  · exact ⟨_, a8⟩
  · exact ⟨_, a9⟩
  · exact ⟨_, a10⟩
  · exact ⟨_, a11⟩
theorem IB.pt {w : World} {m : Nat} {x : Int} (h : IB w m x) {r b : Nat} {v : Value} (h1 : m ≠ r) (h2 : m ≠ b) (h3 : v.ownBlock ≠ some m) : Pt w r b v (m, 0) := ⟨⟨x, h.cell⟩, h.frz, h1, h2, h3⟩
/-- Pointers in a block of their own. -/
def ptr (m j : Nat) : Value := .pointer (some ⟨m, j, none⟩)
def PB (w : World) (b : Nat) (l : List (Nat × Nat)) : Prop := ∀ j a, l[j]? = some a → w.cell? ⟨b, 0 + j, none⟩ = some (.pointer (some ⟨a.1, a.2, none⟩))
theorem PB.of {w : World} {b : Nat} {l : List (Nat × Nat)} {t : TypeId} (h : w.heap[b]? = some (.cells (l.map fun a => Value.pointer (some ⟨a.1, a.2, none⟩)).toArray t (0, 0))) : PB w b l := by
  intro j a ha
  simp [World.cell?, h, ha]

theorem get8 (r : Nat) (v : Value) (L : List Int) (m c b : Nat) (cap : Nat) (k o lf i p ps g : Int) (s : Bool) (st rs rr sq : Int) (bv : Value) (x : Int) (w : World) (h : Rd w r v L) (hm : MB w m k o lf i p ps g s st rs rr sq bv) (hc : IB w c x) (hb : PB w b [(m, 0), (m, 1), (m, 2), (m, 3), (m, 4), (m, 5), (m, 6), (c, 0)])
    (n1 : m ≠ r) (n2 : c ≠ r) (n3 : b ≠ r) (n4 : m ≠ b) (n5 : c ≠ b) (n6 : m ≠ c) (n7 : v.ownBlock ≠ some m) (n8 : v.ownBlock ≠ some c) :
    Calls Tryz.prog 97 #[.pointer (some ⟨r, 0, none⟩), .slice (some ⟨b, 0, none⟩) 8 cap] w fun e w' => e = .returned (.int .i64 (rde 8 L)) ∧
      ∃ v', Rd w' r v' (rdr 8 L) ∧ Mod (fun k => k = r ∨ k = m ∨ k = c) w w' ∧ (∀ g, v'.ownBlock = some g → v.ownBlock = some g) ∧ MX w' m s bv ∧
        (rde 8 L = 0 → MB w' m ((rdv 8 L).getD 0 0) ((rdv 8 L).getD 1 0) ((rdv 8 L).getD 2 0) ((rdv 8 L).getD 3 0) ((rdv 8 L).getD 4 0) ((rdv 8 L).getD 5 0) ((rdv 8 L).getD 6 0) s st rs rr sq bv ∧ IB w' c ((rdv 8 L).getD 7 0)) := by
  have hp : ∀ a ∈ [(m, 0), (m, 1), (m, 2), (m, 3), (m, 4), (m, 5), (m, 6), (c, 0)], Pt w r b v a := by
    intro a ha
    simp only [List.mem_cons, List.not_mem_nil, or_false] at ha
    rcases ha with rfl | rfl | rfl | rfl | rfl | rfl | rfl | rfl
    · exact hm.pt (.inl rfl) n1 n4 n7
    · exact hm.pt (by simp [Ix]) n1 n4 n7
    · exact hm.pt (by simp [Ix]) n1 n4 n7
    · exact hm.pt (by simp [Ix]) n1 n4 n7
    · exact hm.pt (by simp [Ix]) n1 n4 n7
    · exact hm.pt (by simp [Ix]) n1 n4 n7
    · exact hm.pt (by simp [Ix]) n1 n4 n7
    · exact hc.pt n2 n5 n8
  refine (get_all r v L [(m, 0), (m, 1), (m, 2), (m, 3), (m, 4), (m, 5), (m, 6), (c, 0)] b 0 cap w h hp n3 hb (by simp)).mono ?_
  rintro e w' ⟨rfl, v', hr, hM, ho⟩
  have hS := sets_mod ([(m, 0), (m, 1), (m, 2), (m, 3), (m, 4), (m, 5), (m, 6), (c, 0)].zip (rdv 8 L)) w
  refine ⟨rfl, v', hr, ?_, ho, ?_, ?_⟩
  · refine hS.trans hM ?_ (fun _ _ h => .inl h)
    rintro i _ ⟨y, hy, rfl⟩
    have := zip_blk hy
    simp only [List.mem_cons, List.not_mem_nil, or_false] at this
    rcases this with e | e | e | e | e | e | e | e <;> simp [e]
  · refine MX.mod (MX.sets _ ⟨_, _, _, _, _, _, _, _, _, _, _, hm⟩ ?_) hM n1
    intro y hy _
    have := zip_blk hy
    simp only [List.mem_cons, List.not_mem_nil, or_false] at this
    rcases this with e | e | e | e | e | e | e | e <;> simp [e, Ix]
  · intro h0
    have hl := rdv_len 8 L h0
    have e := list8 _ hl
    have hM' : Mod (fun k => k = r) (sets w ([(m, 0), (m, 1), (m, 2), (m, 3), (m, 4), (m, 5), (m, 6), (c, 0)].zip (rdv 8 L))) w' := hM
    rw [e] at hM'
    have hm' : MB (sets w ([(m, 0), (m, 1), (m, 2), (m, 3), (m, 4), (m, 5), (m, 6), (c, 0)].zip [(rdv 8 L).getD 0 0, (rdv 8 L).getD 1 0, (rdv 8 L).getD 2 0, (rdv 8 L).getD 3 0, (rdv 8 L).getD 4 0, (rdv 8 L).getD 5 0, (rdv 8 L).getD 6 0, (rdv 8 L).getD 7 0])) m ((rdv 8 L).getD 0 0) ((rdv 8 L).getD 1 0) ((rdv 8 L).getD 2 0) ((rdv 8 L).getD 3 0) ((rdv 8 L).getD 4 0) ((rdv 8 L).getD 5 0) ((rdv 8 L).getD 6 0) s st rs rr sq bv :=
      (((((((hm.i0 _).i1 _).i2 _).i3 _).i4 _).i5 _).i6 _).other ⟨c, 0, none⟩ _ (fun e => n6 e.symm)
    have hc' : IB (sets w ([(m, 0), (m, 1), (m, 2), (m, 3), (m, 4), (m, 5), (m, 6), (c, 0)].zip [(rdv 8 L).getD 0 0, (rdv 8 L).getD 1 0, (rdv 8 L).getD 2 0, (rdv 8 L).getD 3 0, (rdv 8 L).getD 4 0, (rdv 8 L).getD 5 0, (rdv 8 L).getD 6 0, (rdv 8 L).getD 7 0])) c ((rdv 8 L).getD 7 0) :=
      IB.set (((((((hc.other ⟨m, 0, none⟩ _ n6).other ⟨m, 1, none⟩ _ n6).other ⟨m, 2, none⟩ _ n6).other ⟨m, 3, none⟩ _ n6).other ⟨m, 4, none⟩ _ n6).other ⟨m, 5, none⟩ _ n6).other ⟨m, 6, none⟩ _ n6) _
    exact ⟨hm'.mod hM' n1, hc'.mod hM' n2⟩
theorem get4 (r : Nat) (v : Value) (L : List Int) (m b : Nat) (cap : Nat) (k o lf i p ps g : Int) (s : Bool) (st rs rr sq : Int) (bv : Value) (w : World) (h : Rd w r v L) (hm : MB w m k o lf i p ps g s st rs rr sq bv) (hb : PB w b [(m, 8), (m, 9), (m, 10), (m, 11)])
    (n1 : m ≠ r) (n3 : b ≠ r) (n4 : m ≠ b) (n7 : v.ownBlock ≠ some m) :
    Calls Tryz.prog 97 #[.pointer (some ⟨r, 0, none⟩), .slice (some ⟨b, 0, none⟩) 4 cap] w fun e w' => e = .returned (.int .i64 (rde 4 L)) ∧
      ∃ v', Rd w' r v' (rdr 4 L) ∧ Mod (fun k => k = r ∨ k = m) w w' ∧ (∀ g, v'.ownBlock = some g → v.ownBlock = some g) ∧ MX w' m s bv ∧
        (rde 4 L = 0 → MB w' m k o lf i p ps g s ((rdv 4 L).getD 0 0) ((rdv 4 L).getD 1 0) ((rdv 4 L).getD 2 0) ((rdv 4 L).getD 3 0) bv) := by
  have hp : ∀ a ∈ [(m, 8), (m, 9), (m, 10), (m, 11)], Pt w r b v a := by
    intro a ha
    simp only [List.mem_cons, List.not_mem_nil, or_false] at ha
    rcases ha with rfl | rfl | rfl | rfl <;> exact hm.pt (by simp [Ix]) n1 n4 n7
  refine (get_all r v L [(m, 8), (m, 9), (m, 10), (m, 11)] b 0 cap w h hp n3 hb (by simp)).mono ?_
  rintro e w' ⟨rfl, v', hr, hM, ho⟩
  have hS := sets_mod ([(m, 8), (m, 9), (m, 10), (m, 11)].zip (rdv 4 L)) w
  refine ⟨rfl, v', hr, ?_, ho, ?_, ?_⟩
  · refine hS.trans hM ?_ (fun _ _ h => .inl h)
    rintro i _ ⟨y, hy, rfl⟩
    have := zip_blk hy
    simp only [List.mem_cons, List.not_mem_nil, or_false] at this
    rcases this with e | e | e | e <;> simp [e]
  · refine MX.mod (MX.sets _ ⟨_, _, _, _, _, _, _, _, _, _, _, hm⟩ ?_) hM n1
    intro y hy _
    have := zip_blk hy
    simp only [List.mem_cons, List.not_mem_nil, or_false] at this
    rcases this with e | e | e | e <;> simp [e, Ix]
  · intro h0
    have hl := rdv_len 4 L h0
    have e := list4 _ hl
    have hM' : Mod (fun k => k = r) (sets w ([(m, 8), (m, 9), (m, 10), (m, 11)].zip (rdv 4 L))) w' := hM
    rw [e] at hM'
    have hm' : MB (sets w ([(m, 8), (m, 9), (m, 10), (m, 11)].zip [(rdv 4 L).getD 0 0, (rdv 4 L).getD 1 0, (rdv 4 L).getD 2 0, (rdv 4 L).getD 3 0])) m k o lf i p ps g s ((rdv 4 L).getD 0 0) ((rdv 4 L).getD 1 0) ((rdv 4 L).getD 2 0) ((rdv 4 L).getD 3 0) bv :=
      ((((hm.i8 _).i9 _).i10 _).i11 _)
    exact hm'.mod hM' n1
theorem get1 (r : Nat) (v : Value) (L : List Int) (c b : Nat) (cap : Nat) (x : Int) (w : World) (h : Rd w r v L) (hc : IB w c x) (hb : PB w b [(c, 0)])
    (n2 : c ≠ r) (n3 : b ≠ r) (n5 : c ≠ b) (n8 : v.ownBlock ≠ some c) :
    Calls Tryz.prog 97 #[.pointer (some ⟨r, 0, none⟩), .slice (some ⟨b, 0, none⟩) 1 cap] w fun e w' => e = .returned (.int .i64 (rde 1 L)) ∧
      ∃ v', Rd w' r v' (rdr 1 L) ∧ Mod (fun k => k = r ∨ k = c) w w' ∧ (∀ g, v'.ownBlock = some g → v.ownBlock = some g) ∧ (rde 1 L = 0 → IB w' c ((rdv 1 L).getD 0 0)) := by
  have hp : ∀ a ∈ [(c, 0)], Pt w r b v a := by
    intro a ha
    simp only [List.mem_cons, List.not_mem_nil, or_false] at ha
    subst ha
    exact hc.pt n2 n5 n8
  refine (get_all r v L [(c, 0)] b 0 cap w h hp n3 hb (by simp)).mono ?_
  rintro e w' ⟨rfl, v', hr, hM, ho⟩
  have hS := sets_mod ([(c, 0)].zip (rdv 1 L)) w
  refine ⟨rfl, v', hr, ?_, ho, ?_⟩
  · refine hS.trans hM ?_ (fun _ _ h => .inl h)
    rintro i _ ⟨y, hy, rfl⟩
    have := zip_blk hy
    simp only [List.mem_cons, List.not_mem_nil, or_false] at this
    simp [this]
  · intro h0
    have hl := rdv_len 1 L h0
    have e := list1 _ hl
    have hM' : Mod (fun k => k = r) (sets w ([(c, 0)].zip (rdv 1 L))) w' := hM
    rw [e] at hM'
    exact IB.mod (IB.set hc _) hM' n2

/-- A message stored whole. -/
def stm (w : World) (b : Nat) (k o lf i p ps g : Int) (s : Bool) (st rs rr sq : Int) (bv : Value) : World := (((((((((((((w.setCell ⟨b, 0, none⟩ (.int .i64 k)).setCell ⟨b, 1, none⟩ (.int .i64 o)).setCell ⟨b, 2, none⟩ (.int .i64 lf)).setCell ⟨b, 3, none⟩ (.int .i64 i)).setCell ⟨b, 4, none⟩ (.int .i64 p)).setCell ⟨b, 5, none⟩ (.int .i64 ps)).setCell ⟨b, 6, none⟩ (.int .i64 g)).setCell ⟨b, 7, none⟩ (.bool s)).setCell ⟨b, 8, none⟩ (.int .i64 st)).setCell ⟨b, 9, none⟩ (.int .i64 rs)).setCell ⟨b, 10, none⟩ (.int .i64 rr)).setCell ⟨b, 11, none⟩ (.int .i64 sq)).setCell ⟨b, 12, none⟩ bv)
theorem stm_mb {w : World} {b : Nat} {k0 o0 lf0 i0 p0 ps0 g0 : Int} {s0 : Bool} {st0 rs0 rr0 sq0 : Int} {bv0 : Value} (h : MB w b k0 o0 lf0 i0 p0 ps0 g0 s0 st0 rs0 rr0 sq0 bv0) (k o lf i p ps g : Int) (s : Bool) (st rs rr sq : Int) (bv : Value) : MB (stm w b k o lf i p ps g s st rs rr sq bv) b k o lf i p ps g s st rs rr sq bv := (((((((((((((h.i0 k).i1 o).i2 lf).i3 i).i4 p).i5 ps).i6 g).b7 s).i8 st).i9 rs).i10 rr).i11 sq).v12 bv)
theorem stm_mod (w : World) (b : Nat) (k o lf i p ps g : Int) (s : Bool) (st rs rr sq : Int) (bv : Value) : Mod (fun x => x = b) w (stm w b k o lf i p ps g s st rs rr sq bv) := ((((((((((((((Mod.refl (fun x => x = b) w).setCell ⟨b, 0, none⟩ (.int .i64 k) (.inl rfl)).setCell ⟨b, 1, none⟩ (.int .i64 o) (.inl rfl)).setCell ⟨b, 2, none⟩ (.int .i64 lf) (.inl rfl)).setCell ⟨b, 3, none⟩ (.int .i64 i) (.inl rfl)).setCell ⟨b, 4, none⟩ (.int .i64 p) (.inl rfl)).setCell ⟨b, 5, none⟩ (.int .i64 ps) (.inl rfl)).setCell ⟨b, 6, none⟩ (.int .i64 g) (.inl rfl)).setCell ⟨b, 7, none⟩ (.bool s) (.inl rfl)).setCell ⟨b, 8, none⟩ (.int .i64 st) (.inl rfl)).setCell ⟨b, 9, none⟩ (.int .i64 rs) (.inl rfl)).setCell ⟨b, 10, none⟩ (.int .i64 rr) (.inl rfl)).setCell ⟨b, 11, none⟩ (.int .i64 sq) (.inl rfl)).setCell ⟨b, 12, none⟩ bv (.inl rfl))

end Go.Proofs.YthiijonmnebjgaaGreat
