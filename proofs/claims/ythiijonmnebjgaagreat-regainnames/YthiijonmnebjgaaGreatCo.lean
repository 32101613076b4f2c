/- Contracts of parcel's Old and Inner. Conditions: sizes that a slice of bytes has. -/
import Derived.Test.YthiijonmnebjgaaGreatCw
namespace Go.Proofs.YthiijonmnebjgaaGreat
open Go.RowKit
/-- Data in the block b. -/
def DB (w : World) (b : Nat) (dq dr ds dn dt : Int) (k o lf i p ps g : Int) (s : Bool) (st rs rr sq : Int) (bv : Value) : Prop := w.heap[b]? = some (.cells #[.int .i64 dq, .int .i64 dr, .int .i64 ds, .int .i64 dn, .int .i64 dt, .int .i64 k, .int .i64 o, .int .i64 lf, .int .i64 i, .int .i64 p, .int .i64 ps, .int .i64 g, .bool s, .int .i64 st, .int .i64 rs, .int .i64 rr, .int .i64 sq, bv] 45 (0, 0))
set_option maxRecDepth 100000 in
theorem DB.cells {w : World} {b : Nat} {dq dr ds dn dt k o lf i p ps g : Int} {s : Bool} {st rs rr sq : Int} {bv : Value} (h : DB w b dq dr ds dn dt k o lf i p ps g s st rs rr sq bv) : w.cell? ⟨b, 0, none⟩ = some (.int .i64 dq) ∧ w.cell? ⟨b, 1, none⟩ = some (.int .i64 dr) ∧ w.cell? ⟨b, 2, none⟩ = some (.int .i64 ds) ∧ w.cell? ⟨b, 3, none⟩ = some (.int .i64 dn) ∧ w.cell? ⟨b, 4, none⟩ = some (.int .i64 dt) ∧ w.cell? ⟨b, 5, none⟩ = some (.int .i64 k) ∧ w.cell? ⟨b, 6, none⟩ = some (.int .i64 o) ∧ w.cell? ⟨b, 7, none⟩ = some (.int .i64 lf) ∧ w.cell? ⟨b, 8, none⟩ = some (.int .i64 i) ∧ w.cell? ⟨b, 9, none⟩ = some (.int .i64 p) ∧ w.cell? ⟨b, 10, none⟩ = some (.int .i64 ps) ∧ w.cell? ⟨b, 11, none⟩ = some (.int .i64 g) ∧ w.cell? ⟨b, 12, none⟩ = some (.bool s) ∧ w.cell? ⟨b, 13, none⟩ = some (.int .i64 st) ∧ w.cell? ⟨b, 14, none⟩ = some (.int .i64 rs) ∧ w.cell? ⟨b, 15, none⟩ = some (.int .i64 rr) ∧ w.cell? ⟨b, 16, none⟩ = some (.int .i64 sq) ∧ w.cell? ⟨b, 17, none⟩ = some (bv) := by
  unfold DB at h
  simp [World.cell?, h]
theorem DB.frz {w : World} {b : Nat} {dq dr ds dn dt k o lf i p ps g : Int} {s : Bool} {st rs rr sq : Int} {bv : Value} (h : DB w b dq dr ds dn dt k o lf i p ps g s st rs rr sq bv) (j : Nat) : w.frozen? ⟨b, j, none⟩ = false := by
  unfold DB at h
  simp [World.frozen?, h]
theorem DB.new (w : World) (dq dr ds dn dt : Int) (k o lf i p ps g : Int) (s : Bool) (st rs rr sq : Int) (bv : Value) : DB (w.alloc (.cells #[.int .i64 dq, .int .i64 dr, .int .i64 ds, .int .i64 dn, .int .i64 dt, .int .i64 k, .int .i64 o, .int .i64 lf, .int .i64 i, .int .i64 p, .int .i64 ps, .int .i64 g, .bool s, .int .i64 st, .int .i64 rs, .int .i64 rr, .int .i64 sq, bv] 45)) w.heap.size dq dr ds dn dt k o lf i p ps g s st rs rr sq bv := heap_alloc_new w _
theorem DB.mod {S : Nat → Prop} {w' : World} {w : World} {b : Nat} {dq dr ds dn dt k o lf i p ps g : Int} {s : Bool} {st rs rr sq : Int} {bv : Value} (h : DB w b dq dr ds dn dt k o lf i p ps g s st rs rr sq bv) (hm : Mod S w w') (hb : ¬ S b) : DB w' b dq dr ds dn dt k o lf i p ps g s st rs rr sq bv := hm.obj h hb
theorem DB.i0 {w : World} {b : Nat} {dq dr ds dn dt k o lf i p ps g : Int} {s : Bool} {st rs rr sq : Int} {bv : Value} (h : DB w b dq dr ds dn dt k o lf i p ps g s st rs rr sq bv) (x : Int) : DB (w.setCell ⟨b, 0, none⟩ (.int .i64 x)) b x dr ds dn dt k o lf i p ps g s st rs rr sq bv := by
  unfold DB at *
  simp [World.setCell, Array.getElem?_modify, h]
theorem DB.i1 {w : World} {b : Nat} {dq dr ds dn dt k o lf i p ps g : Int} {s : Bool} {st rs rr sq : Int} {bv : Value} (h : DB w b dq dr ds dn dt k o lf i p ps g s st rs rr sq bv) (x : Int) : DB (w.setCell ⟨b, 1, none⟩ (.int .i64 x)) b dq x ds dn dt k o lf i p ps g s st rs rr sq bv := by
  unfold DB at *
  simp [World.setCell, Array.getElem?_modify, h]
theorem DB.i2 {w : World} {b : Nat} {dq dr ds dn dt k o lf i p ps g : Int} {s : Bool} {st rs rr sq : Int} {bv : Value} (h : DB w b dq dr ds dn dt k o lf i p ps g s st rs rr sq bv) (x : Int) : DB (w.setCell ⟨b, 2, none⟩ (.int .i64 x)) b dq dr x dn dt k o lf i p ps g s st rs rr sq bv := by
  unfold DB at *
  simp [World.setCell, Array.getElem?_modify, h]
theorem DB.i3 {w : World} {b : Nat} {dq dr ds dn dt k o lf i p ps g : Int} {s : Bool} {st rs rr sq : Int} {bv : Value} (h : DB w b dq dr ds dn dt k o lf i p ps g s st rs rr sq bv) (x : Int) : DB (w.setCell ⟨b, 3, none⟩ (.int .i64 x)) b dq dr ds x dt k o lf i p ps g s st rs rr sq bv := by
  unfold DB at *
  simp [World.setCell, Array.getElem?_modify, h]
theorem DB.i4 {w : World} {b : Nat} {dq dr ds dn dt k o lf i p ps g : Int} {s : Bool} {st rs rr sq : Int} {bv : Value} (h : DB w b dq dr ds dn dt k o lf i p ps g s st rs rr sq bv) (x : Int) : DB (w.setCell ⟨b, 4, none⟩ (.int .i64 x)) b dq dr ds dn x k o lf i p ps g s st rs rr sq bv := by
  unfold DB at *
  simp [World.setCell, Array.getElem?_modify, h]
theorem DB.i5 {w : World} {b : Nat} {dq dr ds dn dt k o lf i p ps g : Int} {s : Bool} {st rs rr sq : Int} {bv : Value} (h : DB w b dq dr ds dn dt k o lf i p ps g s st rs rr sq bv) (x : Int) : DB (w.setCell ⟨b, 5, none⟩ (.int .i64 x)) b dq dr ds dn dt x o lf i p ps g s st rs rr sq bv := by
  unfold DB at *
  simp [World.setCell, Array.getElem?_modify, h]
theorem DB.i6 {w : World} {b : Nat} {dq dr ds dn dt k o lf i p ps g : Int} {s : Bool} {st rs rr sq : Int} {bv : Value} (h : DB w b dq dr ds dn dt k o lf i p ps g s st rs rr sq bv) (x : Int) : DB (w.setCell ⟨b, 6, none⟩ (.int .i64 x)) b dq dr ds dn dt k x lf i p ps g s st rs rr sq bv := by
  unfold DB at *
  simp [World.setCell, Array.getElem?_modify, h]
theorem DB.i7 {w : World} {b : Nat} {dq dr ds dn dt k o lf i p ps g : Int} {s : Bool} {st rs rr sq : Int} {bv : Value} (h : DB w b dq dr ds dn dt k o lf i p ps g s st rs rr sq bv) (x : Int) : DB (w.setCell ⟨b, 7, none⟩ (.int .i64 x)) b dq dr ds dn dt k o x i p ps g s st rs rr sq bv := by
  unfold DB at *
  simp [World.setCell, Array.getElem?_modify, h]
theorem DB.i8 {w : World} {b : Nat} {dq dr ds dn dt k o lf i p ps g : Int} {s : Bool} {st rs rr sq : Int} {bv : Value} (h : DB w b dq dr ds dn dt k o lf i p ps g s st rs rr sq bv) (x : Int) : DB (w.setCell ⟨b, 8, none⟩ (.int .i64 x)) b dq dr ds dn dt k o lf x p ps g s st rs rr sq bv := by
  unfold DB at *
  simp [World.setCell, Array.getElem?_modify, h]
theorem DB.i9 {w : World} {b : Nat} {dq dr ds dn dt k o lf i p ps g : Int} {s : Bool} {st rs rr sq : Int} {bv : Value} (h : DB w b dq dr ds dn dt k o lf i p ps g s st rs rr sq bv) (x : Int) : DB (w.setCell ⟨b, 9, none⟩ (.int .i64 x)) b dq dr ds dn dt k o lf i x ps g s st rs rr sq bv := by
  unfold DB at *
  simp [World.setCell, Array.getElem?_modify, h]
theorem DB.i10 {w : World} {b : Nat} {dq dr ds dn dt k o lf i p ps g : Int} {s : Bool} {st rs rr sq : Int} {bv : Value} (h : DB w b dq dr ds dn dt k o lf i p ps g s st rs rr sq bv) (x : Int) : DB (w.setCell ⟨b, 10, none⟩ (.int .i64 x)) b dq dr ds dn dt k o lf i p x g s st rs rr sq bv := by
  unfold DB at *
  simp [World.setCell, Array.getElem?_modify, h]
theorem DB.i11 {w : World} {b : Nat} {dq dr ds dn dt k o lf i p ps g : Int} {s : Bool} {st rs rr sq : Int} {bv : Value} (h : DB w b dq dr ds dn dt k o lf i p ps g s st rs rr sq bv) (x : Int) : DB (w.setCell ⟨b, 11, none⟩ (.int .i64 x)) b dq dr ds dn dt k o lf i p ps x s st rs rr sq bv := by
  unfold DB at *
  simp [World.setCell, Array.getElem?_modify, h]
theorem DB.i12 {w : World} {b : Nat} {dq dr ds dn dt k o lf i p ps g : Int} {s : Bool} {st rs rr sq : Int} {bv : Value} (h : DB w b dq dr ds dn dt k o lf i p ps g s st rs rr sq bv) (x : Bool) : DB (w.setCell ⟨b, 12, none⟩ (.bool x)) b dq dr ds dn dt k o lf i p ps g x st rs rr sq bv := by
  unfold DB at *
  simp [World.setCell, Array.getElem?_modify, h]
theorem DB.i13 {w : World} {b : Nat} {dq dr ds dn dt k o lf i p ps g : Int} {s : Bool} {st rs rr sq : Int} {bv : Value} (h : DB w b dq dr ds dn dt k o lf i p ps g s st rs rr sq bv) (x : Int) : DB (w.setCell ⟨b, 13, none⟩ (.int .i64 x)) b dq dr ds dn dt k o lf i p ps g s x rs rr sq bv := by
  unfold DB at *
  simp [World.setCell, Array.getElem?_modify, h]
theorem DB.i14 {w : World} {b : Nat} {dq dr ds dn dt k o lf i p ps g : Int} {s : Bool} {st rs rr sq : Int} {bv : Value} (h : DB w b dq dr ds dn dt k o lf i p ps g s st rs rr sq bv) (x : Int) : DB (w.setCell ⟨b, 14, none⟩ (.int .i64 x)) b dq dr ds dn dt k o lf i p ps g s st x rr sq bv := by
  unfold DB at *
  simp [World.setCell, Array.getElem?_modify, h]
theorem DB.i15 {w : World} {b : Nat} {dq dr ds dn dt k o lf i p ps g : Int} {s : Bool} {st rs rr sq : Int} {bv : Value} (h : DB w b dq dr ds dn dt k o lf i p ps g s st rs rr sq bv) (x : Int) : DB (w.setCell ⟨b, 15, none⟩ (.int .i64 x)) b dq dr ds dn dt k o lf i p ps g s st rs x sq bv := by
  unfold DB at *
  simp [World.setCell, Array.getElem?_modify, h]
theorem DB.i16 {w : World} {b : Nat} {dq dr ds dn dt k o lf i p ps g : Int} {s : Bool} {st rs rr sq : Int} {bv : Value} (h : DB w b dq dr ds dn dt k o lf i p ps g s st rs rr sq bv) (x : Int) : DB (w.setCell ⟨b, 16, none⟩ (.int .i64 x)) b dq dr ds dn dt k o lf i p ps g s st rs rr x bv := by
  unfold DB at *
  simp [World.setCell, Array.getElem?_modify, h]
theorem DB.i17 {w : World} {b : Nat} {dq dr ds dn dt k o lf i p ps g : Int} {s : Bool} {st rs rr sq : Int} {bv : Value} (h : DB w b dq dr ds dn dt k o lf i p ps g s st rs rr sq bv) (x : Value) : DB (w.setCell ⟨b, 17, none⟩ x) b dq dr ds dn dt k o lf i p ps g s st rs rr sq x := by
  unfold DB at *
  simp [World.setCell, Array.getElem?_modify, h]
/-- Data stored whole. -/
def std (w : World) (b : Nat) (dq dr ds dn dt : Int) (k o lf i p ps g : Int) (s : Bool) (st rs rr sq : Int) (bv : Value) : World := ((((((((((((((((((w.setCell ⟨b, 0, none⟩ (.int .i64 dq)).setCell ⟨b, 1, none⟩ (.int .i64 dr)).setCell ⟨b, 2, none⟩ (.int .i64 ds)).setCell ⟨b, 3, none⟩ (.int .i64 dn)).setCell ⟨b, 4, none⟩ (.int .i64 dt)).setCell ⟨b, 5, none⟩ (.int .i64 k)).setCell ⟨b, 6, none⟩ (.int .i64 o)).setCell ⟨b, 7, none⟩ (.int .i64 lf)).setCell ⟨b, 8, none⟩ (.int .i64 i)).setCell ⟨b, 9, none⟩ (.int .i64 p)).setCell ⟨b, 10, none⟩ (.int .i64 ps)).setCell ⟨b, 11, none⟩ (.int .i64 g)).setCell ⟨b, 12, none⟩ (.bool s)).setCell ⟨b, 13, none⟩ (.int .i64 st)).setCell ⟨b, 14, none⟩ (.int .i64 rs)).setCell ⟨b, 15, none⟩ (.int .i64 rr)).setCell ⟨b, 16, none⟩ (.int .i64 sq)).setCell ⟨b, 17, none⟩ bv)
theorem std_db {w : World} {b : Nat} {dq0 dr0 ds0 dn0 dt0 k0 o0 lf0 i0 p0 ps0 g0 : Int} {s0 : Bool} {st0 rs0 rr0 sq0 : Int} {bv0 : Value} (h : DB w b dq0 dr0 ds0 dn0 dt0 k0 o0 lf0 i0 p0 ps0 g0 s0 st0 rs0 rr0 sq0 bv0) (dq dr ds dn dt : Int) (k o lf i p ps g : Int) (s : Bool) (st rs rr sq : Int) (bv : Value) : DB (std w b dq dr ds dn dt k o lf i p ps g s st rs rr sq bv) b dq dr ds dn dt k o lf i p ps g s st rs rr sq bv := ((((((((((((((((((h.i0 dq).i1 dr).i2 ds).i3 dn).i4 dt).i5 k).i6 o).i7 lf).i8 i).i9 p).i10 ps).i11 g).i12 s).i13 st).i14 rs).i15 rr).i16 sq).i17 bv)
theorem std_mod (w : World) (b : Nat) (dq dr ds dn dt : Int) (k o lf i p ps g : Int) (s : Bool) (st rs rr sq : Int) (bv : Value) : Mod (fun x => x = b) w (std w b dq dr ds dn dt k o lf i p ps g s st rs rr sq bv) := (((((((((((((((((((Mod.refl (fun x => x = b) w).setCell ⟨b, 0, none⟩ (.int .i64 dq) (.inl rfl)).setCell ⟨b, 1, none⟩ (.int .i64 dr) (.inl rfl)).setCell ⟨b, 2, none⟩ (.int .i64 ds) (.inl rfl)).setCell ⟨b, 3, none⟩ (.int .i64 dn) (.inl rfl)).setCell ⟨b, 4, none⟩ (.int .i64 dt) (.inl rfl)).setCell ⟨b, 5, none⟩ (.int .i64 k) (.inl rfl)).setCell ⟨b, 6, none⟩ (.int .i64 o) (.inl rfl)).setCell ⟨b, 7, none⟩ (.int .i64 lf) (.inl rfl)).setCell ⟨b, 8, none⟩ (.int .i64 i) (.inl rfl)).setCell ⟨b, 9, none⟩ (.int .i64 p) (.inl rfl)).setCell ⟨b, 10, none⟩ (.int .i64 ps) (.inl rfl)).setCell ⟨b, 11, none⟩ (.int .i64 g) (.inl rfl)).setCell ⟨b, 12, none⟩ (.bool s) (.inl rfl)).setCell ⟨b, 13, none⟩ (.int .i64 st) (.inl rfl)).setCell ⟨b, 14, none⟩ (.int .i64 rs) (.inl rfl)).setCell ⟨b, 15, none⟩ (.int .i64 rr) (.inl rfl)).setCell ⟨b, 16, none⟩ (.int .i64 sq) (.inl rfl)).setCell ⟨b, 17, none⟩ bv (.inl rfl))
/-- Old's answer: whether there is one. -/
def olE (s q r n sn : Int) (m : Ms) : Int := if chk m = 0 ∧ chk (od5 s q r n sn m) = 0 then 0 else 2
/-- Inner's. -/
def inE (m : Ms) : Int := if m.kind = 5 ∧ chk m = 0 then 0 else 2
theorem old_chk {s q r n sn : Int} {m : Ms} (hr : ∀ c ∈ m.body, 0 ≤ c ∧ c ≤ 255) (hm : chk m = 0) : chk (od5 s q r n sn m) = 0 ↔ (nd sn = true ∧ nm s = true ∧ nm n = true ∧ isr q r = true ∧ 0 < n ∧ m.kind ≠ 5) := by
  obtain ⟨e1, e2⟩ := un_pk0 hm
  have hin : in0 (pk m) = (m.kind != 5) := by rw [in0_eq, e1, e2]; simp
  constructor
  · intro h
    obtain ⟨h1, h2, h3⟩ := chk_parts h
    rw [kd, if_pos (show (od5 s q r n sn m).kind = 5 from rfl), od] at h3
    simp only [od5, Bool.and_eq_true, hin, bne_iff_ne, ne_eq] at h3
    obtain ⟨_, _, _, _, hc⟩ := hn_parts h2
    simp only [od5] at hc
    have hck : nm s = true ∧ nm n = true := by
      unfold ck at hc
      by_cases hh : nm s = true ∧ nm n = true
      · exact hh
      · rw [if_neg hh] at hc; omega
    exact ⟨h3.1.1.1.2, hck.1, hck.2, h3.1.1.2, of_decide_eq_true h3.1.2, h3.2⟩
  · rintro ⟨h1, h2, h3, h4, h5, h6⟩
    refine chk_of (room hr hm h6) ?_ ?_
    · have hi : cr q r = 0 := by
        simp only [isr, Bool.and_eq_true, beq_iff_eq] at h4
        exact h4.2
      have hs : nm sn = true := by
        simp only [nd, nm, decide_eq_true_eq] at h1 ⊢
        omega
      have h0 : nm 0 = true := by decide
      have hc : ck s q r n = 0 := by rw [ck, if_pos ⟨h2, h3⟩, hi]
      simp [hn, od5, h1, hs, h0, hc]
    · rw [kd, if_pos (show (od5 s q r n sn m).kind = 5 from rfl), od]
      simp [od5, pln, h1, h4, h5, hin, h6]

end Go.Proofs.YthiijonmnebjgaaGreat
