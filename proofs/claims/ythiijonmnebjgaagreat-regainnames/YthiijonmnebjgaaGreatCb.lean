/- A message in a block of memory; contracts of parcel's calls on what messages of all kinds, marks and wants have. No conditions; what is answered is said by plain functions. -/
import Derived.Test.YthiijonmnebjgaaGreatCa
namespace Go.Proofs.YthiijonmnebjgaaGreat
open Go.RowKit
/-- A message in the block b. -/
def MB (w : World) (b : Nat) (k o lf i p ps g : Int) (s : Bool) (st rs rr sq : Int) (bv : Value) : Prop := w.heap[b]? = some (.cells #[.int .i64 k, .int .i64 o, .int .i64 lf, .int .i64 i, .int .i64 p, .int .i64 ps, .int .i64 g, .bool s, .int .i64 st, .int .i64 rs, .int .i64 rr, .int .i64 sq, bv] 43 (0, 0))

theorem MB.cells {w : World} {b : Nat} {k o lf i p ps g : Int} {s : Bool} {st rs rr sq : Int} {bv : Value} (h : MB w b k o lf i p ps g s st rs rr sq bv) : w.cell? ⟨b, 0, none⟩ = some (.int .i64 k) ∧ w.cell? ⟨b, 1, none⟩ = some (.int .i64 o) ∧ w.cell? ⟨b, 2, none⟩ = some (.int .i64 lf) ∧ w.cell? ⟨b, 3, none⟩ = some (.int .i64 i) ∧ w.cell? ⟨b, 4, none⟩ = some (.int .i64 p) ∧ w.cell? ⟨b, 5, none⟩ = some (.int .i64 ps) ∧ w.cell? ⟨b, 6, none⟩ = some (.int .i64 g) ∧ w.cell? ⟨b, 7, none⟩ = some (.bool s) ∧ w.cell? ⟨b, 8, none⟩ = some (.int .i64 st) ∧ w.cell? ⟨b, 9, none⟩ = some (.int .i64 rs) ∧ w.cell? ⟨b, 10, none⟩ = some (.int .i64 rr) ∧ w.cell? ⟨b, 11, none⟩ = some (.int .i64 sq) ∧ w.cell? ⟨b, 12, none⟩ = some (bv) := by
  unfold MB at h
  simp [World.cell?, h]
theorem MB.frz {w : World} {b : Nat} {k o lf i p ps g : Int} {s : Bool} {st rs rr sq : Int} {bv : Value} (h : MB w b k o lf i p ps g s st rs rr sq bv) (j : Nat) : w.frozen? ⟨b, j, none⟩ = false := by
  unfold MB at h
  simp [World.frozen?, h]
theorem MB.new (w : World) (k o lf i p ps g : Int) (s : Bool) (st rs rr sq : Int) (bv : Value) : MB (w.alloc (.cells #[.int .i64 k, .int .i64 o, .int .i64 lf, .int .i64 i, .int .i64 p, .int .i64 ps, .int .i64 g, .bool s, .int .i64 st, .int .i64 rs, .int .i64 rr, .int .i64 sq, bv] 43)) w.heap.size k o lf i p ps g s st rs rr sq bv := heap_alloc_new w _
theorem MB.mod {S : Nat → Prop} {w w' : World} {b : Nat} {k o lf i p ps g : Int} {s : Bool} {st rs rr sq : Int} {bv : Value} (h : MB w b k o lf i p ps g s st rs rr sq bv) (hm : Mod S w w') (hb : ¬ S b) : MB w' b k o lf i p ps g s st rs rr sq bv := hm.obj h hb
theorem eqKey (s q r n s' q' r' n' : Int) (w : World) : (Op.equalIn 10000 40 (.agg #[.int .i64 s, .int .i64 q, .int .i64 r, .int .i64 n]) (.agg #[.int .i64 s', .int .i64 q', .int .i64 r', .int .i64 n'])).run Tryz.prog w = .ok (decide (s = s') && (decide (q = q') && (decide (r = r') && decide (n = n')))) w := by
  by_cases h1 : s = s' <;> by_cases h2 : q = q' <;> by_cases h3 : r = r' <;> by_cases h4 : n = n' <;> simp [go_sem, h1, h2, h3, h4]
theorem eqRing (q r q' r' : Int) (w : World) : (Op.equalIn 10000 38 (.agg #[.int .i64 q, .int .i64 r]) (.agg #[.int .i64 q', .int .i64 r'])).run Tryz.prog w = .ok (decide (q = q') && decide (r = r')) w := by
  by_cases h2 : q = q' <;> by_cases h3 : r = r' <;> simp [go_sem, h2, h3]

theorem isMark (k o lf i p ps g : Int) (s : Bool) (st rs rr sq : Int) (ao : Option Addr) (cap : Nat) (l : List Int) (w : World) : Calls Tryz.prog 88 #[.agg #[.int .i64 k, .int .i64 o, .int .i64 lf, .int .i64 i, .int .i64 p, .int .i64 ps, .int .i64 g, .bool s, .int .i64 st, .int .i64 rs, .int .i64 rr, .int .i64 sq, .slice ao l.length cap]] w fun e w' => e = .returned (.bool (mkk ⟨k, o, lf, i, p, ps, g, s, st, rs, rr, sq, l⟩)) ∧ Mod (fun _ => False) w w' := by
  have H := isClients k o lf i p ps g s st rs rr sq ao cap l
  have hb := MB.new w k o lf i p ps g s st rs rr sq (.slice ao l.length cap)
  unfold mkk
  dsimp only
  cases hc : pln ⟨k, o, lf, i, p, ps, g, s, st, rs, rr, sq, l⟩
  all_goals
    rw [hc] at H
    go_enter Tryz.func88, Tryz.ntmps88
    go_wp2_with (fail)
    refine (H _).mono ?_
    rintro e w1 ⟨rfl, hm⟩
    obtain ⟨a0, a1, a2, a3, a4, a5, a6, a7, a8, a9, a10, a11, a12⟩ := MB.cells (hb.mod hm (fun h => h))
    go_wp2
  all_goals
    go_ret
    refine ⟨?_, ((Mod.refl _ _).alloc _).trans hm (V := fun _ => False) (fun _ _ h => h) (fun _ _ h => h)⟩
    clear H hb hm a0 a1 a2 a3 a4 a5 a6 a7 a8 a9 a10 a11 a12
    cases l <;> simp [*] <;> omega

theorem isWant (k o lf i p ps g : Int) (s : Bool) (st rs rr sq : Int) (ao : Option Addr) (cap : Nat) (l : List Int) (w : World) : Calls Tryz.prog 89 #[.agg #[.int .i64 k, .int .i64 o, .int .i64 lf, .int .i64 i, .int .i64 p, .int .i64 ps, .int .i64 g, .bool s, .int .i64 st, .int .i64 rs, .int .i64 rr, .int .i64 sq, .slice ao l.length cap]] w fun e w' => e = .returned (.bool (wn ⟨k, o, lf, i, p, ps, g, s, st, rs, rr, sq, l⟩)) ∧ Mod (fun _ => False) w w' := by
  have H := isMark k o lf i p ps g s st rs rr sq ao cap l
  have hb := MB.new w k o lf i p ps g s st rs rr sq (.slice ao l.length cap)
  have EK := eqKey st rs rr sq 0 0 0 0
  have hz : ∀ W : World, W.cell? ⟨w.heap.size + 1, 0, none⟩ = W.cell? ⟨w.heap.size + 1, 0, none⟩ := fun _ => rfl
  clear hz
  unfold wn
  cases hc : mkk ⟨k, o, lf, i, p, ps, g, s, st, rs, rr, sq, l⟩
  all_goals
    rw [hc] at H
    go_enter Tryz.func89, Tryz.ntmps89
    go_wp2_with (fail)
    refine (H _).mono ?_
    rintro e w1 ⟨rfl, hm⟩
    have h2 := (hb.mod ((Mod.refl (fun _ => False) _).alloc (.cells #[.int .i64 0, .int .i64 0, .int .i64 0, .int .i64 0] 40)) (fun h => h)).mod hm (fun h => h)
    have hk := hm.obj (heap_alloc_new _ _) (fun h => h)
    have z0 : w1.cell? ⟨w.heap.size + 1, 0, none⟩ = some (.int .i64 0) := by simp at hk; simp [World.cell?, hk]
    have z1 : w1.cell? ⟨w.heap.size + 1, 1, none⟩ = some (.int .i64 0) := by simp at hk; simp [World.cell?, hk]
    have z2 : w1.cell? ⟨w.heap.size + 1, 2, none⟩ = some (.int .i64 0) := by simp at hk; simp [World.cell?, hk]
    have z3 : w1.cell? ⟨w.heap.size + 1, 3, none⟩ = some (.int .i64 0) := by simp at hk; simp [World.cell?, hk]
    obtain ⟨a0, a1, a2, a3, a4, a5, a6, a7, a8, a9, a10, a11, a12⟩ := MB.cells (h2)
    go_wp2
  all_goals
    go_ret
    refine ⟨?_, (((Mod.refl _ _).alloc _).alloc _).trans hm (V := fun _ => False) (fun _ _ h => h) (fun _ _ h => h)⟩
    simp

theorem hasNumbers (k o lf i p ps g : Int) (s : Bool) (st rs rr sq : Int) (ao : Option Addr) (cap : Nat) (l : List Int) (w : World) : Calls Tryz.prog 68 #[.agg #[.int .i64 k, .int .i64 o, .int .i64 lf, .int .i64 i, .int .i64 p, .int .i64 ps, .int .i64 g, .bool s, .int .i64 st, .int .i64 rs, .int .i64 rr, .int .i64 sq, .slice ao l.length cap]] w fun e w' => e = .returned (.bool (hn ⟨k, o, lf, i, p, ps, g, s, st, rs, rr, sq, l⟩)) ∧ Mod (fun _ => False) w w' := by
  have H1 := pNode
  have H2 := pNumber
  have H3 := Check st rs rr sq
  have hb := MB.new w k o lf i p ps g s st rs rr sq (.slice ao l.length cap)
  unfold hn
  dsimp only
  generalize nd = f at H1 ⊢
  generalize nm = f' at H2 ⊢
  generalize ck st rs rr sq = c at H3 ⊢
  have HM : ∀ w1, Mod (fun _ => False) (w.alloc (.cells #[.int .i64 k, .int .i64 o, .int .i64 lf, .int .i64 i, .int .i64 p, .int .i64 ps, .int .i64 g, .bool s, .int .i64 st, .int .i64 rs, .int .i64 rr, .int .i64 sq, .slice ao l.length cap] 43)) w1 → Mod (fun _ => False) w w1 := fun w1 hm => ((Mod.refl _ _).alloc _).trans hm (V := fun _ => False) (fun _ _ h => h) (fun _ _ h => h)
  have HR := HM _ (Mod.refl _ _)
  cases q1 : f o <;> cases q2 : f' lf <;> cases q3 : f' i
  all_goals
    have G1 := H1 o
    have G2 := H2 lf
    have G3 := H2 i
    rw [q1] at G1
    rw [q2] at G2
    rw [q3] at G3
    clear H1 H2
    go_enter Tryz.func68, Tryz.ntmps68
    go_wp2_with (fail)
    refine (G1 _).mono ?_
    rintro e w1 ⟨rfl, rfl⟩
    go_wp2_with (fail)
    try
      refine (G2 _).mono ?_
      rintro e w1 ⟨rfl, rfl⟩
      go_wp2_with (fail)
    try
      refine (G3 _).mono ?_
      rintro e w1 ⟨rfl, rfl⟩
      go_wp2_with (fail)
  all_goals
    try
      refine (H3 _).mono ?_
      rintro e w1 ⟨rfl, hm⟩
      replace HR := HM _ hm
      go_wp2
    go_ret
    exact ⟨by simp [*] <;> omega, HR⟩

end Go.Proofs.YthiijonmnebjgaaGreat
