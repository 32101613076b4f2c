/- The document's lane: what New, node, Copy, Same, Len, has, Put and Double answer, and what they leave. Conditions: bytes of at most 2^47. -/
import Derived.Test.YthmglemjlinlgaaLr
namespace Go.Proofs.Ythmglemjlinlgaa
open Go.RowKit
/-- A lane of the document: what is on its way, its side, its blocks. -/
def Da (w : World) (p : Nat) (L : List Dg) (a : List Bool) (F : Nat → Prop) : Prop := ∃ v R, Dn w p v R a ∧ R.map Prod.fst = L ∧ F = Fl p v R
theorem Da.lt {w : World} {p : Nat} {L : List Dg} {a : List Bool} {F : Nat → Prop} (h : Da w p L a F) {k : Nat} (hk : F k) : k < w.heap.size := by
  obtain ⟨v, R, h, _, rfl⟩ := h
  exact h.lt hk
theorem Da.mod {S : Nat → Prop} {w w' : World} {p : Nat} {L : List Dg} {a : List Bool} {F : Nat → Prop} (h : Da w p L a F) (hm : Mod S w w') (hS : ∀ k, F k → ¬ S k) : Da w' p L a F := by
  obtain ⟨v, R, h, h2, rfl⟩ := h
  exact ⟨v, R, h.mod hm hS, h2, rfl⟩
theorem dNew_any (w : World) : Calls Try.prog 8 #[] w fun e w' => ∃ p F, e = .returned (.pointer (some ⟨p, 0, none⟩)) ∧ Da w' p [] (List.replicate 9 false) F ∧ Mod (fun _ => False) w w' ∧ ∀ k, F k → w.heap.size ≤ k := by
  go_enter Try.func8, Try.ntmps8
  go_wp2
  go_ret
  refine ⟨w.heap.size, _, rfl, ⟨_, [], ⟨heap_alloc_new w _, rfl, Gr.nil _⟩, rfl, rfl⟩, (Mod.refl _ w).alloc _, ?_⟩
  rintro k (rfl | h)
  · exact Nat.le_refl _
  · rcases h with h | ⟨u, hu, _⟩
    · simp [Value.ownBlock] at h
    · simp at hu
theorem dnode (n : Int) (w : World) : Calls Try.prog 32 #[.int .i64 n] w fun e w' => e = .returned (.bool (nd n)) ∧ w' = w := by
  have hk : (nd n = false ∧ n < 1) ∨ (nd n = false ∧ ¬ n < 1 ∧ ¬ n ≤ 8) ∨ (nd n = true ∧ ¬ n < 1 ∧ n ≤ 8) := by
    unfold nd
    simp only [decide_eq_false_iff_not, decide_eq_true_eq]
    omega
  generalize nd n = E at hk
  rcases hk with ⟨rfl, h1⟩ | ⟨rfl, h1, h2⟩ | ⟨rfl, h1, h2⟩
  all_goals
    go_enter Try.func32, Try.ntmps32
    go_wp2
    go_ret
    refine ⟨?_, rfl⟩
    first | rfl | simp [h2]
set_option maxRecDepth 100000 in
set_option maxHeartbeats 1000000 in
theorem Copy_any {d : Dg} {u : Value} {w : World} (hu : Sl w u d.b) (hb : d.b.length ≤ 140737488355328) : Calls Try.prog 12 #[.agg #[.int .i64 d.f, .int .i64 d.t, u]] w fun e w' => ∃ u2, e = .returned (.agg #[.int .i64 d.f, .int .i64 d.t, u2]) ∧ Own w' u2 d.b ∧ Mod (fun _ => False) w w' ∧ (∀ g, u2.ownBlock = some g → w.heap.size ≤ g) := by
  have hm := ((Mod.refl (fun _ => False) w).alloc (.cells #[.int .i64 d.f, .int .i64 d.t, u] 30)).alloc (.cells #[.int .i64 0, .int .i64 0, .slice none 0 0] 30)
  have k1 : ((w.alloc (.cells #[.int .i64 d.f, .int .i64 d.t, u] 30)).alloc (.cells #[.int .i64 0, .int .i64 0, .slice none 0 0] 30)).heap[w.heap.size]? = some (.cells #[.int .i64 d.f, .int .i64 d.t, u] 30 (0, 0)) :=
    ((Mod.refl (fun _ => False) (w.alloc (.cells #[.int .i64 d.f, .int .i64 d.t, u] 30))).alloc _).obj (heap_alloc_new w _) (fun h => h)
  have k2 : ((w.alloc (.cells #[.int .i64 d.f, .int .i64 d.t, u] 30)).alloc (.cells #[.int .i64 0, .int .i64 0, .slice none 0 0] 30)).heap[w.heap.size + 1]? = some (.cells #[.int .i64 0, .int .i64 0, .slice none 0 0] 30 (0, 0)) := by
    have := heap_alloc_new (w.alloc (.cells #[.int .i64 d.f, .int .i64 d.t, u] 30)) (.cells #[.int .i64 0, .int .i64 0, .slice none 0 0] 30)
    simpa using this
  have hs2 : ((w.alloc (.cells #[.int .i64 d.f, .int .i64 d.t, u] 30)).alloc (.cells #[.int .i64 0, .int .i64 0, .slice none 0 0] 30)).heap.size = w.heap.size + 2 := by simp
  obtain ⟨ao, cp, e, _⟩ := hu.form
  subst e
  obtain ⟨f, t, b⟩ := d
  dsimp only at *
  go_enter Try.func12, Try.ntmps12
  go_wp2
  generalize ((w.alloc (.cells #[.int .i64 f, .int .i64 t, .slice ao b.length cp] 30)).alloc (.cells #[.int .i64 0, .int .i64 0, .slice none 0 0] 30)) = W at hm k1 k2 hs2 ⊢
  have hC := copy_any (.slice ao b.length cp) b W.drew (hu.mod hm.drew (fun _ _ h => h)) hb
  have a0 : W.cell? ⟨w.heap.size, 0, none⟩ = some (.int .i64 f) := by simp [World.cell?, k1]
  have a1 : W.cell? ⟨w.heap.size, 1, none⟩ = some (.int .i64 t) := by simp [World.cell?, k1]
  have a2 : W.cell? ⟨w.heap.size, 2, none⟩ = some (.slice ao b.length cp) := by simp [World.cell?, k1]
  have kd2 : W.drew.heap[w.heap.size + 1]? = some (.cells #[.int .i64 0, .int .i64 0, .slice none 0 0] 30 (0, 0)) := k2
  go_region_held3 (fun y => y.cell? ⟨w.heap.size, 0, none⟩ = some (.int .i64 f) ∧ y.cell? ⟨w.heap.size, 1, none⟩ = some (.int .i64 t) ∧ y.cell? ⟨w.heap.size, 2, none⟩ = some (.slice ao b.length cp)) (first | exact ⟨a0, a1, a2⟩ | go_keep) ((go_at_call 27; refine hC.mono ?_; rintro e w2 ⟨u2, rfl, hu2, hm2, hn2⟩; replace a0 : w2.cell? ⟨w.heap.size, 0, none⟩ = some (.int .i64 f) := hm2.cell a0 (fun h => h); replace a1 : w2.cell? ⟨w.heap.size, 1, none⟩ = some (.int .i64 t) := hm2.cell a1 (fun h => h); replace a2 : w2.cell? ⟨w.heap.size, 2, none⟩ = some (.slice ao b.length cp) := hm2.cell a2 (fun h => h); have k3 := hm2.obj kd2 (fun h => h); obtain ⟨ao2, cp2, e2⟩ := hu2.shape; subst e2; have z0 : w2.cell? ⟨w.heap.size + 1, 0, none⟩ = some (.int .i64 0) := by { simp [World.cell?, k3] }; have z1 : w2.cell? ⟨w.heap.size + 1, 1, none⟩ = some (.int .i64 0) := by { simp [World.cell?, k3] }; have z2 : w2.cell? ⟨w.heap.size + 1, 2, none⟩ = some (.slice none 0 0) := by { simp [World.cell?, k3] }; have y0 : w2.frozen? ⟨w.heap.size + 1, 0, none⟩ = false := by { simp [World.frozen?, k3] }; have y1 : w2.frozen? ⟨w.heap.size + 1, 1, none⟩ = false := by { simp [World.frozen?, k3] }; have y2 : w2.frozen? ⟨w.heap.size + 1, 2, none⟩ = false := by { simp [World.frozen?, k3] }))
  all_goals
    have hb3 : (((w2.setCell ⟨w.heap.size + 1, 0, none⟩ (.int .i64 f)).setCell ⟨w.heap.size + 1, 1, none⟩ (.int .i64 t)).setCell ⟨w.heap.size + 1, 2, none⟩ (.slice ao2 b.length cp2)).heap[w.heap.size + 1]? = some (.cells #[.int .i64 f, .int .i64 t, .slice ao2 b.length cp2] 30 (0, 0)) := by simp [World.setCell, Array.getElem?_modify, k3]
    have hmw : Mod (fun _ => False) w w2 := hm.drew.and hm2
    have hm3 : Mod (fun k => k = w.heap.size + 1) w2 (((w2.setCell ⟨w.heap.size + 1, 0, none⟩ (.int .i64 f)).setCell ⟨w.heap.size + 1, 1, none⟩ (.int .i64 t)).setCell ⟨w.heap.size + 1, 2, none⟩ (.slice ao2 b.length cp2)) := (((Mod.refl (fun k => k = w.heap.size + 1) w2).setCell _ _ (.inl rfl)).setCell _ _ (.inl rfl)).setCell _ _ (.inl rfl)
    have hsd : W.drew.heap.size = w.heap.size + 2 := hs2
    have hn3 : ∀ g, (Value.slice ao2 b.length cp2).ownBlock = some g → w.heap.size + 2 ≤ g := fun g hg => by have := hn2 g hg; omega
    have ho3 := hu2.mod hm3 (fun g hg (e : g = w.heap.size + 1) => by have := hn3 g hg; omega)
    go_wp2
    exact bodyPost_ret (res1 rfl rfl hb3) rfl ⟨_, rfl, ho3, hmw.trans hm3 (fun _ _ h => h) (fun k hk (e : k = w.heap.size + 1) => by omega), fun g hg => by have := hn3 g hg; omega⟩
/-- Two datagrams: are they the same? -/
def smD (d e : Dg) : Bool := decide (d.f = e.f) && decide (d.t = e.t) && decide (d.b = e.b)
theorem smD_self (d : Dg) : smD d d = true := by simp [smD]
set_option maxRecDepth 100000 in
set_option maxHeartbeats 1000000 in
theorem Same_self {d : Dg} {u v : Value} {w : World} (hu : Sl w u d.b) (hv : Sl w v d.b) : Calls Try.prog 15 #[.agg #[.int .i64 d.f, .int .i64 d.t, u], .agg #[.int .i64 d.f, .int .i64 d.t, v]] w fun e w' => e = .returned (.bool true) ∧ Mod (fun _ => False) w w' := by
  have hm := ((Mod.refl (fun _ => False) w).alloc (.cells #[.int .i64 d.f, .int .i64 d.t, u] 30)).alloc (.cells #[.int .i64 d.f, .int .i64 d.t, v] 30)
  have hE := EqBytes_at true (hu.mod hm (fun _ _ h => h)) (hv.mod hm (fun _ _ h => h)) (by simp)
  obtain ⟨ao, cp, e, _⟩ := hu.form
  subst e
  obtain ⟨ao', cp', e, _⟩ := hv.form
  subst e
  obtain ⟨f, t, b⟩ := d
  dsimp only at *
  clear hu hv
  go_enter Try.func15, Try.ntmps15
  go_wp2_with (go_at_call 35; refine hE.mono ?_; rintro e w2 ⟨rfl, hm2⟩)
  go_ret
  exact ⟨rfl, hm.and hm2⟩
theorem dLen_any {p : Nat} {L : List Dg} {a : List Bool} {F : Nat → Prop} {w : World} (h : Da w p L a F) : Calls Try.prog 23 #[.pointer (some ⟨p, 0, none⟩)] w fun e w' => e = .returned (.int .i64 (L.length : Int)) ∧ w' = w := by
  obtain ⟨v, R, h, rfl, rfl⟩ := h
  have c0 := h.c0
  obtain ⟨ao, cap, rfl, _⟩ := h.gr.shape
  rw [show (R.map Prod.fst).length = R.length by simp]
  clear h
  generalize R.length = n at c0 ⊢
  go_enter Try.func23, Try.ntmps23
  go_wp2
  go_ret
  exact ⟨rfl, rfl⟩
theorem has_any {p : Nat} {v : Value} {R : List (Dg × Value)} {a : List Bool} {i : Int} {w : World} (h : Dn w p v R a) : Calls Try.prog 34 #[.pointer (some ⟨p, 0, none⟩), .int .i64 i] w fun e w' => e = .returned (.bool (decide (¬ (i < 0 ∨ (R.length : Int) ≤ i)))) ∧ w' = w := by
  have c0 := h.c0
  obtain ⟨ao, cap, rfl, _⟩ := h.gr.shape
  clear h
  generalize R.length = n at c0 ⊢
  have hk : (decide (¬ (i < 0 ∨ (n : Int) ≤ i)) = false ∧ ¬ 0 ≤ i) ∨ (decide (¬ (i < 0 ∨ (n : Int) ≤ i)) = false ∧ 0 ≤ i ∧ ¬ i < n) ∨ (decide (¬ (i < 0 ∨ (n : Int) ≤ i)) = true ∧ 0 ≤ i ∧ i < n) := by
    simp only [decide_eq_false_iff_not, decide_eq_true_eq]
    omega
  generalize decide (¬ (i < 0 ∨ (n : Int) ≤ i)) = E at hk ⊢
  rcases hk with ⟨rfl, h1⟩ | ⟨rfl, h1, h2⟩ | ⟨rfl, h1, h2⟩
  all_goals
    go_enter Try.func34, Try.ntmps34
    go_wp2
    go_ret
    refine ⟨?_, rfl⟩
    first | rfl | simp [h2]
end Go.Proofs.Ythmglemjlinlgaa
