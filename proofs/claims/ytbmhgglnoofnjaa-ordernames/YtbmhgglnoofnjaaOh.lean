/- The program's window and order, and the document's, side by side. Conditions: data without a body, none of them Safe and sent again, numbers up to 1000. -/
import Derived.Test.YtbmhgglnoofnjaaOg
namespace Go.Proofs.Ytbmhgglnoofnjaa
open Go.RowKit Go.Maps
theorem same_dt (d : Dt) (ao ao' : Option Addr) (cap cap' : Nat) (w : World) (h : Own w (.slice ao d.m.body.length cap) d.m.body) (h' : Own w (.slice ao' d.m.body.length cap') d.m.body) (hr : ∀ c ∈ d.m.body, 0 ≤ c ∧ c ≤ 255) :
    Calls Try.prog 17 #[dv d (.slice ao d.m.body.length cap), dv d (.slice ao' d.m.body.length cap')] w fun e w' => e = .returned (.bool true) ∧ Mod (fun _ => False) w w' :=
  SameData_eq d.q d.r d.n d.s d.t d.m.kind d.m.origin d.m.life d.m.id d.m.part d.m.parts d.m.groups d.m.safe d.m.st d.m.rs d.m.rr d.m.sq ao ao' cap cap' d.m.body w (h.sl hr) (h'.sl hr)
/-- Data of the law's. -/
def gd (d : Dt) : Prop := d.m.body = [] ∧ (d.m.kind = 5 → d.m.safe = false) ∧ d.n ≤ 1000
structure Pr (w0 w : World) (p q pd qd : Nat) (J : Int → Option Dt) (L : List Dt) (a h N : Int) (n : Nat) : Prop where
  ex : ∃ X Y top, Wn w p X J a h n ∧ Dwn w pd Y L top ∧ (∀ i, X i → ¬ Y i) ∧ (∀ i, X i → w0.heap.size ≤ i) ∧ (∀ i, Y i → w0.heap.size ≤ i) ∧ ¬ X q ∧ ¬ X qd ∧ ¬ Y q ∧ ¬ Y qd
  ord : Oq w q N
  dor : Dq w qd N
  qs : q ≠ qd ∧ w0.heap.size ≤ q ∧ w0.heap.size ≤ qd
  eq : jl L = J
  good : ∀ k d, J k = some d → gd d
  far : 0 ≤ N ∧ N ≤ a
  h1 : h ≤ 1000
  len : L.length ≤ n
  mod : Mod (fun _ => False) w0 w
theorem Pr.keep {w0 w w' : World} {p q pd qd : Nat} {J : Int → Option Dt} {L : List Dt} {a h N : Int} {n : Nat} (o : Pr w0 w p q pd qd J L a h N n) (hm : Mod (fun _ => False) w w') : Pr w0 w' p q pd qd J L a h N n := by
  obtain ⟨X, Y, top, g1, g2, g⟩ := o.ex
  exact ⟨⟨X, Y, top, g1.keep hm, g2.keep hm, g⟩, o.ord.keep hm, o.dor.keep hm, o.qs, o.eq, o.good, o.far, o.h1, o.len, o.mod.and hm⟩
theorem Pr.new (w : World) : Calls Try.prog 7 #[] w fun e w1 => ∃ q, e = .returned (.pointer (some ⟨q, 0, none⟩)) ∧ Calls Try.prog 8 #[] w1 fun e w2 => ∃ p, e = .returned (.pointer (some ⟨p, 0, none⟩)) ∧ Calls Try.prog 9 #[] w2 fun e w3 => ∃ qd, e = .returned (.pointer (some ⟨qd, 0, none⟩)) ∧ Calls Try.prog 10 #[] w3 fun e w4 => ∃ pd, e = .returned (.pointer (some ⟨pd, 0, none⟩)) ∧ Pr w w4 p q pd qd (fun _ => none) [] 0 0 0 0 := by
  refine (oNew w).mono ?_
  rintro e w1 ⟨q, rfl, a1, a2, a3⟩
  refine ⟨q, rfl, (wNew w1).mono ?_⟩
  rintro e w2 ⟨p, X, rfl, b1, b2, b3⟩
  refine ⟨p, rfl, (doNew w2).mono ?_⟩
  rintro e w3 ⟨qd, rfl, c1, c2, c3⟩
  refine ⟨qd, rfl, (dNew w3).mono ?_⟩
  rintro e w4 ⟨pd, Y, rfl, d1, d2, d3⟩
  have s1 := a3.size
  have s2 := b3.size
  have s3 := c3.size
  have l1 := a1.blk.lt
  have l2 := c1.blk.lt
  refine ⟨pd, rfl, ⟨X, Y, 0, (b1.keep c3).keep d3, d1, fun i hx hy => ?_, fun i hx => ?_, fun i hy => ?_, fun hx => ?_, fun hx => ?_, fun hy => ?_, fun hy => ?_⟩, ((a1.keep b3).keep c3).keep d3, c1.keep d3, ⟨by omega, by omega, by omega⟩, rfl, by simp, ⟨by omega, by omega⟩, by omega, by simp, ((a3.and b3).and c3).and d3⟩
  · have := b1.mem.lt i hx; have := d2 i hy; omega
  · have := b2 i hx; omega
  · have := d2 i hy; omega
  · have := b2 q hx; omega
  · have := b1.mem.lt qd hx; omega
  · have := d2 q hy; omega
  · have := d2 qd hy; omega
theorem Pr.put {w0 w : World} {p q pd qd : Nat} {J : Int → Option Dt} {L : List Dt} {a h N : Int} {n : Nat} (o : Pr w0 w p q pd qd J L a h N n) (d : Dt) (hd : gd d) (hn : n < 1000) :
    Calls Try.prog 11 #[.pointer (some ⟨p, 0, none⟩), dv d (.slice none 0 0)] w fun e w1 => ∃ r, e = .returned r ∧ Mod (fun i => w0.heap.size ≤ i) w w1 ∧ Calls Try.prog 12 #[.pointer (some ⟨pd, 0, none⟩), dv d (.slice none 0 0)] w1 fun e w2 => ∃ r a', e = .returned r ∧ Mod (fun i => w0.heap.size ≤ i) w1 w2 ∧ Pr w0 w2 p q pd qd (pJ J d) (pL L d) a' (pH J h d) N (n + 1) := by
  obtain ⟨X, Y, top, g1, g2, g3, g4, g5, g6, g7, g8, g9⟩ := o.ex
  refine (Put_any g1 d (.slice none 0 0) (by rw [hd.1]; exact Own.nilSl w) (by rw [hd.1]; simp) (by omega)).mono ?_
  rintro e w1 ⟨X', a', rfl, k1, k2, k3, k4⟩
  have m1 : Mod (fun i => w0.heap.size ≤ i) w w1 := k3.mono (fun i _ hx => g4 i hx)
  have d1 := g2.mod k3 (fun i hy hx => g3 i hx hy)
  refine ⟨_, rfl, m1, (dPut_any d1 (by have := o.len; omega) d (.slice none 0 0) (by rw [hd.1]; exact Own.nilSl w1) (by rw [hd.1]; simp)).mono ?_⟩
  rintro e w2 ⟨Y', rfl, j1, j3, j4⟩
  have m2 : Mod (fun i => w0.heap.size ≤ i) w1 w2 := j3.mono (fun i _ hx => g5 i hx)
  have s0 := o.mod.size
  have s1 := k3.size
  have nXY : ∀ i, X' i → ¬ Y i := fun i hx hy => by
    rcases k4 i hx with hx | hx
    · exact g3 i hx hy
    · have := g2.lt i hy; omega
  refine ⟨_, a', rfl, m2, ⟨X', Y', _, k1.mod j3 nXY, j1, fun i hx hy => ?_, fun i hx => ?_, fun i hy => ?_, fun hx => ?_, fun hx => ?_, fun hy => ?_, fun hy => ?_⟩, (o.ord.mod k3 g6).mod j3 g8, (o.dor.mod k3 g7).mod j3 g9, o.qs, ?_, ?_, ⟨o.far.1, Int.le_trans o.far.2 k2⟩, ?_, ?_, ?_⟩
  · rcases j4 i hy with hy | hy
    · exact nXY i hx hy
    · have := k1.mem.lt i hx; omega
  · rcases k4 i hx with hx | hx
    · exact g4 i hx
    · omega
  · rcases j4 i hy with hy | hy
    · exact g5 i hy
    · omega
  · rcases k4 q hx with hx | hx
    · exact g6 hx
    · have := o.ord.blk.lt; omega
  · rcases k4 qd hx with hx | hx
    · exact g7 hx
    · have := o.dor.blk.lt; omega
  · rcases j4 q hy with hy | hy
    · exact g8 hy
    · have := o.ord.blk.lt; omega
  · rcases j4 qd hy with hy | hy
    · exact g9 hy
    · have := o.dor.blk.lt; omega
  · rw [pL_jl, o.eq]
  · intro k z hz
    unfold pJ at hz
    split at hz
    · by_cases e : k = d.n
      · subst e
        rw [upd_same] at hz
        cases hz
        exact hd
      · rw [upd_other J _ e] at hz
        exact o.good k z hz
    · exact o.good k z hz
  · unfold pH
    have := o.h1
    have := hd.2.2
    split <;> omega
  · unfold pL
    have := o.len
    split
    · simp; omega
    · omega
  · exact (o.mod.trans m1 (fun _ _ h => h) (fun i hi h => by omega)).trans m2 (fun _ _ h => h) (fun i hi h => by omega)
theorem Rd18.body {w : World} {b : Nat} {v : Value} {ds : List (Dt × Value)} {J : Int → Option Dt} {N : Int} {t : Nat} (_h : Rd18 w b v ds) (hm : ds.map (·.1) = dl J N t) (hg : ∀ k d, J k = some d → gd d) : ∀ x ∈ ds, x.1.m.body = [] := fun x hx => by
  have h1 : x.1 ∈ dl J N t := by rw [← hm]; exact List.mem_map_of_mem hx
  have : ∀ t, ∀ z ∈ dl J N t, gd z := by
    intro t
    induction t with
    | zero => intro z hz; simp [dl] at hz
    | succ t ih =>
      intro z hz
      rw [dl, List.mem_append] at hz
      rcases hz with hz | hz
      · exact ih z hz
      · unfold dk at hz
        split at hz
        · simp at hz
        · rename_i d e
          split at hz
          · simp at hz
          · simp at hz
            subst hz
            exact hg _ _ e
  exact (this t x.1 h1).1
theorem Pr.next {w0 w : World} {p q pd qd : Nat} {J : Int → Option Dt} {L : List Dt} {a h N : Int} {n : Nat} (o : Pr w0 w p q pd qd J L a h N n) (hn : n ≤ 1000) (s : Int) :
    Calls Try.prog 13 #[.pointer (some ⟨q, 0, none⟩), .pointer (some ⟨p, 0, none⟩), .int .i64 s] w fun e w1 => ∃ v ds t, e = .returned (.tuple #[v, .int .i64 0]) ∧ Mod (fun i => w0.heap.size ≤ i) w w1 ∧ Calls Try.prog 14 #[.pointer (some ⟨qd, 0, none⟩), .pointer (some ⟨pd, 0, none⟩), .int .i64 s] w1 fun e w2 => ∃ v' ds', e = .returned (.tuple #[v', .int .i64 0]) ∧ Mod (fun i => w0.heap.size ≤ i) w1 w2 ∧ Rd18 w2 w0.heap.size v ds ∧ Rd18 w2 w0.heap.size v' ds' ∧ ds.map (·.1) = ds'.map (·.1) ∧ (∀ x ∈ ds, x.1.m.body = []) ∧ ds.length ≤ 1000 ∧ Pr w0 w2 p q pd qd J L a h (N + t) n := by
  obtain ⟨X, Y, top, g1, g2, g3, g4, g5, g6, g7, g8, g9⟩ := o.ex
  refine (Next_w g1 o.ord g6 o.far (by have := o.h1; omega) s).mono ?_
  rintro e w1 ⟨v, ds, t, rfl, k⟩
  have m1 : Mod (fun i => w0.heap.size ≤ i) w w1 := k.mod.mono (fun i _ e => by have := o.qs; omega)
  have d1 := g2.mod k.mod (fun i hy e => g8 (e ▸ hy))
  have hq1 := o.dor.mod k.mod (fun e => o.qs.1 e.symm)
  refine ⟨v, ds, t, rfl, m1, (dNext_w d1 (by rw [o.eq]; exact g1.wp) hq1 g9 o.far (by have := o.h1; omega) (by have := o.len; omega) (by rw [o.eq]; exact fun k d hd => (o.good k d hd).2.1) s).mono ?_⟩
  rintro e w2 ⟨v', ds', t', rfl, j⟩
  have hnx := j.nx
  have hmp := j.map
  rw [o.eq] at hnx hmp
  obtain rfl := k.nx.uniq hnx
  have m2 : Mod (fun i => w0.heap.size ≤ i) w1 w2 := j.mod.mono (fun i _ e => by have := o.qs; omega)
  have s0 := o.mod.size
  have s1 := k.mod.size
  have hle := on_le g1.wp o.far k.nx.on
  have hlen : ds.length ≤ 1000 := by
    have h1 := congrArg List.length k.map
    have h2 := dl_len J N t
    have h3 := g1.wp.a_le
    have h4 := o.h1
    have h5 := o.far
    simp at h1
    omega
  refine ⟨v', ds', rfl, m2, (k.row.mod j.mod (fun g hg e => by have := hq1.blk.lt; have := o.dor.blk.lt; omega)).base s0, j.row.base (by omega), by rw [k.map, hmp], k.row.body k.map o.good, hlen, ⟨⟨X, Y, top, (g1.mod k.mod (fun i hx e => g6 (e ▸ hx))).mod j.mod (fun i hx e => g7 (e ▸ hx)), d1.mod j.mod (fun i hy e => g9 (e ▸ hy)), g3, g4, g5, g6, g7, g8, g9⟩, k.ord.mod j.mod o.qs.1, j.ord, o.qs, o.eq, o.good, ⟨by have := o.far.1; omega, hle⟩, o.h1, o.len, (o.mod.trans m1 (fun _ _ h => h) (fun i hi h => by omega)).trans m2 (fun _ _ h => h) (fun i hi h => by omega)⟩⟩
theorem Pr.get {w0 w : World} {p q pd qd : Nat} {J : Int → Option Dt} {L : List Dt} {a h N : Int} {n : Nat} (o : Pr w0 w p q pd qd J L a h N n) (hn : n ≤ 1000) (k : Int) (hk : I64 k) :
    Calls Try.prog 18 #[.pointer (some ⟨p, 0, none⟩), .int .i64 k] w fun e w1 => ∃ d ao cap b, e = .returned (.tuple #[dv d (.slice ao 0 cap), .bool b]) ∧ d.m.body = [] ∧ Own w1 (.slice ao 0 cap) [] ∧ Mod (fun _ => False) w w1 ∧ Pr w0 w1 p q pd qd J L a h N n ∧ ∀ w2, Pr w0 w2 p q pd qd J L a h N n → Calls Try.prog 19 #[.pointer (some ⟨pd, 0, none⟩), .int .i64 k] w2 fun e w3 => ∃ ao' cap' b', e = .returned (.tuple #[dv d (.slice ao' 0 cap'), .bool b']) ∧ Own w3 (.slice ao' 0 cap') [] ∧ Mod (fun _ => False) w2 w3 := by
  obtain ⟨X, Y, top, g1, g2, _⟩ := o.ex
  have hb : ((J k).getD d0).m.body = [] := by
    cases e : J k with
    | none => rfl
    | some d => exact (o.good k d e).1
  refine (Get_w g1 k hk).mono ?_
  rintro e w1 ⟨u, rfl, h1, h2, h3⟩
  rw [hb] at h1
  obtain ⟨ao, cap, rfl⟩ : ∃ ao cap, u = .slice ao 0 cap := h1.shape
  refine ⟨_, ao, cap, _, rfl, hb, h1, h2, o.keep h2, fun w2 o2 => ?_⟩
  obtain ⟨X2, Y2, top2, k1, k2, _⟩ := o2.ex
  refine (dGet k2 (by have := o2.len; omega) k).mono ?_
  rintro e w3 ⟨u, rfl, j1, j2, j3⟩
  rw [o2.eq] at j1 ⊢
  rw [hb] at j1
  obtain ⟨ao', cap', rfl⟩ : ∃ ao cap, u = .slice ao 0 cap := j1.shape
  exact ⟨ao', cap', _, rfl, j1, j2⟩
end Go.Proofs.Ytbmhgglnoofnjaa
