/- A window and an order side by side; the laws' awake. Conditions: numbers up to 1000000. -/
import Derived.Test.YtbmhgglnoofnjaaOb
namespace Go.Proofs.Ytbmhgglnoofnjaa
open Go.RowKit Go.Maps
theorem Nx.uniq {J : Int → Option Dt} {s N : Int} {t t' : Nat} (h : Nx J s N t) (h' : Nx J s N t') : t = t' := by
  rcases Nat.lt_trichotomy t t' with e | e | e
  · have := h'.on t e; rw [h.off] at this; cases this
  · exact e
  · have := h.on t' e; rw [h'.off] at this; cases this
/-- A window, an order; all of it new since w0; Z: blocks that are apart. -/
structure Ow (w0 w : World) (Z : Nat → Prop) (p q : Nat) (J : Int → Option Dt) (a h N : Int) (n : Nat) : Prop where
  ex : ∃ X, Wn w p X J a h n ∧ ¬ X q ∧ (∀ i, X i → w0.heap.size ≤ i) ∧ (∀ i, X i → ¬ Z i)
  ord : Oq w q N
  nq : w0.heap.size ≤ q
  zq : ¬ Z q
  zl : ∀ i, Z i → i < w.heap.size
  far : 0 ≤ N ∧ N ≤ a
  mod : Mod (fun _ => False) w0 w
theorem Ow.keep {w0 w w' : World} {Z : Nat → Prop} {p q : Nat} {J : Int → Option Dt} {a h N : Int} {n : Nat} (o : Ow w0 w Z p q J a h N n) (hm : Mod (fun _ => False) w w') : Ow w0 w' Z p q J a h N n := by
  obtain ⟨X, h1, h2, h3, h4⟩ := o.ex
  exact ⟨⟨X, h1.keep hm, h2, h3, h4⟩, o.ord.keep hm, o.nq, o.zq, fun i hi => Nat.lt_of_lt_of_le (o.zl i hi) hm.size, o.far, o.mod.and hm⟩
/-- What lies apart is turned. -/
theorem Ow.apart {w0 w w' : World} {Z : Nat → Prop} {p q : Nat} {J : Int → Option Dt} {a h N : Int} {n : Nat} (o : Ow w0 w Z p q J a h N n) (hz : ∀ i, Z i → w0.heap.size ≤ i) (hm : Mod Z w w') : Ow w0 w' Z p q J a h N n := by
  obtain ⟨X, h1, h2, h3, h4⟩ := o.ex
  exact ⟨⟨X, h1.mod hm h4, h2, h3, h4⟩, o.ord.mod hm o.zq, o.nq, o.zq, fun i hi => Nat.lt_of_lt_of_le (o.zl i hi) hm.size, o.far, o.mod.trans hm (fun _ _ h => h) (fun i hi h => by have := hz i h; omega)⟩
/-- A block more that is apart. -/
theorem Ow.zone {w0 w : World} {p q : Nat} {J : Int → Option Dt} {a h N : Int} {n : Nat} (o : Ow w0 w (fun _ => False) p q J a h N n) (ob : Obj) : Ow w0 (w.alloc ob) (fun i => i = w.heap.size) p q J a h N n := by
  obtain ⟨X, h1, h2, h3, h4⟩ := o.ex
  have hA := (Mod.refl (fun _ => False) w).alloc ob
  refine ⟨⟨X, h1.keep hA, h2, h3, fun i hi e => ?_⟩, o.ord.keep hA, o.nq, fun e => ?_, fun i hi => ?_, o.far, o.mod.and hA⟩
  · have := h1.mem.lt i hi; omega
  · have := o.ord.blk.lt; omega
  · simp; omega
theorem Ow.zone2 {w0 w : World} {Z : Nat → Prop} {p q : Nat} {J : Int → Option Dt} {a h N : Int} {n : Nat} (o : Ow w0 w Z p q J a h N n) (ob : Obj) : Ow w0 (w.alloc ob) (fun i => Z i ∨ i = w.heap.size) p q J a h N n := by
  obtain ⟨X, h1, h2, h3, h4⟩ := o.ex
  have hA := (Mod.refl (fun _ => False) w).alloc ob
  refine ⟨⟨X, h1.keep hA, h2, h3, fun i hi e => ?_⟩, o.ord.keep hA, o.nq, fun e => ?_, fun i hi => ?_, o.far, o.mod.and hA⟩
  · rcases e with e | e
    · exact h4 i hi e
    · have := h1.mem.lt i hi; omega
  · rcases e with e | e
    · exact o.zq e
    · have := o.ord.blk.lt; omega
  · rcases hi with e | e
    · exact Nat.lt_of_lt_of_le (o.zl i e) hA.size
    · simp; omega
theorem Ow.less {w0 w : World} {Z Z' : Nat → Prop} {p q : Nat} {J : Int → Option Dt} {a h N : Int} {n : Nat} (o : Ow w0 w Z p q J a h N n) (hz : ∀ i, Z' i → Z i) : Ow w0 w Z' p q J a h N n := by
  obtain ⟨X, h1, h2, h3, h4⟩ := o.ex
  exact ⟨⟨X, h1, h2, h3, fun i hi e => h4 i hi (hz i e)⟩, o.ord, o.nq, fun e => o.zq (hz q e), fun i hi => o.zl i (hz i hi), o.far, o.mod⟩
/-- Behind Put of data that may be. -/
def pZ (J : Int → Option Dt) (d : Dt) : Int → Option Dt := if (J d.n).isSome = true then J else upd J d.n (some d)
theorem okOz (k : Int) {n : Int} (b : Bool) (h : 1 ≤ n ∧ n ≤ 9007199254740991) : okP (oz k n b) = true := by
  have e : cr (oz k n b).q (oz k n b).r = 0 := rfl
  unfold okP
  rw [e]
  simp only [beq_self_eq_true, Bool.true_and, Bool.and_eq_true, decide_eq_true_eq]
  exact ⟨h.1, h.2⟩
theorem Ow.put {w0 w : World} {Z : Nat → Prop} {p q : Nat} {J : Int → Option Dt} {a h N : Int} {n : Nat} (o : Ow w0 w Z p q J a h N n) (d : Dt) (hb : d.m.body = []) (ho : okP d = true) (hn : n < 1000000000000) :
    Calls Try.prog 11 #[.pointer (some ⟨p, 0, none⟩), dv d (.slice none 0 0)] w fun e w' => ∃ a', e = .returned (.tuple #[.bool !(J d.n).isSome, .int .i64 0]) ∧ Ow w0 w' Z p q (pZ J d) a' (max h d.n) N (n + 1) ∧ Mod (fun i => ¬ Z i) w w' := by
  obtain ⟨X, h1, h2, h3, h4⟩ := o.ex
  refine (Put_any h1 d (.slice none 0 0) (by rw [hb]; exact Own.nilSl w) (by rw [hb]; simp) hn).mono ?_
  rintro e w' ⟨X', a', rfl, g1, g2, g3, g4⟩
  have e1 : pJ J d = pZ J d := by
    unfold pJ pZ pF
    rw [ho]
    cases (J d.n).isSome <;> rfl
  have e2 : pH J h d = max h d.n := by
    unfold pH pF
    rw [ho]
    cases hj : (J d.n).isSome with
    | true => have := h1.wp.high.2.2 d.n hj; simp; omega
    | false => rfl
  rw [e1, e2] at g1
  refine ⟨a', by simp [pF, pE, ho], ⟨⟨X', g1, fun hx => ?_, fun i hx => ?_, fun i hx => ?_⟩, o.ord.mod g3 h2, o.nq, o.zq, fun i hi => Nat.lt_of_lt_of_le (o.zl i hi) g3.size, ⟨o.far.1, Int.le_trans o.far.2 g2⟩, o.mod.trans g3 (fun _ _ h => h) (fun i hi hx => by have := h3 i hx; omega)⟩, g3.mono (fun i _ hx => h4 i hx)⟩
  · rcases g4 q hx with hx | hx
    · exact h2 hx
    · have := o.ord.blk.lt; omega
  · rcases g4 i hx with hx | hx
    · exact h3 i hx
    · have := o.mod.size; omega
  · rcases g4 i hx with hx | hx
    · exact h4 i hx
    · intro hz
      have := o.zl i hz
      omega
theorem Ow.next {w0 w : World} {Z : Nat → Prop} {p q : Nat} {J : Int → Option Dt} {a h N : Int} {n : Nat} (o : Ow w0 w Z p q J a h N n) (hh : h ≤ 1000000) (s : Int) :
    Calls Try.prog 13 #[.pointer (some ⟨q, 0, none⟩), .pointer (some ⟨p, 0, none⟩), .int .i64 s] w fun e w' => ∃ v ds t, e = .returned (.tuple #[v, .int .i64 0]) ∧ Rd18 w' w.heap.size v ds ∧ ds.map (·.1) = dl J N t ∧ Nx J s N t ∧ Ow w0 w' Z p q J a h (N + t) n ∧ Mod (fun i => i = q) w w' := by
  obtain ⟨X, h1, h2, h3, h4⟩ := o.ex
  refine (Next_w h1 o.ord h2 o.far hh s).mono ?_
  rintro e w' ⟨v, ds, t, rfl, g⟩
  refine ⟨v, ds, t, rfl, g.row, g.map, g.nx, ⟨⟨X, h1.mod g.mod (fun i hi e => h2 (e ▸ hi)), h2, h3, h4⟩, g.ord, o.nq, o.zq, fun i hi => Nat.lt_of_lt_of_le (o.zl i hi) g.mod.size, ⟨by have := o.far.1; omega, on_le h1.wp o.far g.nx.on⟩, o.mod.trans g.mod (fun _ _ h => h) (fun i hi e => by have := o.nq; omega)⟩, g.mod⟩
theorem Ow.new {w0 w : World} (hm0 : Mod (fun _ => False) w0 w) : Calls Try.prog 8 #[] w fun e w' => ∃ p, e = .returned (.pointer (some ⟨p, 0, none⟩)) ∧ Calls Try.prog 7 #[] w' fun e' w'' => ∃ q, e' = .returned (.pointer (some ⟨q, 0, none⟩)) ∧ Ow w0 w'' (fun _ => False) p q (fun _ => none) 0 0 0 0 := by
  refine (wNew w).mono ?_
  rintro e w1 ⟨p, X, rfl, h1, h2, h3⟩
  refine ⟨p, rfl, (oNew w1).mono ?_⟩
  rintro e w2 ⟨q, rfl, g1, g2, g3⟩
  have s0 := hm0.size
  have s1 := h3.size
  refine ⟨q, rfl, ⟨X, h1.keep g3, fun hx => ?_, fun i hx => ?_, fun _ _ h => h⟩, g1, by omega, fun h => h, fun _ h => h.elim, ⟨by omega, by omega⟩, (hm0.and h3).and g3⟩
  · have := h1.mem.lt q hx; omega
  · have := h2 i hx; omega
theorem Np.nums {ds : List (Dt × Value)} {J : Int → Option Dt} {N : Int} {t : Nat} (h : ds.map (·.1) = dl J N t) : ds.map (·.1.n) = (dl J N t).map (·.n) := by
  rw [← h, List.map_map]
  rfl
/-- The chapter's window. -/
def J4 : Int → Option Dt := pZ (pZ (pZ (pZ (fun _ => none) (oz 1 1 false)) (oz 1 2 true)) (oz 5 3 false)) (oz 1 5 false)
theorem nx0 : Nx J4 0 0 1 := ⟨fun i hi => by obtain rfl : i = 0 := by omega
                                             decide, by decide⟩
theorem nx1 : Nx J4 0 1 0 := ⟨fun i hi => by omega, by decide⟩
theorem nx2 : Nx J4 2 1 2 := ⟨fun i hi => by
  rcases (by omega : i = 0 ∨ i = 1) with rfl | rfl
  · decide
  · decide, by decide⟩
set_option maxRecDepth 100000 in
set_option maxHeartbeats 2000000 in
theorem awake_any (w : World) : Calls Try.prog 20 #[] w fun e w' => e = .returned (.bool true) ∧ Mod (fun _ => False) w w' := by
  go_enter Try.func20, Try.ntmps20
  go_wp2_with (fail)
  refine (Ow.new (Mod.refl _ w)).mono ?_
  rintro e w1 ⟨p, rfl, HN2⟩
  go_wp2_with (fail)
  refine HN2.mono ?_
  rintro e w2 ⟨q, rfl, o2⟩
  clear HN2
  go_wp2_with (fail)
  refine (one_any 1 false w2).mono ?_
  rintro e w3 ⟨rfl, hm3⟩
  have o3 := o2.keep hm3
  clear o2 hm3
  go_wp2_with (fail)
  refine (o3.put (oz 1 1 false) rfl (okOz _ _ (by decide)) (by decide)).mono ?_
  rintro e w4 ⟨a4, rfl, o4, -⟩
  clear o3
  go_wp2_with (fail)
  refine (one_any 2 true w4).mono ?_
  rintro e w5 ⟨rfl, hm5⟩
  have o5 := o4.keep hm5
  clear o4 hm5
  go_wp2_with (fail)
  refine (o5.put (oz 1 2 true) rfl (okOz _ _ (by decide)) (by decide)).mono ?_
  rintro e w6 ⟨a6, rfl, o6, -⟩
  clear o5
  go_wp2_with (fail)
  refine (old_any 3 w6).mono ?_
  rintro e w7 ⟨rfl, hm7⟩
  have o7 := o6.keep hm7
  clear o6 hm7
  go_wp2_with (fail)
  refine (o7.put (oz 5 3 false) rfl (okOz _ _ (by decide)) (by decide)).mono ?_
  rintro e w8 ⟨a8, rfl, o8, -⟩
  clear o7
  go_wp2_with (fail)
  refine (one_any 5 false w8).mono ?_
  rintro e w9 ⟨rfl, hm9⟩
  have o9 := o8.keep hm9
  clear o8 hm9
  go_wp2_with (fail)
  refine (o9.put (oz 1 5 false) rfl (okOz _ _ (by decide)) (by decide)).mono ?_
  rintro e w10 ⟨a10, rfl, o10, -⟩
  clear o9
  have hO : Hid (Ow w w10 (fun _ => False) p q J4 a10 5 0 4) := o10
  clear o10
  go_wp2_with (fail)
  refine (hO.out.next (by decide) 0).mono ?_
  rintro e w11 ⟨v11, d11, t11, rfl, r11, m11, x11, o11, -⟩
  obtain rfl := x11.uniq nx0
  have R11 : Hid (Rd18 w11 _ v11 d11) := r11
  have M11 : Hid (d11.map (·.1.n) = [1]) := by show _ = _; rw [Np.nums m11]; decide
  have O11 : Hid (Ow w w11 (fun _ => False) p q J4 a10 5 1 4) := o11
  clear r11 m11 x11 o11
  go_wp2_with (fail)
  refine (O11.out.next (by decide) 0).mono ?_
  rintro e w12 ⟨v12, d12, t12, rfl, r12, m12, x12, o12, k12⟩
  obtain rfl := x12.uniq nx1
  obtain rfl : d12 = [] := by simpa [dl] using m12
  obtain ⟨av12, cv12, rfl⟩ := r12.row.shape
  have HQ : Hid (q < w10.heap.size) := hO.out.ord.blk.lt
  have R12 : Hid (Rd18 w12 _ v11 d11) := R11.out.mod k12 (fun g hg e => by have := HQ.out; omega)
  have O12 : Hid (Ow w w12 (fun _ => False) p q J4 a10 5 1 4) := o12
  clear r12 m12 x12 o12 k12
  go_wp2_with (fail)
  refine (O12.out.next (by decide) 2).mono ?_
  rintro e w13 ⟨v13, d13, t13, rfl, r13, m13, x13, o13, k13⟩
  obtain rfl := x13.uniq nx2
  have R13 : Hid (Rd18 w13 _ v13 d13) := r13
  have M13 : Hid (d13.map (·.1.n) = [2]) := by show _ = _; rw [Np.nums m13]; decide
  have O13 : Hid (Ow w w13 (fun _ => False) p q J4 a10 5 3 4) := o13
  have R13b : Hid (Rd18 w13 _ v11 d11) := R12.out.mod k13 (fun g hg e => by have := HQ.out; omega)
  clear r13 m13 x13 o13 k13
  have L11 : Hid (d11.length ≤ 1000000) := by show _ ≤ _; have := congrArg List.length M11.out; simp at this; omega
  have L13 : Hid (d13.length ≤ 1000000) := by show _ ≤ _; have := congrArg List.length M13.out; simp at this; omega
  go_wp2_with (fail)
  refine (numbersOf_any v11 d11 w13 R13b.out.row L11.out).mono ?_
  rintro e w14 ⟨v14, rfl, ho14, hm14, -⟩
  rw [M11.out] at ho14
  have hA14 := (Mod.refl (fun _ => False) w14).alloc (.cells (Cr.U [1]).toArray 3)
  go_wp2_with (fail)
  refine (Cr.EqInts_at true ((ho14.mod hA14 (fun _ _ h => h)).sl) (Cr.Own.lit w14 [1] (by simp [maxLen])).sl (by decide)).mono ?_
  rintro e w15 ⟨rfl, hm15⟩
  have hM15 := (hm14.and hA14).and hm15
  clear ho14 hm14 hA14 hm15
  go_wp2_with (fail)
  refine (numbersOf_any v13 d13 w15 (R13.out.keep hM15).row L13.out).mono ?_
  rintro e w16 ⟨v16, rfl, ho16, hm16, -⟩
  rw [M13.out] at ho16
  have hA16 := (Mod.refl (fun _ => False) w16).alloc (.cells (Cr.U [2]).toArray 3)
  go_wp2_with (fail)
  refine (Cr.EqInts_at true ((ho16.mod hA16 (fun _ _ h => h)).sl) (Cr.Own.lit w16 [2] (by simp [maxLen])).sl (by decide)).mono ?_
  rintro e w17 ⟨rfl, hm17⟩
  have O17 := O13.out.keep (((hM15.and hm16).and hA16).and hm17)
  go_wp2_with (fail)
  refine (Done_w O17.ord).mono ?_
  rintro e w18 ⟨rfl, rfl⟩
  go_wp2_with (fail)
  go_ret
  exact ⟨rfl, O17.mod⟩
end Go.Proofs.Ytbmhgglnoofnjaa
