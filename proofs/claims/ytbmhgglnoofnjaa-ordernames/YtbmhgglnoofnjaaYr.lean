/- The document's window in memory: New, See, High, Get. Conditions: sizes that a slice has. -/
import Derived.Test.YtbmhgglnoofnjaaYq
import Derived.Test.YtbmhgglnoofnjaaYh
namespace Go.Proofs.Ytbmhgglnoofnjaa
open Go.RowKit Go.Maps
/-- A row within a block loaded whole. -/
theorem wpList_load_at {ops : Array Oper} {rest : List Oper} {op : Oper} {a : Act} {w : World} {Q : Exit → Act → World → Prop} {t : TypeId} {n : Nat} {d : TypeDesc} (hi : (Try.prog.info? t).map (·.size) = some n) (hu : Try.prog.underlying t = some d) (hd : d.isRow = true) (hgd : op.guard = none) (x : Operand) (ho : op.op = .load t x)
    (b o : Nat) (hx : a.eval x = .pointer (some ⟨b, o, none⟩)) (cs : List Value) (hr : w.rangeAt b o cs) (hl : cs.length = n)
    (h : wpList Try.prog ops Q rest (a.put op.dst (.agg cs.toArray)) w) : wpList Try.prog ops Q (op :: rest) a w :=
  wpList_load_mid (P := Try.prog) (ops := ops) (rest := rest) (Q := Q) hgd t x ho b o hx cs d hr hu hd (by rw [hi, hl]) h
/-- The data of a number in a list. -/
def jl (L : List Dt) (k : Int) : Option Dt := L.find? (fun d => d.n == k)
theorem jl_app {L : List Dt} {d : Dt} (h : jl L d.n = none) : jl (L ++ [d]) = upd (jl L) d.n (some d) := by
  funext k
  unfold jl at *
  rw [List.find?_append]
  by_cases e : k = d.n
  · subst e
    rw [upd_same, h]
    simp
  · rw [upd_other _ _ e]
    cases hf : L.find? (fun d => d.n == k) with
    | some z => simp
    | none =>
      have : (d.n == k) = false := by simp; exact fun h => e h.symm
      simp [this]
/-- A window of the document's; X: its blocks. -/
structure Dwn (w : World) (p : Nat) (X : Nat → Prop) (L : List Dt) (top : Int) : Prop where
  ex : ∃ v ds, Bk w p 72 #[v, .int .i64 top] ∧ RG w 42 18 v ds.length (fd ds) ∧ ds.map (·.1) = L ∧ (∀ g, v.ownBlock = some g → X g) ∧ ∀ x ∈ ds, Own w x.2 x.1.m.body ∧ (∀ g, x.2.ownBlock = some g → X g) ∧ (∀ c ∈ x.1.m.body, 0 ≤ c ∧ c ≤ 255) ∧ x.1.m.body.length ≤ 140737488355328
  px : X p
  lt : ∀ i, X i → i < w.heap.size
theorem Dwn.mod {S : Nat → Prop} {w w' : World} {p : Nat} {X : Nat → Prop} {L : List Dt} {top : Int} (h : Dwn w p X L top) (hm : Mod S w w') (hS : ∀ i, X i → ¬ S i) : Dwn w' p X L top := by
  obtain ⟨v, ds, h1, h2, h3, h4, h5⟩ := h.ex
  exact ⟨⟨v, ds, h1.mod hm (hS p h.px), h2.mod hm (fun g hg => hS g (h4 g hg)), h3, h4, fun x hx => ⟨(h5 x hx).1.mod hm (fun g hg => hS g ((h5 x hx).2.1 g hg)), (h5 x hx).2⟩⟩, h.px, fun i hi => Nat.lt_of_lt_of_le (h.lt i hi) hm.size⟩
theorem Dwn.keep {w w' : World} {p : Nat} {X : Nat → Prop} {L : List Dt} {top : Int} (h : Dwn w p X L top) (hm : Mod (fun _ => False) w w') : Dwn w' p X L top := h.mod hm (fun _ _ h => h)
theorem dNew (w : World) : Calls Try.prog 10 #[] w fun e w' => ∃ p X, e = .returned (.pointer (some ⟨p, 0, none⟩)) ∧ Dwn w' p X [] 0 ∧ (∀ i, X i → w.heap.size ≤ i) ∧ Mod (fun _ => False) w w' := by
  go_enter Try.func10, Try.ntmps10
  go_wp2
  go_ret
  refine ⟨w.heap.size, fun i => i = w.heap.size, rfl, ⟨⟨.slice none 0 0, [], Bk.new w _ _, RG.nil _ _ _, rfl, by simp [Value.ownBlock], by simp⟩, rfl, fun i hi => by simp; omega⟩, fun i hi => by omega, (Mod.refl _ w).alloc _⟩
theorem Bk.ne_rg {w : World} {p : Nat} {t : TypeId} {xs : Array Value} {v : Value} {n : Nat} {cs : List Value} (h : Bk w p t xs) (ht : t ≠ 42) (hr : RG w 42 18 v n cs) : v.ownBlock ≠ some p := fun e => by
  obtain ⟨cur, hc⟩ := hr.kind e
  rw [h.at'] at hc
  simp at hc
  exact ht hc.2
theorem Bk.ne_ow {w : World} {p : Nat} {t : TypeId} {xs : Array Value} {v : Value} {l : List Int} (h : Bk w p t xs) (ht : t ≠ 5) (hr : Own w v l) : v.ownBlock ≠ some p := fun e => by
  obtain ⟨cur, hc⟩ := hr.kind e
  rw [h.at'] at hc
  simp at hc
  exact ht hc.2
/-- Another greatest number. -/
theorem Dwn.top {w : World} {p : Nat} {X : Nat → Prop} {L : List Dt} {top : Int} (h : Dwn w p X L top) (t' : Int) : Dwn (w.setCell ⟨p, 1, none⟩ (.int .i64 t')) p X L t' := by
  obtain ⟨v, ds, h1, h2, h3, h4, h5⟩ := h.ex
  have hm := (Mod.refl (fun i => i = p) w).setCell ⟨p, 1, none⟩ (.int .i64 t') (.inl rfl)
  exact ⟨⟨v, ds, h1.set 1 _, h2.mod hm (fun g hg e => h1.ne_rg (by decide) h2 (e ▸ hg)), h3, h4, fun x hx => ⟨(h5 x hx).1.mod hm (fun g hg e => h1.ne_ow (by decide) (h5 x hx).1 (e ▸ hg)), (h5 x hx).2⟩⟩, h.px, fun i hi => Nat.lt_of_lt_of_le (h.lt i hi) hm.size⟩
/-- The first of a number. -/
theorem jl_at {L : List Dt} {k : Int} {i : Nat} {d : Dt} (h : ∀ (t : Nat) (z : Dt), t < i → L[t]? = some z → z.n ≠ k) (hi : L[i]? = some d) (hd : d.n = k) : jl L k = some d := by
  induction L generalizing i with
  | nil => simp at hi
  | cons a r ih =>
    unfold jl
    rw [List.find?_cons]
    cases i with
    | zero =>
      simp at hi
      subst hi
      simp [hd]
    | succ i =>
      have := h 0 a (by omega) rfl
      rw [show (a.n == k) = false by simpa using this]
      exact ih (i := i) (fun t z ht hz => h (t + 1) z (by omega) (by simpa using hz)) (by simpa using hi)
theorem jl_none {L : List Dt} {k : Int} (h : ∀ (t : Nat) (z : Dt), L[t]? = some z → z.n ≠ k) : jl L k = none := by
  unfold jl
  rw [List.find?_eq_none]
  intro z hz
  obtain ⟨t, ht⟩ := List.getElem?_of_mem hz
  simpa using h t z ht
set_option maxRecDepth 100000 in
set_option maxHeartbeats 4000000 in
theorem dGet {w : World} {p : Nat} {X : Nat → Prop} {L : List Dt} {top : Int} (h : Dwn w p X L top) (hl : L.length ≤ 1000000) (k : Int) : Calls Try.prog 19 #[.pointer (some ⟨p, 0, none⟩), .int .i64 k] w fun e w' => ∃ v, e = .returned (.tuple #[dv ((jl L k).getD d0) v, .bool (jl L k).isSome]) ∧ Own w' v ((jl L k).getD d0).m.body ∧ Mod (fun _ => False) w w' ∧ (∀ g, v.ownBlock = some g → w.heap.size ≤ g) := by
  have hA := (Mod.refl (fun _ => False) w).alloc (.cells #[.int .i64 0, .int .i64 0, .int .i64 0, .int .i64 0, .int .i64 0, .int .i64 0, .int .i64 0, .int .i64 0, .int .i64 0, .int .i64 0, .int .i64 0, .int .i64 0, .bool false, .int .i64 0, .int .i64 0, .int .i64 0, .int .i64 0, .slice none 0 0] 42)
  have hZ : Hid (Bk _ _ _ _) := Bk.new w #[.int .i64 0, .int .i64 0, .int .i64 0, .int .i64 0, .int .i64 0, .int .i64 0, .int .i64 0, .int .i64 0, .int .i64 0, .int .i64 0, .int .i64 0, .int .i64 0, .bool false, .int .i64 0, .int .i64 0, .int .i64 0, .int .i64 0, .slice none 0 0] 42
  have HA : Hid (Mod _ _ _) := hA
  have HW : Hid (Dwn _ p X L top) := h.keep hA
  obtain ⟨v, ds, h1, h2, h3, h4, h5⟩ := HW.out.ex
  have c0 := h1.cellv (j := 0) rfl
  have HDS : Hid (ds.map (·.1) = L) := h3
  have HR : Hid (RG _ 42 18 v ds.length (fd ds)) := h2
  have HE : Hid (∀ x ∈ ds, Own _ x.2 x.1.m.body ∧ (∀ g, x.2.ownBlock = some g → X g) ∧ (∀ c ∈ x.1.m.body, 0 ≤ c ∧ c ≤ 255) ∧ x.1.m.body.length ≤ 140737488355328) := h5
  have hdl : ds.length ≤ 1000000 := by have := congrArg List.length h3; simp at this; omega
  have HSZ : Hid (w.heap.size < (w.alloc (.cells #[.int .i64 0, .int .i64 0, .int .i64 0, .int .i64 0, .int .i64 0, .int .i64 0, .int .i64 0, .int .i64 0, .int .i64 0, .int .i64 0, .int .i64 0, .int .i64 0, .bool false, .int .i64 0, .int .i64 0, .int .i64 0, .int .i64 0, .slice none 0 0] 42)).heap.size) := by show _ < _; simp
  obtain ⟨av, cv, rfl⟩ := h2.shape
  clear h1 h2 h3 h4 h5 h hA
  go_enter Try.func19, Try.ntmps19
  go_wp2_with (fail)
  obtain ⟨w1, ew1⟩ : ∃ w1, w1 = w.alloc (.cells #[.int .i64 0, .int .i64 0, .int .i64 0, .int .i64 0, .int .i64 0, .int .i64 0, .int .i64 0, .int .i64 0, .int .i64 0, .int .i64 0, .int .i64 0, .int .i64 0, .bool false, .int .i64 0, .int .i64 0, .int .i64 0, .int .i64 0, .slice none 0 0] 42) := ⟨_, rfl⟩
  rw [← ew1] at HA hZ HW c0 HR HE HSZ ⊢
  clear ew1
  go_loopw [6] (fun i wr => ∃ (j : Nat), i = .int .i64 (j : Int) ∧ j ≤ ds.length ∧ wr = w1 ∧ Hid (∀ t z, t < j → ds[t]? = some z → z.1.n ≠ k)) (fun i _ => ds.length - (intOf i).toNat)
  case atStart => exact ⟨0, rfl, Nat.zero_le _, rfl, by intro t z ht; omega⟩
  case round =>
    obtain ⟨j, rfl, hj, rfl, hno⟩ := hrel
    by_cases hlt : j < ds.length
    · have hlt' : (j : Int) < (ds.length : Int) := by omega
      obtain ⟨x, hx⟩ : ∃ x, ds[j]? = some x := ⟨ds[j], List.getElem?_eq_getElem hlt⟩
      obtain ⟨gb, of, cp, e, hrg⟩ := HR.out.range (by omega)
      cases e
      have hxc : ∀ t c, (dcl x.1 x.2)[t]? = some c → wr.cell? ⟨gb, of + j * 18 + t, none⟩ = some c := fun t c ht => by
        have := hrg (j * 18 + t) _ (fd_get ds j x hx t c ht)
        rwa [← Nat.add_assoc] at this
      have m2 : wr.cell? ⟨gb, of + j * 18 + 2, none⟩ = some (.int .i64 x.1.n) := hxc 2 _ rfl
      have HX : Hid (ds[j]? = some x) := hx
      have hb1 : (0 : Int) ≤ (j : Int) := by omega
      have hjb : (j : Int) + 1 ≤ 1000000 := by omega
      have HLT : Hid (j < ds.length) := hlt
      by_cases hn : x.1.n = k
      · have hbn : (x.1.n == k) = true := by simp [hn]
        have HJ : Hid (jl L k = some x.1) := by
          show _ = _
          refine jl_at (i := j) (fun t z ht hz => ?_) (by rw [← HDS.out, List.getElem?_map, hx]; rfl) hn
          rw [← HDS.out, List.getElem?_map] at hz
          obtain ⟨y, hy, rfl⟩ := Option.map_eq_some_iff.1 hz
          exact hno.out t y ht hy
        obtain ⟨xo, -, xr, xb⟩ := HE.out x (List.mem_of_getElem? hx)
        obtain ⟨d, u⟩ := x
        have HXO : Hid (Own wr u d.m.body) := xo
        clear xo
        obtain ⟨ax, cx, rfl⟩ := HXO.out.shape
        have HC := copy_dt d _ wr (HXO.out.sl xr) xb
        have hra : wr.rangeAt gb (of + j * 18) (dcl d (.slice ax d.m.body.length cx)) := fun t c ht => hxc t c ht
        replace m2 : wr.cell? ⟨gb, of + j * 18 + 2, none⟩ = some (.int .i64 d.n) := m2
        replace hbn : (d.n == k) = true := hbn
        clear hxc hrg hx hn
        go_wp2_with (refine wpList_load_at info18 Try.underlying42 rfl rfl _ rfl gb (of + j * 18) rfl _ hra rfl ?_; unfold dcl; simp only [Act.put, List.setIfInBounds_toArray, List.set_cons_succ, List.set_cons_zero])
        refine HC.mono ?_
        rintro e w2 ⟨v2, rfl, ho2, hm2, hg2⟩
        obtain ⟨a2, c2, rfl⟩ := ho2.shape
        have hZ2 := hZ.out.mod hm2 (fun h => h)
        have hs1 := HSZ.out
        unfold dv
        clear HC c0 m2 hra
        go_wp2_with (refine wpList_store_row info18 rfl rfl _ _ rfl w.heap.size #[.int .i64 d.q, .int .i64 d.r, .int .i64 d.n, .int .i64 d.s, .int .i64 d.t, .int .i64 d.m.kind, .int .i64 d.m.origin, .int .i64 d.m.life, .int .i64 d.m.id, .int .i64 d.m.part, .int .i64 d.m.parts, .int .i64 d.m.groups, .bool d.m.safe, .int .i64 d.m.st, .int .i64 d.m.rs, .int .i64 d.m.rr, .int .i64 d.m.sq, .slice a2 d.m.body.length c2] rfl rfl hZ2 rfl rfl rfl ?_; intro wF hBF hMF)
        refine bodyPost_ret (resT2 info18 Try.underlying42 rfl rfl rfl rfl hBF rfl) rfl ?_
        rw [HJ.out]
        exact ⟨_, rfl, ho2.mod hMF (fun i hi e => by have := hg2 i hi; omega), (HA.out.and hm2).trans hMF (V := fun _ => False) (fun _ _ h => h) (fun i hi h => by omega), fun g hg => by have := hg2 g hg; omega⟩
      · have hbn : (x.1.n == k) = false := by simp [hn]
        have HNO : Hid (∀ t z, t < j + 1 → ds[t]? = some z → z.1.n ≠ k) := fun t z ht hz => by
          rcases Nat.lt_or_ge t j with h | h
          · exact hno.out t z h hz
          · obtain rfl : t = j := by omega
            rw [hx] at hz
            cases hz
            exact hn
        clear hxc hrg hx hn
        generalize x.1.n = y at *
        go_wp2_with (fail)
        go_roundw
        case rel => exact ⟨j + 1, by go_num, HLT.out, by first | rfl | trivial, HNO⟩
        case measure =>
          have := HLT.out
          simp [intOf]
          omega
    · have HJ : Hid (jl L k = none) := by
        show _ = _
        refine jl_none fun t z hz => ?_
        rw [← HDS.out, List.getElem?_map] at hz
        obtain ⟨y, hy, rfl⟩ := Option.map_eq_some_iff.1 hz
        exact hno.out t y (by have := (List.getElem?_eq_some_iff.1 hy).1; omega) hy
      have hs1 := HSZ.out
      go_wp2_with (refine wpList_store_row info18 rfl rfl _ _ rfl w.heap.size #[.int .i64 0, .int .i64 0, .int .i64 0, .int .i64 0, .int .i64 0, .int .i64 0, .int .i64 0, .int .i64 0, .int .i64 0, .int .i64 0, .int .i64 0, .int .i64 0, .bool false, .int .i64 0, .int .i64 0, .int .i64 0, .int .i64 0, .slice none 0 0] rfl rfl hZ.out rfl rfl rfl ?_; intro wF hBF hMF)
      refine bodyPost_ret (resT2 info18 Try.underlying42 rfl rfl rfl rfl hBF rfl) rfl ?_
      rw [HJ.out]
      exact ⟨_, rfl, Own.nil _, HA.out.trans hMF (V := fun _ => False) (fun _ _ h => h) (fun i hi h => by omega), by simp [Value.ownBlock]⟩
end Go.Proofs.Ytbmhgglnoofnjaa
