/- Contract of the document's Put. Conditions: sizes that a slice of bytes has; as many data as a slice can have. -/
import Derived.Test.YthiijonmnebjgaaGreatNqC
namespace Go.Proofs.YthiijonmnebjgaaGreat
open Go.RowKit Go.Maps
/-- What is there behind Put. -/
def pL (L : List Dt) (d : Dt) : List Dt := if pF (jl L) d then L ++ [d] else L
theorem pL_jl (L : List Dt) (d : Dt) : jl (pL L d) = pJ (jl L) d := by
  unfold pL pJ
  split
  · rename_i h
    have : jl L d.n = none := by
      have := h
      simp [pF] at this
      exact this.2
    exact jl_app this
  · rfl
set_option maxRecDepth 100000 in
set_option maxHeartbeats 2000000 in
theorem dPut_bad {w : World} {p : Nat} (d : Dt) (ao : Option Addr) (cap : Nat) (ho : okP d = false) : Calls Tryz.prog 30 #[.pointer (some ⟨p, 0, none⟩), dv d (.slice ao d.m.body.length cap)] w fun e w' => e = .returned (.tuple #[.bool false, .int .i64 2]) ∧ Mod (fun _ => False) w w' := by
  have hA := (Mod.refl (fun _ => False) w).alloc (.cells #[.int .i64 d.q, .int .i64 d.r, .int .i64 d.n, .int .i64 d.s, .int .i64 d.t, .int .i64 d.m.kind, .int .i64 d.m.origin, .int .i64 d.m.life, .int .i64 d.m.id, .int .i64 d.m.part, .int .i64 d.m.parts, .int .i64 d.m.groups, .bool d.m.safe, .int .i64 d.m.st, .int .i64 d.m.rs, .int .i64 d.m.rr, .int .i64 d.m.sq, .slice ao d.m.body.length cap] 45)
  have hD := Bk.new w #[.int .i64 d.q, .int .i64 d.r, .int .i64 d.n, .int .i64 d.s, .int .i64 d.t, .int .i64 d.m.kind, .int .i64 d.m.origin, .int .i64 d.m.life, .int .i64 d.m.id, .int .i64 d.m.part, .int .i64 d.m.parts, .int .i64 d.m.groups, .bool d.m.safe, .int .i64 d.m.st, .int .i64 d.m.rs, .int .i64 d.m.rr, .int .i64 d.m.sq, .slice ao d.m.body.length cap] 45
  have HC := RCheckRing d.q d.r (w.alloc (.cells #[.int .i64 d.q, .int .i64 d.r, .int .i64 d.n, .int .i64 d.s, .int .i64 d.t, .int .i64 d.m.kind, .int .i64 d.m.origin, .int .i64 d.m.life, .int .i64 d.m.id, .int .i64 d.m.part, .int .i64 d.m.parts, .int .i64 d.m.groups, .bool d.m.safe, .int .i64 d.m.st, .int .i64 d.m.rs, .int .i64 d.m.rr, .int .i64 d.m.sq, .slice ao d.m.body.length cap] 45))
  have hcase := okP_not ho
  have h02 := cr_two d.q d.r
  have HD : Hid (Bk _ _ _ _) := hD
  have HA : Hid (Mod _ _ _) := hA
  generalize cr d.q d.r = c at HC hcase h02
  clear ho hD hA
  unfold dv
  rcases hcase with hc | ⟨rfl, hn⟩ | ⟨rfl, hn1, hn2⟩
  · obtain rfl : c = 2 := by omega
    clear hc h02
    go_enter Tryz.func30, Tryz.ntmps30
    go_wp2_with (go_at_call 47; refine HC.mono ?_; rintro e w1 ⟨rfl, hm1⟩)
    go_ret2
    exact ⟨rfl, HA.out.and hm1⟩
  · clear h02
    go_enter Tryz.func30, Tryz.ntmps30
    go_wp2_with (go_at_call 47; refine HC.mono ?_; rintro e w1 ⟨rfl, hm1⟩; have c2 := (HD.out.other' hm1).cellv (j := 2) rfl)
    go_ret2
    exact ⟨rfl, HA.out.and hm1⟩
  · clear h02
    have hn0 : ¬ d.n < 1 := by omega
    clear hn1
    go_enter Tryz.func30, Tryz.ntmps30
    go_wp2_with (go_at_call 47; refine HC.mono ?_; rintro e w1 ⟨rfl, hm1⟩; have c2 := (HD.out.other' hm1).cellv (j := 2) rfl)
    go_ret2
    exact ⟨rfl, HA.out.and hm1⟩
theorem copy_st (d : Dt) (v : Value) (w : World) (hs : Sl w v d.m.body) (hb : d.m.body.length ≤ 140737488355328) : Calls Tryz.prog 46 #[dv d v] w fun e w' => ∃ r, e = .returned r ∧ ∃ ao cap, r = dv d (.slice ao d.m.body.length cap) ∧ Own w' (.slice ao d.m.body.length cap) d.m.body ∧ Mod (fun _ => False) w w' ∧ Hid (∀ g, (Value.slice ao d.m.body.length cap).ownBlock = some g → w.heap.size ≤ g) := by
  refine (copy_dt d v w hs hb).mono ?_
  rintro e w' ⟨v', rfl, h1, h2, h3⟩
  obtain ⟨ao, cap, rfl⟩ := h1.shape
  exact ⟨_, rfl, ao, cap, rfl, h1, h2, h3⟩
theorem step_k1 {ops : Array Oper} {o : Oper} {a : Act} {w : World} {K : Act → World → Prop} {Q : Exit → Act → World → Prop} {E : Prop} {f : FuncId} {ts : Array TypeId} (hcf : ∀ args w, (callFunc f args).run Tryz.prog w = .ok (.enter f args) w) (hw : Region.wanted o (yielded ops a.tmps) = true) (x : Operand)
    (ho : o.op = .call { callee := .value (.func f), args := #[x], argTypes := ts }) (hf : a.eval (.func f) = .func (.func f) #[] #[]) (v : Value) (hx : a.eval x = v) (R : Value → World → Prop)
    (HB : Calls Tryz.prog f #[v] w fun e w' => ∃ r, e = .returned r ∧ R r w') (h : ∀ r w', R r w' → K (a.put o.dst r) w') :
    if Region.wanted o (yielded ops a.tmps) = true then Oper.wp Tryz.prog o a w K Q else E := by
  rw [if_pos hw]
  refine wp_enter (by rw [exec_call1 a.eval hcf hf ho, hx]) HB ?_
  rintro e w' ⟨r, rfl, hr⟩
  exact ⟨_, rfl, h r w' hr⟩
/-- Behind the append and its store. -/
structure P6 (w2 wx : World) (p : Nat) (X : Nat → Prop) (L : List Dt) (top : Int) : Prop where
  ex : ∃ Y, Dwn wx p Y L top ∧ Mod X w2 wx ∧ Gone w2 X Y
/-- One more in the row, and the slice stored. -/
theorem Dwn.put {w w3 w4 : World} {p : Nat} {X : Nat → Prop} {top : Int} {v v' u : Value} {ds : List (Dt × Value)} {d : Dt} (h1 : Bk w p 81 #[v, .int .i64 top]) (h2 : RG w 45 18 v ds.length (fd ds)) (h4 : ∀ g, v.ownBlock = some g → X g) (h5 : ∀ x ∈ ds, Own w x.2 x.1.m.body ∧ (∀ g, x.2.ownBlock = some g → X g) ∧ (∀ c ∈ x.1.m.body, 0 ≤ c ∧ c ≤ 255) ∧ x.1.m.body.length ≤ 140737488355328) (px : X p) (lt : ∀ i, X i → i < w.heap.size)
    (hm3 : Mod (fun _ => False) w w3) (ho : Own w3 u d.m.body) (hu : ∀ g, u.ownBlock = some g → w.heap.size ≤ g) (hr : ∀ c ∈ d.m.body, 0 ≤ c ∧ c ≤ 255) (hb : d.m.body.length ≤ 140737488355328)
    (hm4 : Mod (fun k => v.ownBlock = some k) w3 w4) (hf : Fr w3 v v') (hR : RG w4 45 18 v' (ds.length + 1) (fd ds ++ dcl d u)) :
    P6 w (w4.setCell ⟨p, 0, none⟩ v') p X (ds.map (·.1) ++ [d]) top := by
  have hpv := h1.ne_rg (by decide) h2
  have b4 : Bk w4 p 81 #[v, .int .i64 top] := (h1.mod hm3 (fun h => h)).mod hm4 hpv
  have b5 := b4.set 0 v'
  simp only [List.setIfInBounds_toArray, List.set_cons_zero] at b5
  have hm5 := (Mod.refl (fun i => i = p) w4).setCell ⟨p, 0, none⟩ v' (.inl rfl)
  have hsz := hm3.size
  have hsz4 := hm4.size
  have neu : ∀ x l, Own w3 x l → ∀ g, x.ownBlock = some g → ¬ v.ownBlock = some g := fun x l hx g hg e => by
    obtain ⟨c1, k1⟩ := (h2.mod hm3 (fun _ _ h => h)).kind e
    obtain ⟨c2, k2⟩ := hx.kind hg
    rw [k1] at k2
    simp at k2
  have hR5 := hR.mod hm5 (fun g hg e => b4.ne_rg (by decide) hR (e ▸ hg))
  refine ⟨fun i => X i ∨ w.heap.size ≤ i ∧ i < w4.heap.size, ⟨⟨v', ds ++ [(d, u)], b5, ?_, by simp, fun g hg => ?_, fun x hx => ?_⟩, .inl px, fun i hi => ?_⟩, ?_, fun i hi => ?_⟩
  · rw [List.length_append, fd_app, show fd [(d, u)] = dcl d u by simp [fd]]
    exact hR5
  · have hl := hR.lt g hg
    rcases hf g hg with h | h
    · exact .inl (h4 g h)
    · exact .inr ⟨by omega, hl⟩
  · rcases List.mem_append.1 hx with hx | hx
    · obtain ⟨a1, a2, a3⟩ := h5 x hx
      have a13 := a1.mod hm3 (fun _ _ h => h)
      have a14 := a13.mod hm4 (neu _ _ a13)
      exact ⟨a14.mod hm5 (fun g hg e => b4.ne_ow (by decide) a14 (e ▸ hg)), fun g hg => .inl (a2 g hg), a3⟩
    · simp at hx
      subst hx
      have o4 := ho.mod hm4 (neu _ _ ho)
      exact ⟨o4.mod hm5 (fun g hg e => b4.ne_ow (by decide) o4 (e ▸ hg)), fun g hg => .inr ⟨hu g hg, o4.lt g hg⟩, hr, hb⟩
  · have := hm5.size
    rcases hi with hi | hi
    · have := lt i hi; omega
    · omega
  · refine (hm3.none.trans hm4 (V := X) (fun _ _ h => h) (fun i _ e => h4 i e)).trans hm5 (fun _ _ h => h) (fun i _ e => ?_)
    rw [e]; exact px
  · rcases hi with hi | hi
    · exact .inl hi
    · exact .inr hi.1
set_option maxRecDepth 100000 in
set_option maxHeartbeats 8000000 in
theorem dPut_ok {w : World} {p : Nat} {X : Nat → Prop} {L : List Dt} {top : Int} (h : Dwn w p X L top) (hl : L.length ≤ 100000) (d : Dt) (ao : Option Addr) (cap : Nat) (hs : Sl w (.slice ao d.m.body.length cap) d.m.body) (hb : d.m.body.length ≤ 140737488355328) (ho : okP d = true) :
    Calls Tryz.prog 30 #[.pointer (some ⟨p, 0, none⟩), dv d (.slice ao d.m.body.length cap)] w fun e w' => ∃ Y, e = .returned (.tuple #[.bool !(jl L d.n).isSome, .int .i64 0]) ∧ Dwn w' p Y (if (jl L d.n).isSome = true then L else L ++ [d]) (if (jl L d.n).isSome = true then top else max top d.n) ∧ Mod X w w' ∧ Gone w X Y := by
  have hA := (Mod.refl (fun _ => False) w).alloc (.cells #[.int .i64 d.q, .int .i64 d.r, .int .i64 d.n, .int .i64 d.s, .int .i64 d.t, .int .i64 d.m.kind, .int .i64 d.m.origin, .int .i64 d.m.life, .int .i64 d.m.id, .int .i64 d.m.part, .int .i64 d.m.parts, .int .i64 d.m.groups, .bool d.m.safe, .int .i64 d.m.st, .int .i64 d.m.rs, .int .i64 d.m.rr, .int .i64 d.m.sq, .slice ao d.m.body.length cap] 45)
  have hD := Bk.new w #[.int .i64 d.q, .int .i64 d.r, .int .i64 d.n, .int .i64 d.s, .int .i64 d.t, .int .i64 d.m.kind, .int .i64 d.m.origin, .int .i64 d.m.life, .int .i64 d.m.id, .int .i64 d.m.part, .int .i64 d.m.parts, .int .i64 d.m.groups, .bool d.m.safe, .int .i64 d.m.st, .int .i64 d.m.rs, .int .i64 d.m.rr, .int .i64 d.m.sq, .slice ao d.m.body.length cap] 45
  have HC := RCheckRing d.q d.r (w.alloc (.cells #[.int .i64 d.q, .int .i64 d.r, .int .i64 d.n, .int .i64 d.s, .int .i64 d.t, .int .i64 d.m.kind, .int .i64 d.m.origin, .int .i64 d.m.life, .int .i64 d.m.id, .int .i64 d.m.part, .int .i64 d.m.parts, .int .i64 d.m.groups, .bool d.m.safe, .int .i64 d.m.st, .int .i64 d.m.rs, .int .i64 d.m.rr, .int .i64 d.m.sq, .slice ao d.m.body.length cap] 45))
  obtain ⟨o1, o2, o3⟩ := okP_parts ho
  rw [o1] at HC
  have hn0 : ¬ d.n < 1 := by omega
  have hn1 : ¬ 9007199254740991 < d.n := by omega
  have HSL : Hid (Sl w _ _) := hs
  have HD : Hid (Bk _ _ _ _) := hD
  have HA : Hid (Mod _ _ _) := hA
  have HW : Hid (Dwn w p X L top) := h
  have HX0 : Hid (∀ i, X i → i < w.heap.size) := h.lt
  clear hD hA hs o1 o2 o3 ho h
  have HE : Hid (∃ bo : Bool, (jl L d.n).isSome = bo) := ⟨_, rfl⟩
  obtain ⟨bo, hbo⟩ := HE.out
  have HBO : Hid ((jl L d.n).isSome = bo) := hbo
  rw [hbo]
  clear HE hbo
  unfold dv
  cases bo with
  | true =>
    simp only [if_true, Bool.not_true]
    go_enter Tryz.func30, Tryz.ntmps30
    go_wp2_with (go_at_call 47; refine HC.mono ?_; rintro e w1 ⟨rfl, hm1⟩; have c2 := (HD.out.other' hm1).cellv (j := 2) rfl)
    refine (dGet ((HW.out.keep HA.out).keep hm1) (by omega) d.n).mono ?_
    rintro e w2 ⟨v2, rfl, ho2, hm2, -⟩
    rw [HBO.out]
    obtain ⟨a2, k2, rfl⟩ := ho2.shape
    generalize (jl L d.n).getD d0 = dd at ho2 ⊢
    unfold dv
    have HM2 : Hid (Mod (fun _ => False) w w2) := (HA.out.and hm1).and hm2
    clear ho2 hm1 hm2 c2 HC
    go_wp2_with (refine wpList_store_row info18 rfl rfl _ _ rfl w2.heap.size #[.int .i64 dd.q, .int .i64 dd.r, .int .i64 dd.n, .int .i64 dd.s, .int .i64 dd.t, .int .i64 dd.m.kind, .int .i64 dd.m.origin, .int .i64 dd.m.life, .int .i64 dd.m.id, .int .i64 dd.m.part, .int .i64 dd.m.parts, .int .i64 dd.m.groups, .bool dd.m.safe, .int .i64 dd.m.st, .int .i64 dd.m.rs, .int .i64 dd.m.rr, .int .i64 dd.m.sq, .slice a2 dd.m.body.length k2] rfl rfl (Bk.new w2 _ _) rfl rfl rfl ?_; intro wF hBF hMF)
    go_ret2
    have HMF : Mod (fun _ => False) w wF := (HM2.out.alloc _).trans hMF (fun _ _ h => h) (fun i hi e => by have := HM2.out.size; omega)
    exact ⟨X, rfl, HW.out.keep HMF, HMF.none, fun i hi => .inl hi⟩
  | false =>
    simp only [Bool.false_eq_true, if_false, Bool.not_false]
    go_enter Tryz.func30, Tryz.ntmps30
    go_wp2_with (go_at_call 47; refine HC.mono ?_; rintro e w1 ⟨rfl, hm1⟩; have c2 := (HD.out.other' hm1).cellv (j := 2) rfl)
    refine (dGet ((HW.out.keep HA.out).keep hm1) (by omega) d.n).mono ?_
    rintro e w1g ⟨v2, rfl, ho2, hm2, -⟩
    rw [HBO.out]
    obtain ⟨a2, k2, rfl⟩ := ho2.shape
    generalize (jl L d.n).getD d0 = dd at ho2 ⊢
    unfold dv
    have HM1 : Hid (Mod (fun _ => False) (w.alloc (.cells #[.int .i64 d.q, .int .i64 d.r, .int .i64 d.n, .int .i64 d.s, .int .i64 d.t, .int .i64 d.m.kind, .int .i64 d.m.origin, .int .i64 d.m.life, .int .i64 d.m.id, .int .i64 d.m.part, .int .i64 d.m.parts, .int .i64 d.m.groups, .bool d.m.safe, .int .i64 d.m.st, .int .i64 d.m.rs, .int .i64 d.m.rr, .int .i64 d.m.sq, .slice ao d.m.body.length cap] 45)) w1g) := hm1.and hm2
    clear ho2 hm1 hm2 c2 HC
    go_wp2_with (refine wpList_store_row info18 rfl rfl _ _ rfl w1g.heap.size #[.int .i64 dd.q, .int .i64 dd.r, .int .i64 dd.n, .int .i64 dd.s, .int .i64 dd.t, .int .i64 dd.m.kind, .int .i64 dd.m.origin, .int .i64 dd.m.life, .int .i64 dd.m.id, .int .i64 dd.m.part, .int .i64 dd.m.parts, .int .i64 dd.m.groups, .bool dd.m.safe, .int .i64 dd.m.st, .int .i64 dd.m.rs, .int .i64 dd.m.rr, .int .i64 dd.m.sq, .slice a2 dd.m.body.length k2] rfl rfl (Bk.new w1g _ _) rfl rfl rfl ?_; intro w2 hBF hMF)
    have HMx : Hid (Mod (fun _ => False) (w.alloc (.cells #[.int .i64 d.q, .int .i64 d.r, .int .i64 d.n, .int .i64 d.s, .int .i64 d.t, .int .i64 d.m.kind, .int .i64 d.m.origin, .int .i64 d.m.life, .int .i64 d.m.id, .int .i64 d.m.part, .int .i64 d.m.parts, .int .i64 d.m.groups, .bool d.m.safe, .int .i64 d.m.st, .int .i64 d.m.rs, .int .i64 d.m.rr, .int .i64 d.m.sq, .slice ao d.m.body.length cap] 45)) w2) := (HM1.out.alloc _).trans hMF (fun _ _ h => h) (fun i hi e => by have := HM1.out.size; omega)
    have HM2 : Hid (Mod (fun _ => False) w w2) := HA.out.and HMx.out
    have HD2 : Hid (Bk w2 w.heap.size 45 #[.int .i64 d.q, .int .i64 d.r, .int .i64 d.n, .int .i64 d.s, .int .i64 d.t, .int .i64 d.m.kind, .int .i64 d.m.origin, .int .i64 d.m.life, .int .i64 d.m.id, .int .i64 d.m.part, .int .i64 d.m.parts, .int .i64 d.m.groups, .bool d.m.safe, .int .i64 d.m.st, .int .i64 d.m.rs, .int .i64 d.m.rr, .int .i64 d.m.sq, .slice ao d.m.body.length cap]) := HD.out.mod HMx.out (fun h => h)
    have HW2 : Hid (Dwn w2 p X L top) := HW.out.keep HM2.out
    clear hBF hMF HM1 HMx HD HA HW
    go_upto_region 6 with (fail)
    obtain ⟨v, ds, h1, h2, h3, h4, h5⟩ := HW2.out.ex
    obtain ⟨av, cv, rfl⟩ := h2.shape
    have c0 : w2.cell? ⟨p, 0, none⟩ = some (.slice av ds.length cv) := h1.cellv (j := 0) rfl
    obtain ⟨db, edb⟩ : ∃ db, db = w.heap.size := ⟨_, rfl⟩
    have hD2 := HD2.out
    rw [← edb] at hD2 ⊢
    have HDB : Hid (db = w.heap.size) := edb
    clear edb HD2
    have m0 : w2.cell? ⟨db, 0, none⟩ = some (.int .i64 d.q) := hD2.cellv (j := 0) rfl
    have m1 : w2.cell? ⟨db, 1, none⟩ = some (.int .i64 d.r) := hD2.cellv (j := 1) rfl
    have m2 : w2.cell? ⟨db, 2, none⟩ = some (.int .i64 d.n) := hD2.cellv (j := 2) rfl
    have m3 : w2.cell? ⟨db, 3, none⟩ = some (.int .i64 d.s) := hD2.cellv (j := 3) rfl
    have m4 : w2.cell? ⟨db, 4, none⟩ = some (.int .i64 d.t) := hD2.cellv (j := 4) rfl
    have m5 : w2.cell? ⟨db, 5, none⟩ = some (.int .i64 d.m.kind) := hD2.cellv (j := 5) rfl
    have m6 : w2.cell? ⟨db, 6, none⟩ = some (.int .i64 d.m.origin) := hD2.cellv (j := 6) rfl
    have m7 : w2.cell? ⟨db, 7, none⟩ = some (.int .i64 d.m.life) := hD2.cellv (j := 7) rfl
    have m8 : w2.cell? ⟨db, 8, none⟩ = some (.int .i64 d.m.id) := hD2.cellv (j := 8) rfl
    have m9 : w2.cell? ⟨db, 9, none⟩ = some (.int .i64 d.m.part) := hD2.cellv (j := 9) rfl
    have m10 : w2.cell? ⟨db, 10, none⟩ = some (.int .i64 d.m.parts) := hD2.cellv (j := 10) rfl
    have m11 : w2.cell? ⟨db, 11, none⟩ = some (.int .i64 d.m.groups) := hD2.cellv (j := 11) rfl
    have m12 : w2.cell? ⟨db, 12, none⟩ = some (.bool d.m.safe) := hD2.cellv (j := 12) rfl
    have m13 : w2.cell? ⟨db, 13, none⟩ = some (.int .i64 d.m.st) := hD2.cellv (j := 13) rfl
    have m14 : w2.cell? ⟨db, 14, none⟩ = some (.int .i64 d.m.rs) := hD2.cellv (j := 14) rfl
    have m15 : w2.cell? ⟨db, 15, none⟩ = some (.int .i64 d.m.rr) := hD2.cellv (j := 15) rfl
    have m16 : w2.cell? ⟨db, 16, none⟩ = some (.int .i64 d.m.sq) := hD2.cellv (j := 16) rfl
    have m17 : w2.cell? ⟨db, 17, none⟩ = some (.slice ao d.m.body.length cap) := hD2.cellv (j := 17) rfl
    have HPX : Hid (X p ∧ ∀ i, X i → i < w2.heap.size) := ⟨HW2.out.px, HW2.out.lt⟩
    have hdr := (Mod.refl (fun _ => False) w2).drew
    have HC := copy_st d _ w2.drew ((HSL.out.mod (HM2.out) (fun _ _ h => h)).mod hdr (fun _ _ h => h)) hb
    have HB : Hid (Bk w2 p 81 #[.slice av ds.length cv, .int .i64 top]) := h1
    have HR : Hid (RG w2 45 18 (.slice av ds.length cv) ds.length (fd ds)) := h2
    have HV : Hid ((∀ g, (Value.slice av ds.length cv).ownBlock = some g → X g) ∧ ∀ x ∈ ds, Own w2 x.2 x.1.m.body ∧ (∀ g, x.2.ownBlock = some g → X g) ∧ (∀ c ∈ x.1.m.body, 0 ≤ c ∧ c ≤ 255) ∧ x.1.m.body.length ≤ 140737488355328) := ⟨h4, h5⟩
    have HDL : Hid (ds.map (·.1) = L) := h3
    have HBN : Hid ((ds.length + 1) * 160 ≤ 140737488355328 ∧ ds.length + 1 ≤ 9223372036854775807) := by
      have := congrArg List.length h3
      simp at this
      constructor <;> omega
    have HDD : Hid (Bk w2 db 45 _) := hD2
    have HPV := h1.ne_rg (by decide) h2
    have HPN : Hid (¬ (Value.slice av ds.length cv).ownBlock = some p) := HPV
    clear h1 h2 h3 h4 h5 hD2 HPV
    unfold dv at HC
    go_cut [] (fun wx => P6 w2 wx p X (ds.map (·.1) ++ [d]) top)
    case first =>
      clear HDD HDL HW2 HDB hn0 hn1 hl HX0
      go_region_law (first
        | (refine step_k1 (fun args w => by simp [go_sem]) (by rfl) _ (by rfl) (by rfl) _ (by rfl) _ HC ?_; rintro r w3 ⟨a3, c3, rfl, ho3, hm3, hg3⟩; replace c0 : w3.cell? ⟨p, 0, none⟩ = some (.slice av ds.length cv) := hm3.cell c0 (fun h => h); have hA3 := (Mod.refl (fun _ => False) w3).alloc (.cells (dcl d (.slice a3 d.m.body.length c3)).toArray 45); have hSG := SG.lit w3 45 (dcl d (.slice a3 d.m.body.length c3)) (dcl_one d a3 _ c3); have hR3 := ((HR.out.mod hdr (fun _ _ h => h)).mod hm3 (fun _ _ h => h)).mod hA3 (fun _ _ h => h); have c0a : (w3.alloc (.cells (dcl d (.slice a3 d.m.body.length c3)).toArray 45)).cell? ⟨p, 0, none⟩ = some (.slice av ds.length cv) := hA3.cell c0 (fun h => h); unfold dcl at hSG hA3 hR3 c0a)
        | (refine step_appG elD (by rfl) _ _ (by rfl) _ _ ds.length 1 (fd ds) _ (by rfl) (by rfl) hR3 hSG HBN.out.1 HBN.out.2 (ds.length + 1) rfl ?_; intro ax cx w4 hRG4 hm4 hf4; have HF4 : Hid (Fr _ _ _) := hf4; clear hf4; have c04 : w4.cell? ⟨p, 0, none⟩ = some (.slice av ds.length cv) := hm4.cell c0a HPN.out; have f04 : w4.frozen? ⟨p, 0, none⟩ = false := (((HB.out.mod ((hdr.and hm3).and hA3) (fun h => h)).mod hm4 HPN.out)).frz 0))
      all_goals go_wp2
      all_goals go_meet
      all_goals exact Dwn.put HB.out HR.out HV.out.1 HV.out.2 HPX.out.1 HPX.out.2 ((hdr.and hm3).and hA3) (ho3.mod hA3 (fun _ _ h => h)) (fun g hg => hg3.out g hg) HSL.out.rng hb hm4 HF4.out hRG4
    case rest =>
    obtain ⟨⟨Y, hW3, hm3, hG3⟩⟩ := hcut
    rw [HDL.out] at hW3
    generalize wc = w3 at *
    clear HC m0 m1 m2 m3 m4 m5 m6 m7 m8 m9 m10 m11 m12 m13 m14 m15 m16 m17 c0 hdr
    obtain ⟨v3, ds3, k1, _⟩ := hW3.ex
    have c1 : w3.cell? ⟨p, 1, none⟩ = some (.int .i64 top) := k1.cellv (j := 1) rfl
    have f1 : w3.frozen? ⟨p, 1, none⟩ = false := k1.frz 1
    have m2 : w3.cell? ⟨db, 2, none⟩ = some (.int .i64 d.n) := (HDD.out.mod hm3 (fun e => by have := HX0.out _ e; rw [HDB.out] at this; omega)).cellv (j := 2) rfl
    have HG3 : Hid (Gone w2 X Y) := hG3
    clear k1 hG3
    go_upto_region 7 with (fail)
    go_region
    all_goals go_wp2
    all_goals go_ret2
    all_goals exact ⟨Y, rfl, (hW3.keep ((Mod.refl _ w3).drew)).top _, (((HM2.out.none).trans hm3 (fun _ _ h => h) (fun _ _ h => h)).drew).setCell _ _ (.inl HPX.out.1), fun i hi => by
      rcases HG3.out i hi with hx | hx
      · exact .inl hx
      · exact .inr (Nat.le_trans HM2.out.size hx)⟩
/-- The document's Put, of all data. -/
theorem dPut_any {w : World} {p : Nat} {X : Nat → Prop} {L : List Dt} {top : Int} (h : Dwn w p X L top) (hl : L.length ≤ 100000) (d : Dt) (v : Value) (hs : Sl w v d.m.body) (hb : d.m.body.length ≤ 140737488355328) :
    Calls Tryz.prog 30 #[.pointer (some ⟨p, 0, none⟩), dv d v] w fun e w' => ∃ Y, e = .returned (.tuple #[.bool (pF (jl L) d), .int .i64 (pE d)]) ∧ Dwn w' p Y (pL L d) (pH (jl L) top d) ∧ Mod X w w' ∧ Gone w X Y := by
  obtain ⟨ao, cap, rfl⟩ := hs.shape
  by_cases ho : okP d = true
  · refine (dPut_ok h hl d ao cap hs hb ho).mono ?_
    rintro e w' ⟨Y, rfl, h1, h2, h3⟩
    refine ⟨Y, by simp [pF, pE, ho], ?_, h2, h3⟩
    unfold pL pH pF
    simp only [ho, Bool.true_and]
    cases hj : (jl L d.n).isSome with
    | true => rw [hj] at h1; simpa using h1
    | false => rw [hj] at h1; simpa using h1
  · have ho' : okP d = false := by simpa using ho
    refine (dPut_bad d ao cap ho').mono ?_
    rintro e w' ⟨rfl, hm⟩
    refine ⟨X, by simp [pF, pE, ho'], ?_, hm.none, fun i hi => .inl hi⟩
    rw [show pL L d = L by simp [pL, pF, ho'], show pH (jl L) top d = top by simp [pH, pF, ho']]
    exact h.keep hm
end Go.Proofs.YthiijonmnebjgaaGreat
