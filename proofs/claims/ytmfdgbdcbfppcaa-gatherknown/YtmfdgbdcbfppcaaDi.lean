/- The law's may; how slices of joins and of pairs read as arguments. No conditions. -/
import Derived.Test.YtmfdgbdcbfppcaaDh
import Derived.Test.YtmfdgbdcbfppcaaRows
import Derived.ProofKit
import Derived.OpenShut
import Derived.Deep.Slices
import Derived.Deep.Strs
import Derived.SizedLaws
import Derived.Lib.SmallJoins
namespace Go.Proofs.Ytmfdgbdcbfppcaa
open Go.ChangeShapes Go.WideShapes Go.ChangeAt Go.RowKit
theorem add_at (b off j : Nat) : (⟨b, off, none⟩ : Addr).add j = ⟨b, off + j, none⟩ := by
  simp [Addr.add]
theorem i64_of_wf {n : Int} (h : (Lit.int .i64 n).wf = true) : I64 n := by
  have := bounds_i64 h
  unfold I64
  omega
/-- A slice of pairs. -/
structure Pairs (w : World) (val : Value) (ds : List (Int × Int)) : Prop where
  form : ∃ ao cap, val = .slice ao ds.length cap ∧ ds.length ≤ maxLen ∧
    (ds ≠ [] → ∃ b off, ao = some ⟨b, off, none⟩ ∧ ∀ i d, ds[i]? = some d → w.cell? ⟨b, off + i * 2, none⟩ = some (.int .i64 d.1) ∧ w.cell? ⟨b, off + i * 2 + 1, none⟩ = some (.int .i64 d.2))
  each : ∀ d ∈ ds, I64 d.1 ∧ I64 d.2
/-- A slice of joins that came in. -/
structure Ji (w : World) (val : Value) (ds : List J3) : Prop where
  form : ∃ ao cap, val = .slice ao ds.length cap ∧ ds.length ≤ maxLen ∧
    (ds ≠ [] → ∃ b off, ao = some ⟨b, off, none⟩ ∧ ∀ i d, ds[i]? = some d → w.cell? ⟨b, off + i * 3, none⟩ = some (.int .i64 d.s) ∧ w.cell? ⟨b, off + i * 3 + 1, none⟩ = some (.int .i64 d.p) ∧ w.cell? ⟨b, off + i * 3 + 2, none⟩ = some (.int .i64 d.c))
  each : ∀ d ∈ ds, I64 d.s ∧ I64 d.p ∧ I64 d.c
section
variable {H : Type} {enc : TypeId × Value → H} {W : World}
theorem cellsInt : Try.prog.cellsOf 3 = 1 := by kernel_rfl
theorem cellsTwo : Try.prog.cellsOf 46 = 2 := by kernel_rfl
theorem trod_two {fuel : Nat} {c0 c1 : Value} {x : DataW H × List MemPlace} (h : DataW.trod enc Try.prog W 0 (fun _ => true) true fuel 46 [c0, c1] = some x) :
    ∃ n y0 y1, DataW.trod enc Try.prog W 0 (fun _ => true) true n 3 [c0] = some y0 ∧ DataW.trod enc Try.prog W 0 (fun _ => true) true n 3 [c1] = some y1 := by
  match fuel, h with
  | 0, h => simp [DataW.trod] at h
  | n + 1, h =>
    refine ⟨n, ?_⟩
    unfold DataW.trod at h
    rw [Try.underlying46] at h
    simp [show List.range 2 = [0, 1] from rfl, cellsInt] at h
    replace h := h.2
    revert h
    generalize DataW.trod enc Try.prog W 0 (fun _ => true) true n 3 [c0] = a
    generalize DataW.trod enc Try.prog W 0 (fun _ => true) true n 3 [c1] = b
    intro h
    cases a <;> cases b <;> simp at h ⊢
theorem open_pairs {v : Value} {d : DataW H} {p : List MemPlace} (h : DataW.Trod enc Try.prog W 0 (fun _ => true) true 42 v d p) (hv : ∃ ao len cap, v = .slice ao len cap) :
    ∃ ds : List (Int × Int), Pairs W v ds := by
  obtain ⟨ao0, len0, cap0, rfl⟩ := hv
  obtain ⟨fuel, hf⟩ := h
  rcases Deep.open_slice Try.underlying42 hf with ⟨hcs, hx⟩ | ⟨a, len, cap, m, n, D, Pl, hcs, _, hl, hm, hmm, hx, hel⟩
  · simp [Value.cells] at hcs
    obtain ⟨rfl, rfl, rfl⟩ := hcs
    exact ⟨[], ⟨⟨none, 0, rfl, by simp [maxLen], fun h => absurd rfl h⟩, by simp⟩⟩
  · simp [Value.cells] at hcs
    obtain ⟨rfl, rfl, rfl⟩ := hcs
    simp only [if_true] at hmm
    subst hmm
    rw [cellsTwo] at hel
    have one : ∀ i, ∃ x : Int × Int, i < len0 → (W.cell? (a.add (i * 2)) = some (.int .i64 x.1) ∧ W.cell? (a.add (i * 2 + 1)) = some (.int .i64 x.2)) ∧ (I64 x.1 ∧ I64 x.2) := by
      intro i
      by_cases hi : i < len0
      · obtain ⟨cs, hcells, ht⟩ := hel i (by omega)
        obtain ⟨_, hlen, hc⟩ := World.cells?_some hcells
        match cs, hlen with
        | [c0, c1], _ =>
          obtain ⟨n2, y0, y1, t0, t1⟩ := trod_two ht
          obtain ⟨k0, e0, r0, w0⟩ := DataW.trod_int Try.underlying3 t0
          obtain ⟨k1, e1, r1, w1⟩ := DataW.trod_int Try.underlying3 t1
          simp at e0 e1
          subst e0 e1
          refine ⟨(k0, k1), fun _ => ⟨?_, ⟨i64_of_wf w0, i64_of_wf w1⟩⟩⟩
          have q0 := hc 0 (by omega)
          have q1 := hc 1 (by omega)
          simp only [Deep.add_add] at q0 q1
          simp at q0 q1
          exact ⟨q0, q1⟩
      · exact ⟨(0, 0), fun h => absurd h hi⟩
    obtain ⟨f, hfx⟩ := Classical.axiomOfChoice one
    have hdl : ((List.range len0).map f).length = len0 := by simp
    refine ⟨(List.range len0).map f, ⟨⟨some a, m, by rw [hdl], by rw [hdl]; omega, fun hne => ?_⟩, ?_⟩⟩
    · have h0 : 0 < len0 := by
        rcases Nat.eq_zero_or_pos len0 with h | h
        · subst h; simp at hne
        · exact h
      obtain ⟨b, off, spot⟩ := a
      have hc0 := (hfx 0 h0).1.1
      have hspot : spot = none := by simpa [Addr.add] using World.cell?_spot hc0
      subst hspot
      refine ⟨b, off, rfl, fun i d hd => ?_⟩
      have hi : i < len0 := by
        rcases Nat.lt_or_ge i len0 with h | h
        · exact h
        · rw [List.getElem?_eq_none (by rw [hdl]; exact h)] at hd; cases hd
      have ed : d = f i := by simpa [hi] using hd.symm
      subst ed
      have := (hfx i hi).1
      simpa only [add_at, Nat.add_assoc] using this
    · intro d hd
      obtain ⟨i, hi, rfl⟩ := List.mem_map.1 hd
      exact (hfx i (List.mem_range.1 hi)).2
theorem cellsJoin : Try.prog.cellsOf 34 = 3 := by kernel_rfl
theorem open_joins {v : Value} {d : DataW H} {p : List MemPlace} (h : DataW.Trod enc Try.prog W 0 (fun _ => true) true 22 v d p) (hv : ∃ ao len cap, v = .slice ao len cap) :
    ∃ ds : List J3, Ji W v ds := by
  obtain ⟨ao0, len0, cap0, rfl⟩ := hv
  obtain ⟨fuel, hf⟩ := h
  rcases Deep.open_slice Try.underlying22 hf with ⟨hcs, hx⟩ | ⟨a, len, cap, m, n, D, Pl, hcs, _, hl, hm, hmm, hx, hel⟩
  · simp [Value.cells] at hcs
    obtain ⟨rfl, rfl, rfl⟩ := hcs
    exact ⟨[], ⟨⟨none, 0, rfl, by simp [maxLen], fun h => absurd rfl h⟩, by simp⟩⟩
  · simp [Value.cells] at hcs
    obtain ⟨rfl, rfl, rfl⟩ := hcs
    simp only [if_true] at hmm
    subst hmm
    rw [cellsJoin] at hel
    have one : ∀ i, ∃ x : J3, i < len0 → (W.cell? (a.add (i * 3)) = some (.int .i64 x.s) ∧ W.cell? (a.add (i * 3 + 1)) = some (.int .i64 x.p) ∧ W.cell? (a.add (i * 3 + 2)) = some (.int .i64 x.c)) ∧ (I64 x.s ∧ I64 x.p ∧ I64 x.c) := by
      intro i
      by_cases hi : i < len0
      · obtain ⟨cs, hcells, ht⟩ := hel i (by omega)
        obtain ⟨_, hlen, hc⟩ := World.cells?_some hcells
        match cs, hlen with
        | [c0, c1, c2], _ =>
          obtain ⟨y0, y1, y2, n2, _, _, t0, t1, t2⟩ := Deep.trod_struct3 Try.underlying34 ht
          simp only [cellsInt, List.drop_zero, List.drop_succ_cons, List.take_succ_cons, List.take_zero] at t0 t1 t2
          obtain ⟨k0, e0, r0, w0⟩ := DataW.trod_int Try.underlying3 t0
          obtain ⟨k1, e1, r1, w1⟩ := DataW.trod_int Try.underlying3 t1
          obtain ⟨k2, e2, r2, w2⟩ := DataW.trod_int Try.underlying3 t2
          simp at e0 e1 e2
          subst e0 e1 e2
          refine ⟨⟨k0, k1, k2⟩, fun _ => ⟨?_, ⟨i64_of_wf w0, i64_of_wf w1, i64_of_wf w2⟩⟩⟩
          have q0 := hc 0 (by omega)
          have q1 := hc 1 (by omega)
          have q2 := hc 2 (by omega)
          simp only [Deep.add_add] at q0 q1 q2
          simp at q0 q1 q2
          exact ⟨q0, q1, q2⟩
      · exact ⟨⟨0, 0, 0⟩, fun h => absurd h hi⟩
    obtain ⟨f, hfx⟩ := Classical.axiomOfChoice one
    have hdl : ((List.range len0).map f).length = len0 := by simp
    refine ⟨(List.range len0).map f, ⟨⟨some a, m, by rw [hdl], by rw [hdl]; omega, fun hne => ?_⟩, ?_⟩⟩
    · have h0 : 0 < len0 := by
        rcases Nat.eq_zero_or_pos len0 with h | h
        · subst h; simp at hne
        · exact h
      obtain ⟨b, off, spot⟩ := a
      have hc0 := (hfx 0 h0).1.1
      have hspot : spot = none := by simpa [Addr.add] using World.cell?_spot hc0
      subst hspot
      refine ⟨b, off, rfl, fun i d hd => ?_⟩
      have hi : i < len0 := by
        rcases Nat.lt_or_ge i len0 with h | h
        · exact h
        · rw [List.getElem?_eq_none (by rw [hdl]; exact h)] at hd; cases hd
      have ed : d = f i := by simpa [hi] using hd.symm
      subst ed
      have := (hfx i hi).1
      simpa only [add_at, Nat.add_assoc] using this
    · intro d hd
      obtain ⟨i, hi, rfl⟩ := List.mem_map.1 hd
      exact (hfx i (List.mem_range.1 hi)).2
end
theorem Ji.at {w : World} {ao : Option Addr} {cap : Nat} {ds : List J3} (h : Ji w (.slice ao ds.length cap) ds) {k : Nat} {d : J3} (hk : ds[k]? = some d) :
    ∃ b off, ao = some ⟨b, off, none⟩ ∧ ∀ w', Mod (fun _ => False) w w' → w'.cell? ⟨b, off + k * 3, none⟩ = some (.int .i64 d.s) ∧ w'.cell? ⟨b, off + k * 3 + 1, none⟩ = some (.int .i64 d.p) ∧ w'.cell? ⟨b, off + k * 3 + 2, none⟩ = some (.int .i64 d.c) := by
  obtain ⟨ao', cap', e, _, h4⟩ := h.form
  simp only [Value.slice.injEq, true_and] at e
  obtain ⟨rfl, rfl⟩ := e
  obtain ⟨b, off, rfl, hc⟩ := h4 (by rintro rfl; simp at hk)
  refine ⟨b, off, rfl, fun w' hm => ?_⟩
  obtain ⟨c0, c1, c2⟩ := hc k d hk
  exact ⟨hm.cell c0 (fun h => h), hm.cell c1 (fun h => h), hm.cell c2 (fun h => h)⟩
theorem Ji.shape {w : World} {v : Value} {ds : List J3} (h : Ji w v ds) : ∃ ao cap, v = .slice ao ds.length cap ∧ ds.length ≤ maxLen := by
  obtain ⟨ao, cap, e, hm, _⟩ := h.form
  exact ⟨ao, cap, e, hm⟩
theorem Ji.i64 {w : World} {v : Value} {ds : List J3} (h : Ji w v ds) {k : Nat} {d : J3} (hk : ds[k]? = some d) : I64 d.s ∧ I64 d.p ∧ I64 d.c := h.each d (List.mem_of_getElem? hk)
theorem Pairs.at {w : World} {ao : Option Addr} {cap : Nat} {ds : List (Int × Int)} (h : Pairs w (.slice ao ds.length cap) ds) {k : Nat} {d : Int × Int} (hk : ds[k]? = some d) :
    ∃ b off, ao = some ⟨b, off, none⟩ ∧ ∀ w', Mod (fun _ => False) w w' → w'.cell? ⟨b, off + k * 2, none⟩ = some (.int .i64 d.1) ∧ w'.cell? ⟨b, off + k * 2 + 1, none⟩ = some (.int .i64 d.2) := by
  obtain ⟨ao', cap', e, _, h4⟩ := h.form
  simp only [Value.slice.injEq, true_and] at e
  obtain ⟨rfl, rfl⟩ := e
  obtain ⟨b, off, rfl, hc⟩ := h4 (by rintro rfl; simp at hk)
  refine ⟨b, off, rfl, fun w' hm => ?_⟩
  obtain ⟨c0, c1⟩ := hc k d hk
  exact ⟨hm.cell c0 (fun h => h), hm.cell c1 (fun h => h)⟩
theorem own : ownKnob Try.prog.godebug = none := by kernel_rfl
theorem laidOut : laidOutB Try.prog = true := by kernel_rfl
/-- What may makes of a join. -/
def ms (s : Int) : Int := 1 + br s 8
def mq (s q : Int) : Nat := Cr.lo q &&& 510 ||| 2 ^ (ms s).toNat
def mk (k : Int) : Int := br k 1125899906842624
theorem ms_rng (s : Int) : 1 ≤ ms s ∧ ms s ≤ 8 := by
  have h : 0 ≤ br s 8 ∧ br s 8 < 8 := ⟨(br_rng s 8 (by decide)).1, (br_rng s 8 (by decide)).2.1⟩
  unfold ms
  omega
theorem mk_rng (k : Int) : 0 ≤ mk k ∧ mk k ≤ 9007199254740991 := by
  have h : 0 ≤ br k 1125899906842624 ∧ br k 1125899906842624 < 1125899906842624 := ⟨(br_rng k 1125899906842624 (by decide)).1, (br_rng k 1125899906842624 (by decide)).2.1⟩
  unfold mk
  omega
theorem mq_fact : ∀ a : Fin 512, ∀ m : Fin 9, m.val ≠ 0 → (Cr.chk ((a.val &&& 510 ||| 2 ^ m.val : Nat) : Int) = 0 ∧ Cr.hs (a.val &&& 510 ||| 2 ^ m.val) m.val = true ∧ (a.val &&& 510 ||| 2 ^ m.val) < 512) := by decide +kernel
theorem mq_ok (s q : Int) : Cr.chk (mq s q : Int) = 0 ∧ Cr.has (mq s q : Int) (ms s) = true ∧ mq s q < 512 := by
  have h := ms_rng s
  obtain ⟨h1, h2, h3⟩ := mq_fact ⟨Cr.lo q, Cr.lo_lt q⟩ ⟨(ms s).toNat, by omega⟩ (by show (ms s).toNat ≠ 0; omega)
  have e : Cr.lo ((mq s q : Nat) : Int) = mq s q := by
    have h3' : mq s q < 512 := h3
    unfold Cr.lo
    omega
  refine ⟨h1, ?_, h3⟩
  rw [Cr.has, e, show Cr.node (ms s) = true by simp [Cr.node]; omega, Bool.true_and]
  exact h2
theorem mb_may (s q k : Int) : mb (ms s) (mq s q) (mk k) = true := by
  obtain ⟨h1, h2, _⟩ := mq_ok s q
  have := mk_rng k
  simp [mb, h1, h2]
  omega
theorem mq_i64 (s q : Int) : I64 (mq s q : Int) := by
  have := (mq_ok s q).2.2
  constructor <;> omega
theorem exec_call3 {o : Oper} {w : World} (ρ : Operand → Value) {f : FuncId} (hcf : ∀ args w, (callFunc f args).run Try.prog w = .ok (.enter f args) w) (hf : ρ (.func f) = .func (.func f) #[] #[]) {x y z : Operand} {ts : Array TypeId} (ho : o.op = .call { callee := .value (.func f), args := #[x, y, z], argTypes := ts }) : (execOp ρ o).run Try.prog w = .ok (.enter f #[ρ x, ρ y, ρ z]) w := by
  simp [execOp, ho, resolve, invoke, hf, go_sem, hcf]
theorem step_c3 {ops : Array Oper} {o : Oper} {a : Act} {w : World} {K : Act → World → Prop} {Q : Exit → Act → World → Prop} {E : Prop} {f : FuncId} {ts : Array TypeId} (hcf : ∀ args w, (callFunc f args).run Try.prog w = .ok (.enter f args) w) (hw : Region.wanted o (yielded ops a.tmps) = true) (x y z : Operand)
    (ho : o.op = .call { callee := .value (.func f), args := #[x, y, z], argTypes := ts }) (hf : a.eval (.func f) = .func (.func f) #[] #[]) (v u s : Value) (hx : a.eval x = v) (hy : a.eval y = u) (hz : a.eval z = s) (R : Value → World → Prop)
    (HB : Calls Try.prog f #[v, u, s] w fun e w' => ∃ r, e = .returned r ∧ R r w') (h : ∀ r w', R r w' → K (a.put o.dst r) w') :
    if Region.wanted o (yielded ops a.tmps) = true then Oper.wp Try.prog o a w K Q else E := by
  rw [if_pos hw]
  refine wp_enter (by rw [exec_call3 a.eval hcf hf ho, hx, hy, hz]) HB ?_
  rintro e w' ⟨r, rfl, hr⟩
  exact ⟨_, rfl, h r w' hr⟩
set_option maxRecDepth 100000 in
set_option maxHeartbeats 4000000 in
theorem may_w (s q k : Int) (hs : I64 s) (hk : I64 k) (w : World) : Calls Try.prog 20 #[jv s q k] w fun e w' => e = .returned (jv (ms s) (mq s q) (mk k)) ∧ Mod (fun _ => False) w w' := by
  have HB1 : Hid (∀ W, Calls Try.prog 19 #[.int .i64 s, .int .i64 8] W fun e w' => e = .returned (.int .i64 (br s 8)) ∧ w' = W) := fun W => bring s 8 W (by decide) (by decide) hs
  have HB2 : Hid (∀ W, Calls Try.prog 19 #[.int .i64 k, .int .i64 1125899906842624] W fun e w' => ∃ r, e = .returned r ∧ r = .int .i64 (mk k) ∧ w' = W) := fun W => Calls.st (R := fun w' => w' = W) (bring k 1125899906842624 W (by decide) (by decide) hk)
  have hm := ms_rng s
  have hmn : Cr.node (ms s) = true := by simp [Cr.node]; omega
  have ha : bits .and .i64 q 510 = ((Cr.lo q &&& 510 : Nat) : Int) := Cr.and_lo q 510 (by decide)
  have hP : Hid (wrap64 (2 ^ (ms s).toNat) = ((2 ^ (ms s).toNat : Nat) : Int)) := Cr.two_wrap hmn
  have hw2 : IntKind.i64.wrap (2 ^ (ms s).toNat) = ((2 ^ (ms s).toNat : Nat) : Int) := by
    have h2 := Cr.two_lt hmn
    have e2 : (2 : Int) ^ (ms s).toNat = ((2 ^ (ms s).toNat : Nat) : Int) := by simp
    rw [IntKind.wrap_i64, e2]
    generalize 2 ^ (ms s).toNat = P at h2
    omega
  have ho : bits .or .i64 ((Cr.lo q &&& 510 : Nat) : Int) ((2 ^ (ms s).toNat : Nat) : Int) = (mq s q : Int) := Cr.or_nat _ _ (Nat.lt_of_le_of_lt Nat.and_le_right (by decide)) (Cr.two_lt hmn)
  have HJ : Hid (∀ W, Calls Try.prog 21 #[.int .i64 (ms s), .int .i64 (mq s q), .int .i64 (mk k)] W fun e w' => ∃ r, e = .returned r ∧ r = jv (ms s) (mq s q) (mk k) ∧ Mod (fun _ => False) W w') := fun W => Calls.st (join_w _ _ _ W)
  have hb8 : 0 ≤ br s 8 ∧ br s 8 < 8 := ⟨(br_rng s 8 (by decide)).1, (br_rng s 8 (by decide)).2.1⟩
  have HA : Hid (Mod (fun _ => False) w _) := ((Mod.refl (fun _ => False) w).alloc (.cells #[.int .i64 s, .int .i64 q, .int .i64 k] 34)).alloc (.cells #[.int .i64 0, .int .i64 0, .int .i64 0] 34)
  have HB : Hid (Bk _ _ _ _) := Bk.new2 w (.cells #[.int .i64 s, .int .i64 q, .int .i64 k] 34) #[.int .i64 0, .int .i64 0, .int .i64 0] 34
  generalize (Cr.lo q &&& 510 : Nat) = A at ha ho
  generalize (2 ^ (ms s).toNat : Nat) = P at hP hw2 ho
  generalize mq s q = M at ho HJ ⊢
  generalize mk k = K at HB2 HJ ⊢
  unfold ms at *
  generalize br s 8 = b8 at *
  clear hmn
  unfold jv at *
  go_enter Try.func20, Try.ntmps20
  go_wp2_with (go_at_call 19; refine (HB1.out _).mono ?_; rintro e w' ⟨rfl, rfl⟩)
  first | go_region_law ((first | (refine step_c2 (fun args w => by simp [go_sem]) (by rfl) _ _ (by rfl) (by rfl) _ _ (by rfl) (by rfl) _ (HB2.out _) ?_; rintro r w6 ⟨rfl, rfl⟩) | (refine step_c3 (fun args w => by simp [go_sem]) (by rfl) _ _ _ (by rfl) (by rfl) _ _ _ (by rfl) (by rfl) (by rfl) _ (HJ.out _) ?_; rintro r w7 ⟨rfl, hm7⟩; have hB7 := (HB.out.mod ((Mod.refl (fun _ => False) _).drew) (fun h => h)).mod hm7 (fun h => h); have z0 := hB7.cellv (j := 0) rfl; have z1 := hB7.cellv (j := 1) rfl; have z2 := hB7.cellv (j := 2) rfl; have f0 := hB7.frz 0; have f1 := hB7.frz 1; have f2 := hB7.frz 2))) | fail
  all_goals go_wp2
  all_goals have hB8 := ((hB7.set 0 (.int .i64 (1 + b8))).set 1 (.int .i64 M)).set 2 (.int .i64 K)
  all_goals simp only [List.setIfInBounds_toArray, List.set_cons_succ, List.set_cons_zero] at hB8
  all_goals have hm8 := (((Mod.refl (fun q => q = w.heap.size + 1) w7).setCell ⟨w.heap.size + 1, 0, none⟩ (.int .i64 (1 + b8)) (.inl rfl)).setCell ⟨w.heap.size + 1, 1, none⟩ (.int .i64 M) (.inl rfl)).setCell ⟨w.heap.size + 1, 2, none⟩ (.int .i64 K) (.inl rfl)
  all_goals exact bodyPost_ret (resT info3c Try.underlying34 rfl rfl rfl hB8 rfl) rfl ⟨rfl, (HA.out.drew.and hm7).trans hm8 (V := fun _ => False) (fun _ _ h => h) (fun q hq h => by omega)⟩
end Go.Proofs.Ytmfdgbdcbfppcaa
