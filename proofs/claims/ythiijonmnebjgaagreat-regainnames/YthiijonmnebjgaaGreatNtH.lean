/- RegainNames: the numbers and examples, what is none. No conditions. -/
import Derived.Test.YthiijonmnebjgaaGreatFrx
import Derived.Test.YthiijonmnebjgaaGreatWi
import Derived.Test.YthiijonmnebjgaaGreatNtG
namespace Go.Proofs.YthiijonmnebjgaaGreat
open Go.RowKit
/-- What holds when those in 'listed' are done. -/
structure DnI (ops : Array Oper) (Post : Nat → Value → World → Prop) (Inv : Array Bool → Act → World → Prop) (a0 : Act) (listed : Array Bool) (a : Act) (w : World) : Prop where
  lsize : listed.size = ops.size
  size : a.tmps.size = a0.tmps.size
  defers : a.defers = a0.defers
  inv : Inv listed a w
  done : ∀ (i : Nat) (o : Oper) (d : Tmp), ops[i]? = some o → listed.getD i false = true → o.dst = some d → Post i (a.tmps.getD d undef) w
  rest : ∀ t, (∀ (i : Nat) (o : Oper), ops[i]? = some o → o.dst ≠ some t) → a.tmps.getD t undef = a0.tmps.getD t undef
  down : ∀ (i : Nat) (o : Oper), ops[i]? = some o → listed.getD i false = true → ∀ j, waits o j = true → listed.getD j false = true
/-- One operation. -/
def StepI (P : Program) (ops : Array Oper) (Post : Nat → Value → World → Prop) (Inv : Array Bool → Act → World → Prop) (a0 : Act) (Q : Exit → Act → World → Prop) (i : Nat) (o : Oper) : Prop :=
  ∀ a w listed, a.tmps.size = a0.tmps.size → listed.size = ops.size → listed.getD i false = false → (∀ j, waits o j = true → listed.getD j false = true) →
    (∀ (i : Nat) (o : Oper), ops[i]? = some o → listed.getD i false = true → ∀ j, waits o j = true → listed.getD j false = true) →
    (∀ (j : Nat) (oj : Oper) (d : Tmp), listed.getD j false = true → ops[j]? = some oj → oj.dst = some d → Post j (a.tmps.getD d undef) w) →
    (∀ t, (∀ (i : Nat) (o : Oper), ops[i]? = some o → o.dst ≠ some t) → a.tmps.getD t undef = a0.tmps.getD t undef) → Inv listed a w →
    ∀ K : Act → World → Prop, (∀ v w', (∀ (j : Nat) (oj : Oper) (d : Tmp), ops[j]? = some oj → listed.getD j false = true → oj.dst = some d → Post j (a.tmps.getD d undef) w → Post j (a.tmps.getD d undef) w') → Post i v w' → Inv (listed.setIfInBounds i true) (a.put o.dst v) w' → K (a.put o.dst v) w') →
      (Region.wanted o (yielded ops a.tmps) = true ∧ Oper.wp P o a w K Q) ∨ (Region.wanted o (yielded ops a.tmps) = false ∧ K (a.put o.dst undef) w)
section
variable {P : Program} {ops : Array Oper} {Post : Nat → Value → World → Prop} {Inv : Array Bool → Act → World → Prop} {a0 : Act} {Q : Exit → Act → World → Prop}
theorem DnI.step (hinj : ∀ (i j : Nat) (oi oj : Oper) (d : Tmp), ops[i]? = some oi → ops[j]? = some oj → oi.dst = some d → oj.dst = some d → i = j)
    {listed : Array Bool} {a : Act} {w w' : World} (h : DnI ops Post Inv a0 listed a w) {i : Nat} {o : Oper} (ho : ops[i]? = some o) (hlt : ∀ d, o.dst = some d → d < a0.tmps.size) (hwt : ∀ j, waits o j = true → listed.getD j false = true)
    {v : Value} (hpres : (∀ (j : Nat) (oj : Oper) (d : Tmp), ops[j]? = some oj → listed.getD j false = true → oj.dst = some d → Post j (a.tmps.getD d undef) w → Post j (a.tmps.getD d undef) w')) (hp : Post i v w') (hon : Inv (listed.setIfInBounds i true) (a.put o.dst v) w') : DnI ops Post Inv a0 (listed.setIfInBounds i true) (a.put o.dst v) w' := by
  have hi : i < listed.size := by
    rw [h.lsize]
    rcases Nat.lt_or_ge i ops.size with h | h
    · exact h
    · rw [Array.getElem?_eq_none h] at ho; cases ho
  have hdown : ∀ (k : Nat) (ok : Oper), ops[k]? = some ok → (listed.setIfInBounds i true).getD k false = true → ∀ j, waits ok j = true → (listed.setIfInBounds i true).getD j false = true := by
    intro k ok hk hl j hj
    rw [getD_set hi] at hl ⊢
    by_cases e2 : i = j
    · rw [if_pos e2]
    · rw [if_neg e2]
      by_cases e : i = k
      · subst e
        rw [ho] at hk
        cases hk
        exact hwt j hj
      · rw [if_neg e] at hl
        exact h.down k ok hk hl j hj
  cases hd : o.dst with
  | none =>
    rw [hd] at hon
    refine ⟨by simpa using h.lsize, h.size, h.defers, hon, fun j oj dj hj hl hdj => ?_, h.rest, hdown⟩
    rw [getD_set hi] at hl
    by_cases e : i = j
    · subst e
      rw [ho] at hj
      cases hj
      rw [hd] at hdj
      cases hdj
    · rw [if_neg e] at hl
      exact hpres j oj dj hj hl hdj (h.done j oj dj hj hl hdj)
  | some d =>
    rw [hd] at hon
    refine ⟨by simpa using h.lsize, by rw [put_size]; exact h.size, h.defers, hon, fun j oj dj hj hl hdj => ?_, fun t ht => ?_, hdown⟩
    · rw [getD_set hi] at hl
      by_cases e : i = j
      · subst e
        rw [ho] at hj
        cases hj
        rw [hd] at hdj
        cases hdj
        rw [put_same (by rw [h.size]; exact hlt _ hd)]
        exact hp
      · rw [if_neg e] at hl
        rw [put_other (by rintro rfl; exact e (hinj i j o oj d ho hj hd hdj))]
        exact hpres j oj dj hj hl hdj (h.done j oj dj hj hl hdj)
    · rw [put_other (by rintro rfl; exact ht i o ho hd)]
      exact h.rest t ht
theorem free_anyI (hlow : ∀ (i : Nat) (o : Oper), ops[i]? = some o → ∀ j, waits o j = true → j < i) (hdst : ∀ (i : Nat) (o : Oper), ops[i]? = some o → ∀ d, o.dst = some d → d < a0.tmps.size)
    (hinj : ∀ (i j : Nat) (oi oj : Oper) (d : Tmp), ops[i]? = some oi → ops[j]? = some oj → oi.dst = some d → oj.dst = some d → i = j)
    (hstep : ∀ (i : Nat) (o : Oper), ops[i]? = some o → StepI P ops Post Inv a0 Q i o)
    (hend : ∀ a w listed, a.tmps.size = a0.tmps.size → a.defers = a0.defers → listed.size = ops.size → (∀ i, i < ops.size → listed.getD i false = true) → Inv listed a w → (∀ (i : Nat) (o : Oper) (d : Tmp), ops[i]? = some o → o.dst = some d → Post i (a.tmps.getD d undef) w) →
      (∀ t, (∀ (i : Nat) (o : Oper), ops[i]? = some o → o.dst ≠ some t) → a.tmps.getD t undef = a0.tmps.getD t undef) → Q .normal a w) :
    ∀ fuel listed a w, DnI ops Post Inv a0 listed a w → cnt listed ops.size = fuel → wpAny P .any ops Q fuel listed a w := by
  have hlt : ∀ {i : Nat} {o : Oper}, ops[i]? = some o → i < ops.size := fun {i o} ho => by
    rcases Nat.lt_or_ge i ops.size with h | h
    · exact h
    · rw [Array.getElem?_eq_none h] at ho; cases ho
  have hall : ∀ {listed a w}, DnI ops Post Inv a0 listed a w → cnt listed ops.size = 0 → Q .normal a w := fun {listed a w} h h0 =>
    hend a w listed h.size h.defers h.lsize (cnt_zero h0) h.inv (fun i o d ho hd => h.done i o d ho (cnt_zero h0 i (hlt ho)) hd) h.rest
  intro fuel
  induction fuel with
  | zero =>
    intro listed a w h h0
    refine ⟨?_, hall h h0⟩
    unfold Region.ready
    rw [List.filter_eq_nil_iff]
    intro i hi
    have hi' : i < ops.size := List.mem_range.1 hi
    have := cnt_zero h0 i hi'
    have hls : i < listed.size := by rw [h.lsize]; exact hi'
    simp [hls] at this ⊢
    simp [this]
  | succ fuel ih =>
    intro listed a w h h0
    refine ⟨fun hr => ?_, fun i hi => ?_⟩
    · exfalso
      obtain ⟨i, hi, hf, hlow'⟩ := least (listed := listed) ops.size (by omega)
      have hmem : i ∈ Region.ready .any ops listed := by
        unfold Region.ready
        rw [List.mem_filter]
        refine ⟨List.mem_range.2 hi, ?_⟩
        have hls : i < listed.size := by rw [h.lsize]; exact hi
        have ho : ops[i]? = some ops[i] := by simp [hi]
        rw [ho]
        simp only [Array.getD_eq_getD_getElem?, hls, Array.getElem?_eq_getElem, Option.getD_some] at hf ⊢
        simp only [hf, Bool.not_false, Bool.true_and, Option.map_some, Option.getD_some]
        rw [Array.all_eq_true]
        intro k hk
        by_cases hb : Region.binds .any (ops[i].after[k]) = true
        · have hw : waits ops[i] (ops[i].after[k]).on = true := by
            unfold waits
            rw [Array.any_eq_true]
            exact ⟨k, hk, by simp [hb]⟩
          have := hlow' _ (hlow i _ ho _ hw)
          simp only [Array.getD_eq_getD_getElem?] at this
          simp [this]
        · simp [hb]
      rw [hr] at hmem
      cases hmem
    · unfold Region.ready at hi
      rw [List.mem_filter] at hi
      obtain ⟨hi1, hi2⟩ := hi
      have hi' : i < ops.size := List.mem_range.1 hi1
      have hls : i < listed.size := by rw [h.lsize]; exact hi'
      have ho : ops[i]? = some ops[i] := by simp [hi']
      rw [ho] at hi2
      simp only [Array.getD_eq_getD_getElem?, hls, Array.getElem?_eq_getElem, Option.getD_some, Option.map_some, Bool.and_eq_true, Array.all_eq_true] at hi2
      obtain ⟨hf, hdeps⟩ := hi2
      have hf' : listed.getD i false = false := by simpa [hls] using hf
      have hwt : ∀ j, waits ops[i] j = true → listed.getD j false = true := by
        intro j hw
        unfold waits at hw
        rw [Array.any_eq_true] at hw
        obtain ⟨k, hk, hb⟩ := hw
        simp only [Bool.and_eq_true, beq_iff_eq] at hb
        have := hdeps k hk
        rw [hb.1, hb.2] at this
        simpa using this
      refine wpOp_step ho fun K' hK => ?_
      have S := hstep i _ ho a w listed h.size h.lsize hf' hwt h.down (fun j oj dj hl hj hdj => h.done j oj dj hj hl hdj) h.rest h.inv K' (fun v w' hmw hp hon => hK _ _ (ih _ _ _ (h.step hinj ho (hdst i _ ho) hwt hmw hp hon) ?_))
      · rcases S with S | S
        · rw [if_pos S.1]; exact S.2
        · rw [if_neg (by rw [S.1]; decide)]; exact S.2
      · have := cnt_set hls hf' ops.size
        rw [if_pos hi'] at this
        omega
/-- A statement that draws its order, walked once. -/
theorem region_freeI {id : Nat} {w0 : World} (hm : P.follows .mixedOrders = true) (hlow : ∀ (i : Nat) (o : Oper), ops[i]? = some o → ∀ j, waits o j = true → j < i) (hdst : ∀ (i : Nat) (o : Oper), ops[i]? = some o → ∀ d, o.dst = some d → d < a0.tmps.size)
    (hinj : ∀ (i j : Nat) (oi oj : Oper) (d : Tmp), ops[i]? = some oi → ops[j]? = some oj → oi.dst = some d → oj.dst = some d → i = j)
    (hinv : Inv (Array.replicate ops.size false) a0 w0.drew) (hstep : ∀ (i : Nat) (o : Oper), ops[i]? = some o → StepI P ops Post Inv a0 Q i o)
    (hend : ∀ a w listed, a.tmps.size = a0.tmps.size → a.defers = a0.defers → listed.size = ops.size → (∀ i, i < ops.size → listed.getD i false = true) → Inv listed a w → (∀ (i : Nat) (o : Oper) (d : Tmp), ops[i]? = some o → o.dst = some d → Post i (a.tmps.getD d undef) w) →
      (∀ t, (∀ (i : Nat) (o : Oper), ops[i]? = some o → o.dst ≠ some t) → a.tmps.getD t undef = a0.tmps.getD t undef) → Q .normal a w) :
    (Code.region id ops true).wp P Q a0 w0 := by
  refine wp_region_any hm ?_
  have hrep : ∀ i, (Array.replicate ops.size false).getD i false = false := by
    intro i
    simp only [Array.getD_eq_getD_getElem?, Array.getElem?_replicate]
    split <;> rfl
  refine free_anyI hlow hdst hinj hstep hend _ _ _ _ ⟨by simp, rfl, rfl, hinv, fun i o d ho hl hd => ?_, fun t _ => rfl, fun i o ho hl => ?_⟩ (cnt_replicate _ _ (Nat.le_refl _))
  · rw [hrep] at hl; cases hl
  · rw [hrep] at hl; cases hl
end
theorem Is.stepI {P : Program} {ops : Array Oper} {Post : Nat → Value → World → Prop} {Inv : Array Bool → Act → World → Prop} {a0 : Act} {Q : Exit → Act → World → Prop} {i : Nat} {d : Option Tmp} {op : Op} {g : Option (Nat × Bool)} {ws : List Nat} (E : Is ops i d op g ws)
    (h : ∀ o, o.dst = d → o.op = op → o.guard = g → (∀ j ∈ ws, waits o j = true) → StepI P ops Post Inv a0 Q i o) : ∀ o, ops[i]? = some o → StepI P ops Post Inv a0 Q i o := by
  obtain ⟨o', h1, h2, h3, h4, h5⟩ := E.ex
  intro o ho
  rw [h1] at ho
  cases ho
  exact h o' h2 h3 h4 h5
theorem Is.postI {ops : Array Oper} {Post : Nat → Value → World → Prop} {listed : Array Bool} {a : Act} {w : World} {j : Nat} {d : Tmp} {op : Op} {g : Option (Nat × Bool)} {ws : List Nat} (E : Is ops j (some d) op g ws)
    (D : ∀ (j : Nat) (oj : Oper) (d : Tmp), listed.getD j false = true → ops[j]? = some oj → oj.dst = some d → Post j (a.tmps.getD d undef) w) (hl : listed.getD j false = true) : Post j (a.tmps.getD d undef) w := by
  obtain ⟨o', h1, h2, _⟩ := E.ex
  exact D j o' d hl h1 h2
end Go.Proofs.YthiijonmnebjgaaGreat
namespace Go.Proofs.YthiijonmnebjgaaGreat
open Go.RowKit
section
variable {o : Oper} {w : World} {ρ : Operand → Value} {x y z : Operand} {t : TypeId}
theorem rx_eql (ho : o.op = .binOp .eql 3 x y 3) {c d : Int} (hx : ρ x = .int .i64 c) (hy : ρ y = .int .i64 d) : (execOp ρ o).run Tryz.prog w = .ok (.value (.bool (c == d))) w := by
  simp [execOp, ho, hx, hy, go_sem]
theorem rx_neq (ho : o.op = .binOp .neq 3 x y 3) {c d : Int} (hx : ρ x = .int .i64 c) (hy : ρ y = .int .i64 d) : (execOp ρ o).run Tryz.prog w = .ok (.value (.bool (c != d))) w := by
  simp [execOp, ho, hx, hy, go_sem]
theorem rx_neqT {t : TypeId} (ho : o.op = .binOp .neq t x y t) {c d : Int} (hx : ρ x = .int .i64 c) (hy : ρ y = .int .i64 d) : (execOp ρ o).run Tryz.prog w = .ok (.value (.bool (c != d))) w := by
  simp [execOp, ho, hx, hy, go_sem]
theorem rx_eqlT {t : TypeId} (ho : o.op = .binOp .eql t x y t) {c d : Int} (hx : ρ x = .int .i64 c) (hy : ρ y = .int .i64 d) : (execOp ρ o).run Tryz.prog w = .ok (.value (.bool (c == d))) w := by
  simp [execOp, ho, hx, hy, go_sem]
theorem rx_neqB (ho : o.op = .binOp .neq 4 x y 4) {c d : Bool} (hx : ρ x = .bool c) (hy : ρ y = .bool d) : (execOp ρ o).run Tryz.prog w = .ok (.value (.bool (c != d))) w := by
  cases c <;> cases d <;> simp [execOp, ho, hx, hy, go_sem]
theorem rx_lss (ho : o.op = .binOp .lss 3 x y 3) {c d : Int} (hx : ρ x = .int .i64 c) (hy : ρ y = .int .i64 d) : (execOp ρ o).run Tryz.prog w = .ok (.value (.bool (decide (c < d)))) w := by
  simp [execOp, ho, hx, hy, go_sem]
theorem rx_leq (ho : o.op = .binOp .leq 3 x y 3) {c d : Int} (hx : ρ x = .int .i64 c) (hy : ρ y = .int .i64 d) : (execOp ρ o).run Tryz.prog w = .ok (.value (.bool (decide (c ≤ d)))) w := by
  simp [execOp, ho, hx, hy, go_sem]
theorem rx_gtr (ho : o.op = .binOp .gtr 3 x y 3) {c d : Int} (hx : ρ x = .int .i64 c) (hy : ρ y = .int .i64 d) : (execOp ρ o).run Tryz.prog w = .ok (.value (.bool (decide (d < c)))) w := by
  simp [execOp, ho, hx, hy, go_sem]
theorem rx_add (ho : o.op = .binOp .add 3 x y 3) {c d : Int} (hx : ρ x = .int .i64 c) (hy : ρ y = .int .i64 d) : (execOp ρ o).run Tryz.prog w = .ok (.value (.int .i64 (IntKind.i64.wrap (c + d)))) w := by
  simp [execOp, ho, hx, hy, go_sem]
theorem rx_sub (ho : o.op = .binOp .sub 3 x y 3) {c d : Int} (hx : ρ x = .int .i64 c) (hy : ρ y = .int .i64 d) : (execOp ρ o).run Tryz.prog w = .ok (.value (.int .i64 (IntKind.i64.wrap (c - d)))) w := by
  simp [execOp, ho, hx, hy, go_sem]
theorem rx_mul (ho : o.op = .binOp .mul 3 x y 3) {c d : Int} (hx : ρ x = .int .i64 c) (hy : ρ y = .int .i64 d) : (execOp ρ o).run Tryz.prog w = .ok (.value (.int .i64 (IntKind.i64.wrap (c * d)))) w := by
  simp [execOp, ho, hx, hy, go_sem]
theorem rx_rem (ho : o.op = .binOp .rem 3 x y 3) {c d : Int} (hx : ρ x = .int .i64 c) (hy : ρ y = .int .i64 d) (hd : d ≠ 0) : (execOp ρ o).run Tryz.prog w = .ok (.value (.int .i64 (c.tmod d))) w := by
  simp [execOp, ho, hx, hy, hd, go_sem]
theorem rx_assign (ho : o.op = .assign x) {v : Value} (hx : ρ x = v) : (execOp ρ o).run Tryz.prog w = .ok (.value v) w := by simp [execOp, ho, hx]
theorem rx_extract {i : Nat} {u : Array Value} {v : Value} (ho : o.op = .extract x i) (hx : ρ x = .tuple u) (hu : u[i]? = some v) : (execOp ρ o).run Tryz.prog w = .ok (.value v) w := by
  simp [execOp, ho, hx, hu, go_sem]
theorem rx_build {parts : Array (Nat × Operand)} (ho : o.op = .build t parts) {cells : Array Value} (h : Tryz.prog.built t (parts.map fun (i, x) => (i, ρ x)).toList = some cells) : (execOp ρ o).run Tryz.prog w = .ok (.value (.agg cells)) w := by
  simp only [execOp, ho, Sem.run_bind, run_build w t _ cells h, Result.andThen_ok]
  rfl
theorem rx_call3 {f : FuncId} (hcf : ∀ args w, (callFunc f args).run Tryz.prog w = .ok (.enter f args) w) (hf : ρ (.func f) = .func (.func f) #[] #[]) {ts : Array TypeId} (ho : o.op = .call { callee := .value (.func f), args := #[x, y, z], argTypes := ts }) : (execOp ρ o).run Tryz.prog w = .ok (.enter f #[ρ x, ρ y, ρ z]) w := by
  simp [execOp, ho, resolve, invoke, hf, go_sem, hcf]
/-- A guard that was met, or not. -/
theorem wanted_if {ops : Array Oper} {a : Act} {o : Oper} {j : Nat} {g : Bool} {d : Tmp} {op : Op} {gg : Option (Nat × Bool)} {ws : List Nat} (E : Is ops j (some d) op gg ws) (h : o.guard = some (j, g)) (hlt : d < a.tmps.size) {c C : Bool} (hv : a.tmps.getD d undef = if C = true then .bool c else undef) : Region.wanted o (yielded ops a.tmps) = (C && (c == g)) := by
  cases C
  · exact wanted_none' E h hlt hv
  · obtain ⟨o', h1, h2, _⟩ := E.ex
    exact wanted_at h h1 h2 hlt hv
theorem wanted_b {ops : Array Oper} {a : Act} {o : Oper} {j : Nat} {g : Bool} {d : Tmp} {op : Op} {gg : Option (Nat × Bool)} {ws : List Nat} (E : Is ops j (some d) op gg ws) (h : o.guard = some (j, g)) (hlt : d < a.tmps.size) {c : Bool} (hv : a.tmps.getD d undef = .bool c) : Region.wanted o (yielded ops a.tmps) = (c == g) := by
  obtain ⟨o', h1, h2, _⟩ := E.ex
  exact wanted_at h h1 h2 hlt hv
end
end Go.Proofs.YthiijonmnebjgaaGreat
namespace Go.Proofs.YthiijonmnebjgaaGreat
open Go.RowKit
def bad3 : Dt := { onR 2 1 3 with m := { (onR 2 1 3).m with origin := 0 } }
def again4 : Dt := { onR 2 1 4 with m := { (onR 2 1 4).m with kind := 5 } }
def mold0 : Ms := ⟨5, 0, 0, 0, 0, 0, 0, false, 0, 0, 0, 0, []⟩
theorem Dts.lit (w : World) (es : List (Dt × Value)) (cells : Array Value) (hc : cells.toList = fd es) (n : Nat) (hn : n = es.length) (hl : es.length ≤ maxLen) (he : ∀ e ∈ es, Sl w e.2 e.1.m.body ∧ e.1.m.body.length ≤ 140737488355328) : Dts (w.alloc (.cells cells 45)) (.slice (some ⟨w.heap.size, 0, none⟩) n n) es := by
  subst hn
  have hB := Bk.new w cells 45
  refine ⟨⟨_, _, rfl, hl, fun _ => ⟨_, _, rfl, fun i e hi => hB.range _ _ fun j c hj => ?_⟩⟩, fun e h => ⟨(he e h).1.mod ((Mod.refl (fun _ => False) w).alloc _) (fun _ _ h => h), (he e h).2⟩⟩
  have := fd_get es i e hi j c hj
  rw [← hc] at this
  rw [Nat.zero_add]
  simpa using this
theorem Dts.nil0 (w : World) : Dts w (.slice none 0 0) [] := ⟨⟨none, 0, rfl, by simp [maxLen], fun h => absurd rfl h⟩, by simp⟩
theorem Mss.lit (w : World) (es : List (Ms × Value)) (cells : Array Value) (hc : cells.toList = fm es) (n : Nat) (hn : n = es.length) (hl : es.length ≤ maxLen) (he : ∀ e ∈ es, Sl w e.2 e.1.body ∧ e.1.body.length ≤ 140737488355328 ∧ I64 e.1.sq) : Mss (w.alloc (.cells cells 43)) (.slice (some ⟨w.heap.size, 0, none⟩) n n) es := by
  subst hn
  have hB := Bk.new w cells 43
  refine ⟨⟨_, _, rfl, hl, fun _ => ⟨_, _, rfl, fun i e hi => hB.range _ _ fun j c hj => ?_⟩⟩, fun e h => ⟨(he e h).1.mod ((Mod.refl (fun _ => False) w).alloc _) (fun _ _ h => h), (he e h).2⟩⟩
  have := fm_get es i e hi j c hj
  rw [← hc] at this
  rw [Nat.zero_add]
  simpa using this
theorem run_bslice (w : World) (t et : TypeId) (n sz : Nat) (parts : Array (Nat × Value)) (cells : Array Value) (z : Value) (hu : Tryz.prog.underlying t = some (.slice et)) (hi : (Tryz.prog.info? et).map (fun i => (i.zero, i.size)) = some (some z, sz)) (hl : ¬ n * sz > 2 ^ 24) (h0 : ¬ n * sz = 0)
    (h : Instr.fill (fun i => some (i * sz, sz)) ((Array.range (n * sz)).map (z.cells[· % z.cells.size]!)) parts.toList = some cells) : (Instr.buildSlice t n parts).run Tryz.prog w = .ok (.slice (some ⟨w.heap.size, 0, none⟩) n n) (w.alloc (.cells cells et)) := by
  cases hie : Tryz.prog.info? et with
  | none => simp [hie] at hi
  | some ie =>
    simp [hie] at hi
    obtain ⟨h1, h2⟩ := hi
    simp [Instr.buildSlice, run_underlying hu, sizeOf, typeInfo, zeroValue, hie, h1, h2, hl, h0, h, newRow]
theorem ox_bslice {o : Oper} {w : World} {ρ : Operand → Value} {t : TypeId} {n : Nat} {parts : Array (Nat × Operand)} (ho : o.op = .buildSlice t n parts) {v : Value} {w' : World} (h : (Instr.buildSlice t n (parts.map fun (i, x) => (i, ρ x))).run Tryz.prog w = .ok v w') : (execOp ρ o).run Tryz.prog w = .ok (.value v) w' := by
  simp only [execOp, ho, Sem.run_bind, h, Result.andThen_ok]
  rfl
theorem infoB18 : (Tryz.prog.info? 45).map (fun i => (i.zero, i.size)) = some (some (.agg #[.int .i64 0, .int .i64 0, .int .i64 0, .int .i64 0, .int .i64 0, .int .i64 0, .int .i64 0, .int .i64 0, .int .i64 0, .int .i64 0, .int .i64 0, .int .i64 0, .bool false, .int .i64 0, .int .i64 0, .int .i64 0, .int .i64 0, .slice none 0 0]), 18) := by kernel_rfl
theorem infoB13 : (Tryz.prog.info? 43).map (fun i => (i.zero, i.size)) = some (some (.agg #[.int .i64 0, .int .i64 0, .int .i64 0, .int .i64 0, .int .i64 0, .int .i64 0, .int .i64 0, .bool false, .int .i64 0, .int .i64 0, .int .i64 0, .int .i64 0, .slice none 0 0]), 13) := by kernel_rfl
theorem fillD5 (a1 a2 a9 a3 a4 : Option Addr) (c1 c2 c9 c3 c4 : Nat) : Instr.fill (fun i => some (i * 18, 18)) ((Array.range (5 * 18)).map ((Value.agg #[.int .i64 0, .int .i64 0, .int .i64 0, .int .i64 0, .int .i64 0, .int .i64 0, .int .i64 0, .int .i64 0, .int .i64 0, .int .i64 0, .int .i64 0, .int .i64 0, .bool false, .int .i64 0, .int .i64 0, .int .i64 0, .int .i64 0, .slice none 0 0]).cells[· % (Value.agg #[.int .i64 0, .int .i64 0, .int .i64 0, .int .i64 0, .int .i64 0, .int .i64 0, .int .i64 0, .int .i64 0, .int .i64 0, .int .i64 0, .int .i64 0, .int .i64 0, .bool false, .int .i64 0, .int .i64 0, .int .i64 0, .int .i64 0, .slice none 0 0]).cells.size]!)) [(0, .agg #[.int .i64 (onR 2 1 1).q, .int .i64 (onR 2 1 1).r, .int .i64 (onR 2 1 1).n, .int .i64 (onR 2 1 1).s, .int .i64 (onR 2 1 1).t, .int .i64 (onR 2 1 1).m.kind, .int .i64 (onR 2 1 1).m.origin, .int .i64 (onR 2 1 1).m.life, .int .i64 (onR 2 1 1).m.id, .int .i64 (onR 2 1 1).m.part, .int .i64 (onR 2 1 1).m.parts, .int .i64 (onR 2 1 1).m.groups, .bool (onR 2 1 1).m.safe, .int .i64 (onR 2 1 1).m.st, .int .i64 (onR 2 1 1).m.rs, .int .i64 (onR 2 1 1).m.rr, .int .i64 (onR 2 1 1).m.sq, .slice a1 1 c1]), (1, .agg #[.int .i64 (onR 2 1 3).q, .int .i64 (onR 2 1 3).r, .int .i64 (onR 2 1 3).n, .int .i64 (onR 2 1 3).s, .int .i64 (onR 2 1 3).t, .int .i64 (onR 2 1 3).m.kind, .int .i64 0, .int .i64 (onR 2 1 3).m.life, .int .i64 (onR 2 1 3).m.id, .int .i64 (onR 2 1 3).m.part, .int .i64 (onR 2 1 3).m.parts, .int .i64 (onR 2 1 3).m.groups, .bool (onR 2 1 3).m.safe, .int .i64 (onR 2 1 3).m.st, .int .i64 (onR 2 1 3).m.rs, .int .i64 (onR 2 1 3).m.rr, .int .i64 (onR 2 1 3).m.sq, .slice a3 1 c3]), (2, .agg #[.int .i64 (onR 2 1 2).q, .int .i64 (onR 2 1 2).r, .int .i64 (onR 2 1 2).n, .int .i64 (onR 2 1 2).s, .int .i64 (onR 2 1 2).t, .int .i64 (onR 2 1 2).m.kind, .int .i64 (onR 2 1 2).m.origin, .int .i64 (onR 2 1 2).m.life, .int .i64 (onR 2 1 2).m.id, .int .i64 (onR 2 1 2).m.part, .int .i64 (onR 2 1 2).m.parts, .int .i64 (onR 2 1 2).m.groups, .bool (onR 2 1 2).m.safe, .int .i64 (onR 2 1 2).m.st, .int .i64 (onR 2 1 2).m.rs, .int .i64 (onR 2 1 2).m.rr, .int .i64 (onR 2 1 2).m.sq, .slice a2 1 c2]), (3, .agg #[.int .i64 (onR 2 1 4).q, .int .i64 (onR 2 1 4).r, .int .i64 (onR 2 1 4).n, .int .i64 (onR 2 1 4).s, .int .i64 (onR 2 1 4).t, .int .i64 5, .int .i64 (onR 2 1 4).m.origin, .int .i64 (onR 2 1 4).m.life, .int .i64 (onR 2 1 4).m.id, .int .i64 (onR 2 1 4).m.part, .int .i64 (onR 2 1 4).m.parts, .int .i64 (onR 2 1 4).m.groups, .bool (onR 2 1 4).m.safe, .int .i64 (onR 2 1 4).m.st, .int .i64 (onR 2 1 4).m.rs, .int .i64 (onR 2 1 4).m.rr, .int .i64 (onR 2 1 4).m.sq, .slice a4 1 c4]), (4, .agg #[.int .i64 (onR 2 1 9).q, .int .i64 (onR 2 1 9).r, .int .i64 (onR 2 1 9).n, .int .i64 (onR 2 1 9).s, .int .i64 (onR 2 1 9).t, .int .i64 (onR 2 1 9).m.kind, .int .i64 (onR 2 1 9).m.origin, .int .i64 (onR 2 1 9).m.life, .int .i64 (onR 2 1 9).m.id, .int .i64 (onR 2 1 9).m.part, .int .i64 (onR 2 1 9).m.parts, .int .i64 (onR 2 1 9).m.groups, .bool (onR 2 1 9).m.safe, .int .i64 (onR 2 1 9).m.st, .int .i64 (onR 2 1 9).m.rs, .int .i64 (onR 2 1 9).m.rr, .int .i64 (onR 2 1 9).m.sq, .slice a9 1 c9])] = some #[.int .i64 (onR 2 1 1).q, .int .i64 (onR 2 1 1).r, .int .i64 (onR 2 1 1).n, .int .i64 (onR 2 1 1).s, .int .i64 (onR 2 1 1).t, .int .i64 (onR 2 1 1).m.kind, .int .i64 (onR 2 1 1).m.origin, .int .i64 (onR 2 1 1).m.life, .int .i64 (onR 2 1 1).m.id, .int .i64 (onR 2 1 1).m.part, .int .i64 (onR 2 1 1).m.parts, .int .i64 (onR 2 1 1).m.groups, .bool (onR 2 1 1).m.safe, .int .i64 (onR 2 1 1).m.st, .int .i64 (onR 2 1 1).m.rs, .int .i64 (onR 2 1 1).m.rr, .int .i64 (onR 2 1 1).m.sq, .slice a1 1 c1, .int .i64 (onR 2 1 3).q, .int .i64 (onR 2 1 3).r, .int .i64 (onR 2 1 3).n, .int .i64 (onR 2 1 3).s, .int .i64 (onR 2 1 3).t, .int .i64 (onR 2 1 3).m.kind, .int .i64 0, .int .i64 (onR 2 1 3).m.life, .int .i64 (onR 2 1 3).m.id, .int .i64 (onR 2 1 3).m.part, .int .i64 (onR 2 1 3).m.parts, .int .i64 (onR 2 1 3).m.groups, .bool (onR 2 1 3).m.safe, .int .i64 (onR 2 1 3).m.st, .int .i64 (onR 2 1 3).m.rs, .int .i64 (onR 2 1 3).m.rr, .int .i64 (onR 2 1 3).m.sq, .slice a3 1 c3, .int .i64 (onR 2 1 2).q, .int .i64 (onR 2 1 2).r, .int .i64 (onR 2 1 2).n, .int .i64 (onR 2 1 2).s, .int .i64 (onR 2 1 2).t, .int .i64 (onR 2 1 2).m.kind, .int .i64 (onR 2 1 2).m.origin, .int .i64 (onR 2 1 2).m.life, .int .i64 (onR 2 1 2).m.id, .int .i64 (onR 2 1 2).m.part, .int .i64 (onR 2 1 2).m.parts, .int .i64 (onR 2 1 2).m.groups, .bool (onR 2 1 2).m.safe, .int .i64 (onR 2 1 2).m.st, .int .i64 (onR 2 1 2).m.rs, .int .i64 (onR 2 1 2).m.rr, .int .i64 (onR 2 1 2).m.sq, .slice a2 1 c2, .int .i64 (onR 2 1 4).q, .int .i64 (onR 2 1 4).r, .int .i64 (onR 2 1 4).n, .int .i64 (onR 2 1 4).s, .int .i64 (onR 2 1 4).t, .int .i64 5, .int .i64 (onR 2 1 4).m.origin, .int .i64 (onR 2 1 4).m.life, .int .i64 (onR 2 1 4).m.id, .int .i64 (onR 2 1 4).m.part, .int .i64 (onR 2 1 4).m.parts, .int .i64 (onR 2 1 4).m.groups, .bool (onR 2 1 4).m.safe, .int .i64 (onR 2 1 4).m.st, .int .i64 (onR 2 1 4).m.rs, .int .i64 (onR 2 1 4).m.rr, .int .i64 (onR 2 1 4).m.sq, .slice a4 1 c4, .int .i64 (onR 2 1 9).q, .int .i64 (onR 2 1 9).r, .int .i64 (onR 2 1 9).n, .int .i64 (onR 2 1 9).s, .int .i64 (onR 2 1 9).t, .int .i64 (onR 2 1 9).m.kind, .int .i64 (onR 2 1 9).m.origin, .int .i64 (onR 2 1 9).m.life, .int .i64 (onR 2 1 9).m.id, .int .i64 (onR 2 1 9).m.part, .int .i64 (onR 2 1 9).m.parts, .int .i64 (onR 2 1 9).m.groups, .bool (onR 2 1 9).m.safe, .int .i64 (onR 2 1 9).m.st, .int .i64 (onR 2 1 9).m.rs, .int .i64 (onR 2 1 9).m.rr, .int .i64 (onR 2 1 9).m.sq, .slice a9 1 c9] := by kernel_rfl
theorem fillD1 (a1 : Option Addr) (c1 : Nat) : Instr.fill (fun i => some (i * 18, 18)) ((Array.range (1 * 18)).map ((Value.agg #[.int .i64 0, .int .i64 0, .int .i64 0, .int .i64 0, .int .i64 0, .int .i64 0, .int .i64 0, .int .i64 0, .int .i64 0, .int .i64 0, .int .i64 0, .int .i64 0, .bool false, .int .i64 0, .int .i64 0, .int .i64 0, .int .i64 0, .slice none 0 0]).cells[· % (Value.agg #[.int .i64 0, .int .i64 0, .int .i64 0, .int .i64 0, .int .i64 0, .int .i64 0, .int .i64 0, .int .i64 0, .int .i64 0, .int .i64 0, .int .i64 0, .int .i64 0, .bool false, .int .i64 0, .int .i64 0, .int .i64 0, .int .i64 0, .slice none 0 0]).cells.size]!)) [(0, .agg #[.int .i64 (onR 2 1 1).q, .int .i64 (onR 2 1 1).r, .int .i64 (onR 2 1 1).n, .int .i64 (onR 2 1 1).s, .int .i64 (onR 2 1 1).t, .int .i64 (onR 2 1 1).m.kind, .int .i64 (onR 2 1 1).m.origin, .int .i64 (onR 2 1 1).m.life, .int .i64 (onR 2 1 1).m.id, .int .i64 (onR 2 1 1).m.part, .int .i64 (onR 2 1 1).m.parts, .int .i64 (onR 2 1 1).m.groups, .bool (onR 2 1 1).m.safe, .int .i64 (onR 2 1 1).m.st, .int .i64 (onR 2 1 1).m.rs, .int .i64 (onR 2 1 1).m.rr, .int .i64 (onR 2 1 1).m.sq, .slice a1 1 c1])] = some #[.int .i64 (onR 2 1 1).q, .int .i64 (onR 2 1 1).r, .int .i64 (onR 2 1 1).n, .int .i64 (onR 2 1 1).s, .int .i64 (onR 2 1 1).t, .int .i64 (onR 2 1 1).m.kind, .int .i64 (onR 2 1 1).m.origin, .int .i64 (onR 2 1 1).m.life, .int .i64 (onR 2 1 1).m.id, .int .i64 (onR 2 1 1).m.part, .int .i64 (onR 2 1 1).m.parts, .int .i64 (onR 2 1 1).m.groups, .bool (onR 2 1 1).m.safe, .int .i64 (onR 2 1 1).m.st, .int .i64 (onR 2 1 1).m.rs, .int .i64 (onR 2 1 1).m.rr, .int .i64 (onR 2 1 1).m.sq, .slice a1 1 c1] := by kernel_rfl
theorem fillM2 : Instr.fill (fun i => some (i * 13, 13)) ((Array.range (2 * 13)).map ((Value.agg #[.int .i64 0, .int .i64 0, .int .i64 0, .int .i64 0, .int .i64 0, .int .i64 0, .int .i64 0, .bool false, .int .i64 0, .int .i64 0, .int .i64 0, .int .i64 0, .slice none 0 0]).cells[· % (Value.agg #[.int .i64 0, .int .i64 0, .int .i64 0, .int .i64 0, .int .i64 0, .int .i64 0, .int .i64 0, .bool false, .int .i64 0, .int .i64 0, .int .i64 0, .int .i64 0, .slice none 0 0]).cells.size]!)) [(0, .agg #[.int .i64 0, .int .i64 0, .int .i64 0, .int .i64 0, .int .i64 0, .int .i64 0, .int .i64 0, .bool false, .int .i64 0, .int .i64 0, .int .i64 0, .int .i64 0, .slice none 0 0]), (1, .agg #[.int .i64 5, .int .i64 0, .int .i64 0, .int .i64 0, .int .i64 0, .int .i64 0, .int .i64 0, .bool false, .int .i64 0, .int .i64 0, .int .i64 0, .int .i64 0, .slice none 0 0])] = some #[.int .i64 0, .int .i64 0, .int .i64 0, .int .i64 0, .int .i64 0, .int .i64 0, .int .i64 0, .bool false, .int .i64 0, .int .i64 0, .int .i64 0, .int .i64 0, .slice none 0 0, .int .i64 5, .int .i64 0, .int .i64 0, .int .i64 0, .int .i64 0, .int .i64 0, .int .i64 0, .bool false, .int .i64 0, .int .i64 0, .int .i64 0, .int .i64 0, .slice none 0 0] := by kernel_rfl
theorem one_rng (k : Int) (h : 1 ≤ k ∧ k ≤ 100) : ∀ c ∈ [k], 0 ≤ c ∧ c ≤ 255 := fun c hc => by simp at hc; omega
theorem oneA (k : Int) (W : World) (h : 1 ≤ k ∧ k ≤ 100) : Calls Tryz.prog 28 #[.int .i64 k] W fun e w' => ∃ a c, e = .returned (.agg #[.int .i64 (onR 2 1 k).q, .int .i64 (onR 2 1 k).r, .int .i64 (onR 2 1 k).n, .int .i64 (onR 2 1 k).s, .int .i64 (onR 2 1 k).t, .int .i64 (onR 2 1 k).m.kind, .int .i64 (onR 2 1 k).m.origin, .int .i64 (onR 2 1 k).m.life, .int .i64 (onR 2 1 k).m.id, .int .i64 (onR 2 1 k).m.part, .int .i64 (onR 2 1 k).m.parts, .int .i64 (onR 2 1 k).m.groups, .bool (onR 2 1 k).m.safe, .int .i64 (onR 2 1 k).m.st, .int .i64 (onR 2 1 k).m.rs, .int .i64 (onR 2 1 k).m.rr, .int .i64 (onR 2 1 k).m.sq, .slice a 1 c]) ∧ Own w' (.slice a 1 c) [k] ∧ Mod (fun _ => False) W w' := by
  have g := one_any k W h
  unfold dv on20 at g
  refine g.mono ?_
  rintro e w' ⟨v, h1, h2, _, h4⟩
  obtain ⟨a, c, rfl⟩ := h2.shape
  exact ⟨a, c, h1, h2, h4⟩
theorem dts5 {W : World} {a1 a2 a9 a3 a4 : Option Addr} {c1 c2 c9 c3 c4 : Nat} (h1 : Own W (.slice a1 1 c1) [1]) (h3 : Own W (.slice a3 1 c3) [3]) (h2 : Own W (.slice a2 1 c2) [2]) (h4 : Own W (.slice a4 1 c4) [4]) (h9 : Own W (.slice a9 1 c9) [9]) : Dts (W.alloc (.cells #[.int .i64 (onR 2 1 1).q, .int .i64 (onR 2 1 1).r, .int .i64 (onR 2 1 1).n, .int .i64 (onR 2 1 1).s, .int .i64 (onR 2 1 1).t, .int .i64 (onR 2 1 1).m.kind, .int .i64 (onR 2 1 1).m.origin, .int .i64 (onR 2 1 1).m.life, .int .i64 (onR 2 1 1).m.id, .int .i64 (onR 2 1 1).m.part, .int .i64 (onR 2 1 1).m.parts, .int .i64 (onR 2 1 1).m.groups, .bool (onR 2 1 1).m.safe, .int .i64 (onR 2 1 1).m.st, .int .i64 (onR 2 1 1).m.rs, .int .i64 (onR 2 1 1).m.rr, .int .i64 (onR 2 1 1).m.sq, .slice a1 1 c1, .int .i64 (onR 2 1 3).q, .int .i64 (onR 2 1 3).r, .int .i64 (onR 2 1 3).n, .int .i64 (onR 2 1 3).s, .int .i64 (onR 2 1 3).t, .int .i64 (onR 2 1 3).m.kind, .int .i64 0, .int .i64 (onR 2 1 3).m.life, .int .i64 (onR 2 1 3).m.id, .int .i64 (onR 2 1 3).m.part, .int .i64 (onR 2 1 3).m.parts, .int .i64 (onR 2 1 3).m.groups, .bool (onR 2 1 3).m.safe, .int .i64 (onR 2 1 3).m.st, .int .i64 (onR 2 1 3).m.rs, .int .i64 (onR 2 1 3).m.rr, .int .i64 (onR 2 1 3).m.sq, .slice a3 1 c3, .int .i64 (onR 2 1 2).q, .int .i64 (onR 2 1 2).r, .int .i64 (onR 2 1 2).n, .int .i64 (onR 2 1 2).s, .int .i64 (onR 2 1 2).t, .int .i64 (onR 2 1 2).m.kind, .int .i64 (onR 2 1 2).m.origin, .int .i64 (onR 2 1 2).m.life, .int .i64 (onR 2 1 2).m.id, .int .i64 (onR 2 1 2).m.part, .int .i64 (onR 2 1 2).m.parts, .int .i64 (onR 2 1 2).m.groups, .bool (onR 2 1 2).m.safe, .int .i64 (onR 2 1 2).m.st, .int .i64 (onR 2 1 2).m.rs, .int .i64 (onR 2 1 2).m.rr, .int .i64 (onR 2 1 2).m.sq, .slice a2 1 c2, .int .i64 (onR 2 1 4).q, .int .i64 (onR 2 1 4).r, .int .i64 (onR 2 1 4).n, .int .i64 (onR 2 1 4).s, .int .i64 (onR 2 1 4).t, .int .i64 5, .int .i64 (onR 2 1 4).m.origin, .int .i64 (onR 2 1 4).m.life, .int .i64 (onR 2 1 4).m.id, .int .i64 (onR 2 1 4).m.part, .int .i64 (onR 2 1 4).m.parts, .int .i64 (onR 2 1 4).m.groups, .bool (onR 2 1 4).m.safe, .int .i64 (onR 2 1 4).m.st, .int .i64 (onR 2 1 4).m.rs, .int .i64 (onR 2 1 4).m.rr, .int .i64 (onR 2 1 4).m.sq, .slice a4 1 c4, .int .i64 (onR 2 1 9).q, .int .i64 (onR 2 1 9).r, .int .i64 (onR 2 1 9).n, .int .i64 (onR 2 1 9).s, .int .i64 (onR 2 1 9).t, .int .i64 (onR 2 1 9).m.kind, .int .i64 (onR 2 1 9).m.origin, .int .i64 (onR 2 1 9).m.life, .int .i64 (onR 2 1 9).m.id, .int .i64 (onR 2 1 9).m.part, .int .i64 (onR 2 1 9).m.parts, .int .i64 (onR 2 1 9).m.groups, .bool (onR 2 1 9).m.safe, .int .i64 (onR 2 1 9).m.st, .int .i64 (onR 2 1 9).m.rs, .int .i64 (onR 2 1 9).m.rr, .int .i64 (onR 2 1 9).m.sq, .slice a9 1 c9] 45)) (.slice (some ⟨W.heap.size, 0, none⟩) 5 5) [(onR 2 1 1, .slice a1 1 c1), (bad3, .slice a3 1 c3), (onR 2 1 2, .slice a2 1 c2), (again4, .slice a4 1 c4), (onR 2 1 9, .slice a9 1 c9)] :=
  Dts.lit W [(onR 2 1 1, .slice a1 1 c1), (bad3, .slice a3 1 c3), (onR 2 1 2, .slice a2 1 c2), (again4, .slice a4 1 c4), (onR 2 1 9, .slice a9 1 c9)] #[.int .i64 (onR 2 1 1).q, .int .i64 (onR 2 1 1).r, .int .i64 (onR 2 1 1).n, .int .i64 (onR 2 1 1).s, .int .i64 (onR 2 1 1).t, .int .i64 (onR 2 1 1).m.kind, .int .i64 (onR 2 1 1).m.origin, .int .i64 (onR 2 1 1).m.life, .int .i64 (onR 2 1 1).m.id, .int .i64 (onR 2 1 1).m.part, .int .i64 (onR 2 1 1).m.parts, .int .i64 (onR 2 1 1).m.groups, .bool (onR 2 1 1).m.safe, .int .i64 (onR 2 1 1).m.st, .int .i64 (onR 2 1 1).m.rs, .int .i64 (onR 2 1 1).m.rr, .int .i64 (onR 2 1 1).m.sq, .slice a1 1 c1, .int .i64 (onR 2 1 3).q, .int .i64 (onR 2 1 3).r, .int .i64 (onR 2 1 3).n, .int .i64 (onR 2 1 3).s, .int .i64 (onR 2 1 3).t, .int .i64 (onR 2 1 3).m.kind, .int .i64 0, .int .i64 (onR 2 1 3).m.life, .int .i64 (onR 2 1 3).m.id, .int .i64 (onR 2 1 3).m.part, .int .i64 (onR 2 1 3).m.parts, .int .i64 (onR 2 1 3).m.groups, .bool (onR 2 1 3).m.safe, .int .i64 (onR 2 1 3).m.st, .int .i64 (onR 2 1 3).m.rs, .int .i64 (onR 2 1 3).m.rr, .int .i64 (onR 2 1 3).m.sq, .slice a3 1 c3, .int .i64 (onR 2 1 2).q, .int .i64 (onR 2 1 2).r, .int .i64 (onR 2 1 2).n, .int .i64 (onR 2 1 2).s, .int .i64 (onR 2 1 2).t, .int .i64 (onR 2 1 2).m.kind, .int .i64 (onR 2 1 2).m.origin, .int .i64 (onR 2 1 2).m.life, .int .i64 (onR 2 1 2).m.id, .int .i64 (onR 2 1 2).m.part, .int .i64 (onR 2 1 2).m.parts, .int .i64 (onR 2 1 2).m.groups, .bool (onR 2 1 2).m.safe, .int .i64 (onR 2 1 2).m.st, .int .i64 (onR 2 1 2).m.rs, .int .i64 (onR 2 1 2).m.rr, .int .i64 (onR 2 1 2).m.sq, .slice a2 1 c2, .int .i64 (onR 2 1 4).q, .int .i64 (onR 2 1 4).r, .int .i64 (onR 2 1 4).n, .int .i64 (onR 2 1 4).s, .int .i64 (onR 2 1 4).t, .int .i64 5, .int .i64 (onR 2 1 4).m.origin, .int .i64 (onR 2 1 4).m.life, .int .i64 (onR 2 1 4).m.id, .int .i64 (onR 2 1 4).m.part, .int .i64 (onR 2 1 4).m.parts, .int .i64 (onR 2 1 4).m.groups, .bool (onR 2 1 4).m.safe, .int .i64 (onR 2 1 4).m.st, .int .i64 (onR 2 1 4).m.rs, .int .i64 (onR 2 1 4).m.rr, .int .i64 (onR 2 1 4).m.sq, .slice a4 1 c4, .int .i64 (onR 2 1 9).q, .int .i64 (onR 2 1 9).r, .int .i64 (onR 2 1 9).n, .int .i64 (onR 2 1 9).s, .int .i64 (onR 2 1 9).t, .int .i64 (onR 2 1 9).m.kind, .int .i64 (onR 2 1 9).m.origin, .int .i64 (onR 2 1 9).m.life, .int .i64 (onR 2 1 9).m.id, .int .i64 (onR 2 1 9).m.part, .int .i64 (onR 2 1 9).m.parts, .int .i64 (onR 2 1 9).m.groups, .bool (onR 2 1 9).m.safe, .int .i64 (onR 2 1 9).m.st, .int .i64 (onR 2 1 9).m.rs, .int .i64 (onR 2 1 9).m.rr, .int .i64 (onR 2 1 9).m.sq, .slice a9 1 c9] rfl 5 rfl (by simp [maxLen]) (by
    simp only [List.forall_mem_cons, List.not_mem_nil, false_implies, implies_true, and_true]
    exact ⟨⟨h1.sl (one_rng 1 (by decide)), by decide⟩, ⟨h3.sl (one_rng 3 (by decide)), by decide⟩, ⟨h2.sl (one_rng 2 (by decide)), by decide⟩, ⟨h4.sl (one_rng 4 (by decide)), by decide⟩, ⟨h9.sl (one_rng 9 (by decide)), by decide⟩⟩)
theorem dts1 {W : World} {a1 : Option Addr} {c1 : Nat} (h1 : Own W (.slice a1 1 c1) [1]) : Dts (W.alloc (.cells #[.int .i64 (onR 2 1 1).q, .int .i64 (onR 2 1 1).r, .int .i64 (onR 2 1 1).n, .int .i64 (onR 2 1 1).s, .int .i64 (onR 2 1 1).t, .int .i64 (onR 2 1 1).m.kind, .int .i64 (onR 2 1 1).m.origin, .int .i64 (onR 2 1 1).m.life, .int .i64 (onR 2 1 1).m.id, .int .i64 (onR 2 1 1).m.part, .int .i64 (onR 2 1 1).m.parts, .int .i64 (onR 2 1 1).m.groups, .bool (onR 2 1 1).m.safe, .int .i64 (onR 2 1 1).m.st, .int .i64 (onR 2 1 1).m.rs, .int .i64 (onR 2 1 1).m.rr, .int .i64 (onR 2 1 1).m.sq, .slice a1 1 c1] 45)) (.slice (some ⟨W.heap.size, 0, none⟩) 1 1) [(onR 2 1 1, .slice a1 1 c1)] :=
  Dts.lit W [(onR 2 1 1, .slice a1 1 c1)] #[.int .i64 (onR 2 1 1).q, .int .i64 (onR 2 1 1).r, .int .i64 (onR 2 1 1).n, .int .i64 (onR 2 1 1).s, .int .i64 (onR 2 1 1).t, .int .i64 (onR 2 1 1).m.kind, .int .i64 (onR 2 1 1).m.origin, .int .i64 (onR 2 1 1).m.life, .int .i64 (onR 2 1 1).m.id, .int .i64 (onR 2 1 1).m.part, .int .i64 (onR 2 1 1).m.parts, .int .i64 (onR 2 1 1).m.groups, .bool (onR 2 1 1).m.safe, .int .i64 (onR 2 1 1).m.st, .int .i64 (onR 2 1 1).m.rs, .int .i64 (onR 2 1 1).m.rr, .int .i64 (onR 2 1 1).m.sq, .slice a1 1 c1] rfl 1 rfl (by simp [maxLen]) (by
    simp only [List.forall_mem_cons, List.not_mem_nil, false_implies, implies_true, and_true]
    exact ⟨h1.sl (one_rng 1 (by decide)), by decide⟩)
theorem mss2 (W : World) : Mss (W.alloc (.cells #[.int .i64 0, .int .i64 0, .int .i64 0, .int .i64 0, .int .i64 0, .int .i64 0, .int .i64 0, .bool false, .int .i64 0, .int .i64 0, .int .i64 0, .int .i64 0, .slice none 0 0, .int .i64 5, .int .i64 0, .int .i64 0, .int .i64 0, .int .i64 0, .int .i64 0, .int .i64 0, .bool false, .int .i64 0, .int .i64 0, .int .i64 0, .int .i64 0, .slice none 0 0] 43)) (.slice (some ⟨W.heap.size, 0, none⟩) 2 2) [(m0, .slice none 0 0), (mold0, .slice none 0 0)] :=
  Mss.lit W [(m0, .slice none 0 0), (mold0, .slice none 0 0)] #[.int .i64 0, .int .i64 0, .int .i64 0, .int .i64 0, .int .i64 0, .int .i64 0, .int .i64 0, .bool false, .int .i64 0, .int .i64 0, .int .i64 0, .int .i64 0, .slice none 0 0, .int .i64 5, .int .i64 0, .int .i64 0, .int .i64 0, .int .i64 0, .int .i64 0, .int .i64 0, .bool false, .int .i64 0, .int .i64 0, .int .i64 0, .int .i64 0, .slice none 0 0] rfl 2 rfl (by decide) (by
    simp only [List.forall_mem_cons, List.not_mem_nil, false_implies, implies_true, and_true]
    exact ⟨⟨(Own.nil _).sl (by simp), by decide, by unfold I64; decide⟩, ⟨(Own.nil _).sl (by simp), by decide, by unfold I64; decide⟩⟩)
theorem not_cont {L : List (Nat × Value)} {D : List (Option Tmp)} {t : Nat} (hD : D.filterMap id = L.map (·.1)) (ht : ∀ p ∈ L, p.1 ≠ t) : D.contains (some t) = false := by
  rw [Bool.eq_false_iff]
  intro h
  have h1 : some t ∈ D := by simpa using h
  have h2 : t ∈ D.filterMap id := List.mem_filterMap.2 ⟨some t, h1, rfl⟩
  rw [hD] at h2
  obtain ⟨p, hp, e⟩ := List.mem_map.1 h2
  exact ht p hp e
theorem rrn_bd42 {o : Oper} {w : World} {ρ : Operand → Value} (ho : o.op = Op.build 43 #[]) (_hc : ∀ v, ρ (Operand.const v) = v) : (execOp ρ o).run Tryz.prog w = .ok (.value (.agg #[.int .i64 0, .int .i64 0, .int .i64 0, .int .i64 0, .int .i64 0, .int .i64 0, .int .i64 0, .bool false, .int .i64 0, .int .i64 0, .int .i64 0, .int .i64 0, .slice none 0 0])) w := by
  simp [execOp, ho, go_sem]
theorem rrn_bd43 {o : Oper} {w : World} {ρ : Operand → Value} (ho : o.op = Op.build 43 #[(0, Operand.const (Value.int IntKind.i64 5))]) (hc : ∀ v, ρ (Operand.const v) = v) : (execOp ρ o).run Tryz.prog w = .ok (.value (.agg #[.int .i64 5, .int .i64 0, .int .i64 0, .int .i64 0, .int .i64 0, .int .i64 0, .int .i64 0, .bool false, .int .i64 0, .int .i64 0, .int .i64 0, .int .i64 0, .slice none 0 0])) w := by
  simp [execOp, ho, hc, go_sem]
/-- What is said of a slot. -/
def p_rrn (_b3 _b4 : Nat) (a3 a4 : Option Addr) (c3 c4 : Nat) (u0 i7 iz : Bool) (e6 e8 ez : Int) (i : Nat) (v : Value) (_w : World) : Prop :=
  match i with
  | 0 => v = .bool u0
  | 1 => v = if u0 = true then .bool true else undef
  | 2 => v = .bool (u0 && true)
  | 3 => v = .bool (u0 && true)
  | 4 => v = if (u0 && true) = true then .int .i64 e6 else undef
  | 5 => v = if (u0 && true) = true then .bool (e6 == 1) else undef
  | 6 => v = .bool ((u0 && true) && (e6 == 1))
  | 7 => v = .bool ((u0 && true) && (e6 == 1))
  | 8 => v = if ((u0 && true) && (e6 == 1)) = true then .int .i64 e8 else undef
  | 9 => v = if ((u0 && true) && (e6 == 1)) = true then .bool (e8 == 1) else undef
  | 10 => v = .bool (((u0 && true) && (e6 == 1)) && (e8 == 1))
  | 11 => v = .bool (((u0 && true) && (e6 == 1)) && (e8 == 1))
  | 12 => v = if (((u0 && true) && (e6 == 1)) && (e8 == 1)) = true then .bool i7 else undef
  | 13 => v = if (((u0 && true) && (e6 == 1)) && (e8 == 1)) = true then .bool (!i7) else undef
  | 14 => v = .bool ((((u0 && true) && (e6 == 1)) && (e8 == 1)) && (!i7))
  | 15 => v = .bool ((((u0 && true) && (e6 == 1)) && (e8 == 1)) && (!i7))
  | 16 => v = if ((((u0 && true) && (e6 == 1)) && (e8 == 1)) && (!i7)) = true then .int .i64 ez else undef
  | 17 => v = if ((((u0 && true) && (e6 == 1)) && (e8 == 1)) && (!i7)) = true then .bool (ez == 2) else undef
  | 18 => v = .bool (((((u0 && true) && (e6 == 1)) && (e8 == 1)) && (!i7)) && (ez == 2))
  | 19 => v = .bool (((((u0 && true) && (e6 == 1)) && (e8 == 1)) && (!i7)) && (ez == 2))
  | 20 => v = if (((((u0 && true) && (e6 == 1)) && (e8 == 1)) && (!i7)) && (ez == 2)) = true then .bool iz else undef
  | 21 => v = if (((((u0 && true) && (e6 == 1)) && (e8 == 1)) && (!i7)) && (ez == 2)) = true then .bool (!iz) else undef
  | 22 => v = .bool ((((((u0 && true) && (e6 == 1)) && (e8 == 1)) && (!i7)) && (ez == 2)) && (!iz))
  | 23 => v = .bool ((((((u0 && true) && (e6 == 1)) && (e8 == 1)) && (!i7)) && (ez == 2)) && (!iz))
  | 24 => (((((((u0 && true) && (e6 == 1)) && (e8 == 1)) && (!i7)) && (ez == 2)) && (!iz)) = true → ∃ a1 c1, v = .agg #[.int .i64 (onR 2 1 1).q, .int .i64 (onR 2 1 1).r, .int .i64 (onR 2 1 1).n, .int .i64 (onR 2 1 1).s, .int .i64 (onR 2 1 1).t, .int .i64 (onR 2 1 1).m.kind, .int .i64 (onR 2 1 1).m.origin, .int .i64 (onR 2 1 1).m.life, .int .i64 (onR 2 1 1).m.id, .int .i64 (onR 2 1 1).m.part, .int .i64 (onR 2 1 1).m.parts, .int .i64 (onR 2 1 1).m.groups, .bool (onR 2 1 1).m.safe, .int .i64 (onR 2 1 1).m.st, .int .i64 (onR 2 1 1).m.rs, .int .i64 (onR 2 1 1).m.rr, .int .i64 (onR 2 1 1).m.sq, .slice a1 1 c1] ∧ Own _w (.slice a1 1 c1) [1]) ∧ (((((((u0 && true) && (e6 == 1)) && (e8 == 1)) && (!i7)) && (ez == 2)) && (!iz)) = false → v = undef)
  | 25 => v = if ((((((u0 && true) && (e6 == 1)) && (e8 == 1)) && (!i7)) && (ez == 2)) && (!iz)) = true then .agg #[.int .i64 (onR 2 1 3).q, .int .i64 (onR 2 1 3).r, .int .i64 (onR 2 1 3).n, .int .i64 (onR 2 1 3).s, .int .i64 (onR 2 1 3).t, .int .i64 (onR 2 1 3).m.kind, .int .i64 0, .int .i64 (onR 2 1 3).m.life, .int .i64 (onR 2 1 3).m.id, .int .i64 (onR 2 1 3).m.part, .int .i64 (onR 2 1 3).m.parts, .int .i64 (onR 2 1 3).m.groups, .bool (onR 2 1 3).m.safe, .int .i64 (onR 2 1 3).m.st, .int .i64 (onR 2 1 3).m.rs, .int .i64 (onR 2 1 3).m.rr, .int .i64 (onR 2 1 3).m.sq, .slice a3 1 c3] else undef
  | 26 => (((((((u0 && true) && (e6 == 1)) && (e8 == 1)) && (!i7)) && (ez == 2)) && (!iz)) = true → ∃ a2 c2, v = .agg #[.int .i64 (onR 2 1 2).q, .int .i64 (onR 2 1 2).r, .int .i64 (onR 2 1 2).n, .int .i64 (onR 2 1 2).s, .int .i64 (onR 2 1 2).t, .int .i64 (onR 2 1 2).m.kind, .int .i64 (onR 2 1 2).m.origin, .int .i64 (onR 2 1 2).m.life, .int .i64 (onR 2 1 2).m.id, .int .i64 (onR 2 1 2).m.part, .int .i64 (onR 2 1 2).m.parts, .int .i64 (onR 2 1 2).m.groups, .bool (onR 2 1 2).m.safe, .int .i64 (onR 2 1 2).m.st, .int .i64 (onR 2 1 2).m.rs, .int .i64 (onR 2 1 2).m.rr, .int .i64 (onR 2 1 2).m.sq, .slice a2 1 c2] ∧ Own _w (.slice a2 1 c2) [2]) ∧ (((((((u0 && true) && (e6 == 1)) && (e8 == 1)) && (!i7)) && (ez == 2)) && (!iz)) = false → v = undef)
  | 27 => v = if ((((((u0 && true) && (e6 == 1)) && (e8 == 1)) && (!i7)) && (ez == 2)) && (!iz)) = true then .agg #[.int .i64 (onR 2 1 4).q, .int .i64 (onR 2 1 4).r, .int .i64 (onR 2 1 4).n, .int .i64 (onR 2 1 4).s, .int .i64 (onR 2 1 4).t, .int .i64 5, .int .i64 (onR 2 1 4).m.origin, .int .i64 (onR 2 1 4).m.life, .int .i64 (onR 2 1 4).m.id, .int .i64 (onR 2 1 4).m.part, .int .i64 (onR 2 1 4).m.parts, .int .i64 (onR 2 1 4).m.groups, .bool (onR 2 1 4).m.safe, .int .i64 (onR 2 1 4).m.st, .int .i64 (onR 2 1 4).m.rs, .int .i64 (onR 2 1 4).m.rr, .int .i64 (onR 2 1 4).m.sq, .slice a4 1 c4] else undef
  | 28 => (((((((u0 && true) && (e6 == 1)) && (e8 == 1)) && (!i7)) && (ez == 2)) && (!iz)) = true → ∃ a9 c9, v = .agg #[.int .i64 (onR 2 1 9).q, .int .i64 (onR 2 1 9).r, .int .i64 (onR 2 1 9).n, .int .i64 (onR 2 1 9).s, .int .i64 (onR 2 1 9).t, .int .i64 (onR 2 1 9).m.kind, .int .i64 (onR 2 1 9).m.origin, .int .i64 (onR 2 1 9).m.life, .int .i64 (onR 2 1 9).m.id, .int .i64 (onR 2 1 9).m.part, .int .i64 (onR 2 1 9).m.parts, .int .i64 (onR 2 1 9).m.groups, .bool (onR 2 1 9).m.safe, .int .i64 (onR 2 1 9).m.st, .int .i64 (onR 2 1 9).m.rs, .int .i64 (onR 2 1 9).m.rr, .int .i64 (onR 2 1 9).m.sq, .slice a9 1 c9] ∧ Own _w (.slice a9 1 c9) [9]) ∧ (((((((u0 && true) && (e6 == 1)) && (e8 == 1)) && (!i7)) && (ez == 2)) && (!iz)) = false → v = undef)
  | 29 => (((((((u0 && true) && (e6 == 1)) && (e8 == 1)) && (!i7)) && (ez == 2)) && (!iz)) = true → ∃ vs es, v = vs ∧ Dts _w vs es) ∧ (((((((u0 && true) && (e6 == 1)) && (e8 == 1)) && (!i7)) && (ez == 2)) && (!iz)) = false → v = undef)
  | 30 => v = if ((((((u0 && true) && (e6 == 1)) && (e8 == 1)) && (!i7)) && (ez == 2)) && (!iz)) = true then .bool true else undef
  | 31 => v = .bool (((((((u0 && true) && (e6 == 1)) && (e8 == 1)) && (!i7)) && (ez == 2)) && (!iz)) && true)
  | 32 => v = .bool (((((((u0 && true) && (e6 == 1)) && (e8 == 1)) && (!i7)) && (ez == 2)) && (!iz)) && true)
  | 33 => ((((((((u0 && true) && (e6 == 1)) && (e8 == 1)) && (!i7)) && (ez == 2)) && (!iz)) && true) = true → ∃ a1 c1, v = .agg #[.int .i64 (onR 2 1 1).q, .int .i64 (onR 2 1 1).r, .int .i64 (onR 2 1 1).n, .int .i64 (onR 2 1 1).s, .int .i64 (onR 2 1 1).t, .int .i64 (onR 2 1 1).m.kind, .int .i64 (onR 2 1 1).m.origin, .int .i64 (onR 2 1 1).m.life, .int .i64 (onR 2 1 1).m.id, .int .i64 (onR 2 1 1).m.part, .int .i64 (onR 2 1 1).m.parts, .int .i64 (onR 2 1 1).m.groups, .bool (onR 2 1 1).m.safe, .int .i64 (onR 2 1 1).m.st, .int .i64 (onR 2 1 1).m.rs, .int .i64 (onR 2 1 1).m.rr, .int .i64 (onR 2 1 1).m.sq, .slice a1 1 c1] ∧ Own _w (.slice a1 1 c1) [1]) ∧ ((((((((u0 && true) && (e6 == 1)) && (e8 == 1)) && (!i7)) && (ez == 2)) && (!iz)) && true) = false → v = undef)
  | 34 => ((((((((u0 && true) && (e6 == 1)) && (e8 == 1)) && (!i7)) && (ez == 2)) && (!iz)) && true) = true → ∃ vs es, v = vs ∧ Dts _w vs es) ∧ ((((((((u0 && true) && (e6 == 1)) && (e8 == 1)) && (!i7)) && (ez == 2)) && (!iz)) && true) = false → v = undef)
  | 35 => v = if (((((((u0 && true) && (e6 == 1)) && (e8 == 1)) && (!i7)) && (ez == 2)) && (!iz)) && true) = true then .bool true else undef
  | 36 => v = .bool ((((((((u0 && true) && (e6 == 1)) && (e8 == 1)) && (!i7)) && (ez == 2)) && (!iz)) && true) && true)
  | 37 => v = .bool ((((((((u0 && true) && (e6 == 1)) && (e8 == 1)) && (!i7)) && (ez == 2)) && (!iz)) && true) && true)
  | 38 => v = if ((((((((u0 && true) && (e6 == 1)) && (e8 == 1)) && (!i7)) && (ez == 2)) && (!iz)) && true) && true) = true then .bool true else undef
  | 39 => v = .bool (((((((((u0 && true) && (e6 == 1)) && (e8 == 1)) && (!i7)) && (ez == 2)) && (!iz)) && true) && true) && true)
  | 40 => v = .bool (((((((((u0 && true) && (e6 == 1)) && (e8 == 1)) && (!i7)) && (ez == 2)) && (!iz)) && true) && true) && true)
  | 41 => v = if (((((((((u0 && true) && (e6 == 1)) && (e8 == 1)) && (!i7)) && (ez == 2)) && (!iz)) && true) && true) && true) = true then .agg #[.int .i64 2, .int .i64 1] else undef
  | 42 => v = if (((((((((u0 && true) && (e6 == 1)) && (e8 == 1)) && (!i7)) && (ez == 2)) && (!iz)) && true) && true) && true) = true then .agg #[.int .i64 0, .int .i64 0, .int .i64 0, .int .i64 0, .int .i64 0, .int .i64 0, .int .i64 0, .bool false, .int .i64 0, .int .i64 0, .int .i64 0, .int .i64 0, .slice none 0 0] else undef
  | 43 => v = if (((((((((u0 && true) && (e6 == 1)) && (e8 == 1)) && (!i7)) && (ez == 2)) && (!iz)) && true) && true) && true) = true then .agg #[.int .i64 5, .int .i64 0, .int .i64 0, .int .i64 0, .int .i64 0, .int .i64 0, .int .i64 0, .bool false, .int .i64 0, .int .i64 0, .int .i64 0, .int .i64 0, .slice none 0 0] else undef
  | 44 => ((((((((((u0 && true) && (e6 == 1)) && (e8 == 1)) && (!i7)) && (ez == 2)) && (!iz)) && true) && true) && true) = true → ∃ vs es, v = vs ∧ Mss _w vs es) ∧ ((((((((((u0 && true) && (e6 == 1)) && (e8 == 1)) && (!i7)) && (ez == 2)) && (!iz)) && true) && true) && true) = false → v = undef)
  | 45 => v = if (((((((((u0 && true) && (e6 == 1)) && (e8 == 1)) && (!i7)) && (ez == 2)) && (!iz)) && true) && true) && true) = true then .bool true else undef
  | 46 => v = .bool ((((((((((u0 && true) && (e6 == 1)) && (e8 == 1)) && (!i7)) && (ez == 2)) && (!iz)) && true) && true) && true) && true)
  | 47 => v = .bool ((((((((((u0 && true) && (e6 == 1)) && (e8 == 1)) && (!i7)) && (ez == 2)) && (!iz)) && true) && true) && true) && true)
  | _ => True
theorem p_rrn_stab (b3 b4 : Nat) (a3 a4 : Option Addr) (c3 c4 : Nat) (u0 i7 iz : Bool) (e6 e8 ez : Int) : ∀ i v w w', Mod (fun _ => False) w w' → (p_rrn b3 b4 a3 a4 c3 c4 u0 i7 iz e6 e8 ez) i v w → (p_rrn b3 b4 a3 a4 c3 c4 u0 i7 iz e6 e8 ez) i v w' := by
  intro i v w w' hm h
  unfold p_rrn at h ⊢
  split at h
  case h_25 => exact ⟨fun hc => by obtain ⟨a1, c1, h1, h2⟩ := h.1 hc; exact ⟨a1, c1, h1, h2.mod hm (fun _ _ h => h)⟩, h.2⟩
  case h_27 => exact ⟨fun hc => by obtain ⟨a2, c2, h1, h2⟩ := h.1 hc; exact ⟨a2, c2, h1, h2.mod hm (fun _ _ h => h)⟩, h.2⟩
  case h_29 => exact ⟨fun hc => by obtain ⟨a9, c9, h1, h2⟩ := h.1 hc; exact ⟨a9, c9, h1, h2.mod hm (fun _ _ h => h)⟩, h.2⟩
  case h_30 => exact ⟨fun hc => by obtain ⟨vs, es, h1, h2⟩ := h.1 hc; exact ⟨vs, es, h1, h2.mod hm⟩, h.2⟩
  case h_34 => exact ⟨fun hc => by obtain ⟨a1, c1, h1, h2⟩ := h.1 hc; exact ⟨a1, c1, h1, h2.mod hm (fun _ _ h => h)⟩, h.2⟩
  case h_35 => exact ⟨fun hc => by obtain ⟨vs, es, h1, h2⟩ := h.1 hc; exact ⟨vs, es, h1, h2.mod hm⟩, h.2⟩
  case h_45 => exact ⟨fun hc => by obtain ⟨vs, es, h1, h2⟩ := h.1 hc; exact ⟨vs, es, h1, h2.mod hm⟩, h.2⟩
  all_goals exact h
/-- Its operations. -/
structure O_rrn (ops : Array Oper) : Prop where
  e0 : Is ops 0 (some 61) (Op.move (Operand.const (Value.bool true))) none []
  e1 : Is ops 1 (some 62) (Op.call { callee := Callee.value (Operand.func 15), args := #[], argTypes := #[] }) (some (0, true)) [0]
  e2 : Is ops 2 (some 63) (Op.pick (Operand.tmp 61) (Operand.tmp 62) (Operand.const (Value.bool false))) none [0, 1]
  e3 : Is ops 3 (some 64) (Op.move (Operand.tmp 63)) none [1, 2]
  e4 : Is ops 4 (some 65) (Op.move (Operand.tmp 6)) (some (3, true)) [3]
  e5 : Is ops 5 (some 66) (Op.binOp BinOp.eql 28 (Operand.tmp 65) (Operand.const (Value.int IntKind.i64 1)) 28) (some (3, true)) [3, 4]
  e6 : Is ops 6 (some 67) (Op.pick (Operand.tmp 64) (Operand.tmp 66) (Operand.const (Value.bool false))) none [3, 5]
  e7 : Is ops 7 (some 68) (Op.move (Operand.tmp 67)) none [3, 6]
  e8 : Is ops 8 (some 69) (Op.move (Operand.tmp 8)) (some (7, true)) [7]
  e9 : Is ops 9 (some 70) (Op.binOp BinOp.eql 28 (Operand.tmp 69) (Operand.const (Value.int IntKind.i64 1)) 28) (some (7, true)) [7, 8]
  e10 : Is ops 10 (some 71) (Op.pick (Operand.tmp 68) (Operand.tmp 70) (Operand.const (Value.bool false))) none [7, 9]
  e11 : Is ops 11 (some 72) (Op.move (Operand.tmp 71)) none [7, 10]
  e12 : Is ops 12 (some 73) (Op.move (Operand.tmp 7)) (some (11, true)) [11]
  e13 : Is ops 13 (some 74) (Op.unOp UnOp.not 4 (Operand.tmp 73)) (some (11, true)) [11, 12]
  e14 : Is ops 14 (some 75) (Op.pick (Operand.tmp 72) (Operand.tmp 74) (Operand.const (Value.bool false))) none [11, 13]
  e15 : Is ops 15 (some 76) (Op.move (Operand.tmp 75)) none [11, 14]
  e16 : Is ops 16 (some 77) (Op.move (Operand.tmp 11)) (some (15, true)) [15]
  e17 : Is ops 17 (some 78) (Op.binOp BinOp.eql 28 (Operand.tmp 77) (Operand.const (Value.int IntKind.i64 2)) 28) (some (15, true)) [15, 16]
  e18 : Is ops 18 (some 79) (Op.pick (Operand.tmp 76) (Operand.tmp 78) (Operand.const (Value.bool false))) none [15, 17]
  e19 : Is ops 19 (some 80) (Op.move (Operand.tmp 79)) none [15, 18]
  e20 : Is ops 20 (some 81) (Op.move (Operand.tmp 10)) (some (19, true)) [19]
  e21 : Is ops 21 (some 82) (Op.unOp UnOp.not 4 (Operand.tmp 81)) (some (19, true)) [19, 20]
  e22 : Is ops 22 (some 83) (Op.pick (Operand.tmp 80) (Operand.tmp 82) (Operand.const (Value.bool false))) none [19, 21]
  e23 : Is ops 23 (some 84) (Op.move (Operand.tmp 83)) none [19, 22]
  e24 : Is ops 24 (some 85) (Op.call { callee := Callee.value (Operand.func 28), args := #[Operand.const (Value.int IntKind.i64 1)], argTypes := #[3] }) (some (23, true)) [23]
  e25 : Is ops 25 (some 86) (Op.load 45 (Operand.tmp 12)) (some (23, true)) [23]
  e26 : Is ops 26 (some 87) (Op.call { callee := Callee.value (Operand.func 28), args := #[Operand.const (Value.int IntKind.i64 2)], argTypes := #[3] }) (some (23, true)) [23, 24]
  e27 : Is ops 27 (some 88) (Op.load 45 (Operand.tmp 13)) (some (23, true)) [23]
  e28 : Is ops 28 (some 89) (Op.call { callee := Callee.value (Operand.func 28), args := #[Operand.const (Value.int IntKind.i64 9)], argTypes := #[3] }) (some (23, true)) [23, 26]
  e29 : Is ops 29 (some 90) (Op.buildSlice 22 5 #[(0, Operand.tmp 85), (1, Operand.tmp 86), (2, Operand.tmp 87), (3, Operand.tmp 88), (4, Operand.tmp 89)]) (some (23, true)) [23, 24, 25, 26, 27, 28]
  e30 : Is ops 30 (some 91) (Op.call { callee := Callee.value (Operand.func 3), args := #[Operand.tmp 90, Operand.const (Value.int IntKind.i64 0)], argTypes := #[22, 3] }) (some (23, true)) [23, 28, 29]
  e31 : Is ops 31 (some 92) (Op.pick (Operand.tmp 84) (Operand.tmp 91) (Operand.const (Value.bool false))) none [23, 30]
  e32 : Is ops 32 (some 93) (Op.move (Operand.tmp 92)) none [30, 31]
  e33 : Is ops 33 (some 94) (Op.call { callee := Callee.value (Operand.func 28), args := #[Operand.const (Value.int IntKind.i64 1)], argTypes := #[3] }) (some (32, true)) [32]
  e34 : Is ops 34 (some 95) (Op.buildSlice 22 1 #[(0, Operand.tmp 94)]) (some (32, true)) [32, 33]
  e35 : Is ops 35 (some 96) (Op.call { callee := Callee.value (Operand.func 3), args := #[Operand.tmp 95, Operand.const (Value.int IntKind.i64 4611686018427387904)], argTypes := #[22, 3] }) (some (32, true)) [32, 33, 34]
  e36 : Is ops 36 (some 97) (Op.pick (Operand.tmp 93) (Operand.tmp 96) (Operand.const (Value.bool false))) none [32, 35]
  e37 : Is ops 37 (some 98) (Op.move (Operand.tmp 97)) none [35, 36]
  e38 : Is ops 38 (some 99) (Op.call { callee := Callee.value (Operand.func 3), args := #[Operand.const (Value.slice none 0 0), Operand.const (Value.int IntKind.i64 (-1))], argTypes := #[22, 3] }) (some (37, true)) [37]
  e39 : Is ops 39 (some 100) (Op.pick (Operand.tmp 98) (Operand.tmp 99) (Operand.const (Value.bool false))) none [37, 38]
  e40 : Is ops 40 (some 101) (Op.move (Operand.tmp 100)) none [38, 39]
  e41 : Is ops 41 (some 102) (Op.call { callee := Callee.value (Operand.func 26), args := #[], argTypes := #[] }) (some (40, true)) [40]
  e42 : Is ops 42 (some 103) (Op.build 43 #[]) (some (40, true)) [40]
  e43 : Is ops 43 (some 104) (Op.build 43 #[(0, Operand.const (Value.int IntKind.i64 5))]) (some (40, true)) [40]
  e44 : Is ops 44 (some 105) (Op.buildSlice 51 2 #[(0, Operand.tmp 103), (1, Operand.tmp 104)]) (some (40, true)) [40, 42, 43]
  e45 : Is ops 45 (some 106) (Op.call { callee := Callee.value (Operand.func 4), args := #[Operand.const (Value.slice none 0 0), Operand.tmp 102, Operand.tmp 105], argTypes := #[22, 38, 51] }) (some (40, true)) [40, 41, 44]
  e46 : Is ops 46 (some 107) (Op.pick (Operand.tmp 101) (Operand.tmp 106) (Operand.const (Value.bool false))) none [40, 45]
  e47 : Is ops 47 (some 0) (Op.assign (Operand.tmp 107)) none [0, 1, 2, 3, 4, 5, 6, 7, 8, 9, 10, 11, 12, 13, 14, 15, 16, 17, 18, 19, 20, 21, 22, 23, 24, 25, 26, 27, 28, 29, 30, 31, 32, 33, 34, 35, 36, 37, 38, 39, 40, 41, 42, 43, 44, 45, 46]
set_option maxRecDepth 100000 in
set_option maxHeartbeats 4000000 in
theorem rrn_s0 {ops : Array Oper} {aZ : Act} {w0 : World} {Q : Exit → Act → World → Prop} (b3 b4 : Nat) (a3 a4 : Option Addr) (c3 c4 : Nat) (u0 i7 iz : Bool) (e6 e8 ez : Int) (E : O_rrn ops) (hu0 : u0 = true) :
    ∀ o, ops[0]? = some o → StepI Tryz.prog ops (p_rrn b3 b4 a3 a4 c3 c4 u0 i7 iz e6 e8 ez) (fun (_ : Array Bool) (_ : Act) (w : World) => Mod (fun _ => False) w0 w) aZ Q 0 o := by
  refine E.e0.stepI fun o hd ho hg hw => ?_
  intro y w listed hsz hls hun hwt hdown D' hRR hinv K hK
  exact .inl ⟨wanted_none hg, wp_value (ox_move ho rfl) (hK _ _ (fun _ _ _ _ _ _ h => h) (by show _ = Value.bool u0; rw [hu0]; rfl) hinv)⟩
set_option maxRecDepth 100000 in
set_option maxHeartbeats 4000000 in
theorem rrn_s1 {ops : Array Oper} {aZ : Act} {w0 : World} {Q : Exit → Act → World → Prop} (b3 b4 : Nat) (a3 a4 : Option Addr) (c3 c4 : Nat) (u0 i7 iz : Bool) (e6 e8 ez : Int) (E : O_rrn ops) (ha0 : aZ.tmps.size = 108) (H1 : ∀ (W : World), Mod (fun _ => False) w0 W → Calls Tryz.prog 15 #[] W fun e w' => e = .returned (.bool true) ∧ Mod (fun _ => False) W w') :
    ∀ o, ops[1]? = some o → StepI Tryz.prog ops (p_rrn b3 b4 a3 a4 c3 c4 u0 i7 iz e6 e8 ez) (fun (_ : Array Bool) (_ : Act) (w : World) => Mod (fun _ => False) w0 w) aZ Q 1 o := by
  have hstay : ∀ (i : Nat) (v : Value) (w w1 : World), Mod (fun _ => False) w w1 → (p_rrn b3 b4 a3 a4 c3 c4 u0 i7 iz e6 e8 ez) i v w → (p_rrn b3 b4 a3 a4 c3 c4 u0 i7 iz e6 e8 ez) i v w1 := fun i v w w' hm h => p_rrn_stab _ _ _ _ _ _ _ _ _ _ _ _ i v w w' hm h
  refine E.e1.stepI fun o hd ho hg hw => ?_
  intro y w listed hsz hls hun hwt hdown D' hRR hinv K hK
  have gv : y.tmps.getD 61 undef = .bool u0 := E.e0.postI (Post := (p_rrn b3 b4 a3 a4 c3 c4 u0 i7 iz e6 e8 ez)) (a := y) (w := w) D' (hwt 0 (hw 0 (by simp)))
  have wt : Region.wanted o (yielded ops y.tmps) = u0 := by
    rw [wanted_b E.e0 hg (by rw [hsz, ha0]; decide) gv]
    cases u0 <;> rfl
  cases hc : u0
  · exact .inr ⟨wt.trans hc, hK _ _ (fun _ _ _ _ _ _ h => h) (by show undef = if u0 = true then .bool true else undef; rw [hc]; rfl) hinv⟩
  · refine .inl ⟨wt.trans hc, wp_enter (f := 15) (args := #[]) ?_ (H1 w  hinv ) ?_⟩
    · have h := exec_call0 y.eval (fun args w => by simp [go_sem]) rfl ho (w := w)
      exact h
    · rintro e w' ⟨rfl, hm⟩
      exact ⟨_, rfl, hK _ _ (fun j oj d _ _ _ h => hstay _ _ _ _ hm h) (by show _ = if u0 = true then .bool true else undef; rw [hc]; rfl) (hinv.and hm)⟩
set_option maxRecDepth 100000 in
set_option maxHeartbeats 4000000 in
theorem rrn_s2 {ops : Array Oper} {aZ : Act} {w0 : World} {Q : Exit → Act → World → Prop} (b3 b4 : Nat) (a3 a4 : Option Addr) (c3 c4 : Nat) (u0 i7 iz : Bool) (e6 e8 ez : Int) (E : O_rrn ops) :
    ∀ o, ops[2]? = some o → StepI Tryz.prog ops (p_rrn b3 b4 a3 a4 c3 c4 u0 i7 iz e6 e8 ez) (fun (_ : Array Bool) (_ : Act) (w : World) => Mod (fun _ => False) w0 w) aZ Q 2 o := by
  refine E.e2.stepI fun o hd ho hg hw => ?_
  intro y w listed hsz hls hun hwt hdown D' hRR hinv K hK
  have f61 : y.eval (Operand.tmp 61) = .bool u0 := E.e0.postI (Post := (p_rrn b3 b4 a3 a4 c3 c4 u0 i7 iz e6 e8 ez)) (a := y) (w := w) D' (hwt 0 (hw 0 (by simp)))
  have f62 : y.eval (Operand.tmp 62) = if u0 = true then .bool true else undef := E.e1.postI (Post := (p_rrn b3 b4 a3 a4 c3 c4 u0 i7 iz e6 e8 ez)) (a := y) (w := w) D' (hwt 1 (hw 1 (by simp)))
  exact .inl ⟨wanted_none hg, wp_value (ox_pick (v := .bool (u0 && true)) ho f61 (by rw [f62]; cases u0 <;> rfl)) (hK _ _ (fun _ _ _ _ _ _ h => h) rfl hinv)⟩
set_option maxRecDepth 100000 in
set_option maxHeartbeats 4000000 in
theorem rrn_s3 {ops : Array Oper} {aZ : Act} {w0 : World} {Q : Exit → Act → World → Prop} (b3 b4 : Nat) (a3 a4 : Option Addr) (c3 c4 : Nat) (u0 i7 iz : Bool) (e6 e8 ez : Int) (E : O_rrn ops) :
    ∀ o, ops[3]? = some o → StepI Tryz.prog ops (p_rrn b3 b4 a3 a4 c3 c4 u0 i7 iz e6 e8 ez) (fun (_ : Array Bool) (_ : Act) (w : World) => Mod (fun _ => False) w0 w) aZ Q 3 o := by
  refine E.e3.stepI fun o hd ho hg hw => ?_
  intro y w listed hsz hls hun hwt hdown D' hRR hinv K hK
  have f63 : y.eval (Operand.tmp 63) = .bool (u0 && true) := E.e2.postI (Post := (p_rrn b3 b4 a3 a4 c3 c4 u0 i7 iz e6 e8 ez)) (a := y) (w := w) D' (hwt 2 (hw 2 (by simp)))
  exact .inl ⟨wanted_none hg, wp_value (ox_move ho f63) (hK _ _ (fun _ _ _ _ _ _ h => h) rfl hinv)⟩
set_option maxRecDepth 100000 in
set_option maxHeartbeats 4000000 in
theorem rrn_s4 {ops : Array Oper} {aZ : Act} {w0 : World} {Q : Exit → Act → World → Prop} (b3 b4 : Nat) (a3 a4 : Option Addr) (c3 c4 : Nat) (u0 i7 iz : Bool) (e6 e8 ez : Int) (E : O_rrn ops) (hds : dsts ops = [some 61, some 62, some 63, some 64, some 65, some 66, some 67, some 68, some 69, some 70, some 71, some 72, some 73, some 74, some 75, some 76, some 77, some 78, some 79, some 80, some 81, some 82, some 83, some 84, some 85, some 86, some 87, some 88, some 89, some 90, some 91, some 92, some 93, some 94, some 95, some 96, some 97, some 98, some 99, some 100, some 101, some 102, some 103, some 104, some 105, some 106, some 107, some 0]) (ha0 : aZ.tmps.size = 108) (bS6 : aZ.tmps.getD 6 undef = .int .i64 e6) :
    ∀ o, ops[4]? = some o → StepI Tryz.prog ops (p_rrn b3 b4 a3 a4 c3 c4 u0 i7 iz e6 e8 ez) (fun (_ : Array Bool) (_ : Act) (w : World) => Mod (fun _ => False) w0 w) aZ Q 4 o := by
  refine E.e4.stepI fun o hd ho hg hw => ?_
  intro y w listed hsz hls hun hwt hdown D' hRR hinv K hK
  have gv : y.tmps.getD 64 undef = .bool (u0 && true) := E.e3.postI (Post := (p_rrn b3 b4 a3 a4 c3 c4 u0 i7 iz e6 e8 ez)) (a := y) (w := w) D' (hwt 3 (hw 3 (by simp)))
  have wt : Region.wanted o (yielded ops y.tmps) = (u0 && true) := by
    rw [wanted_b E.e3 hg (by rw [hsz, ha0]; decide) gv]
    cases (u0 && true) <;> rfl
  cases hc : (u0 && true)
  · exact .inr ⟨wt.trans hc, hK _ _ (fun _ _ _ _ _ _ h => h) (by show undef = if (u0 && true) = true then .int .i64 e6 else undef; rw [hc]; rfl) hinv⟩
  · have f6 : y.eval (Operand.tmp 6) = .int .i64 e6   := (hRR 6 (not_of (by rw [hds]; decide))).trans bS6
    exact .inl ⟨wt.trans hc, wp_value (ox_move ho f6) (hK _ _ (fun _ _ _ _ _ _ h => h) (by show _ = if (u0 && true) = true then .int .i64 e6 else undef; rw [hc]; rfl) hinv)⟩
set_option maxRecDepth 100000 in
set_option maxHeartbeats 4000000 in
theorem rrn_s5 {ops : Array Oper} {aZ : Act} {w0 : World} {Q : Exit → Act → World → Prop} (b3 b4 : Nat) (a3 a4 : Option Addr) (c3 c4 : Nat) (u0 i7 iz : Bool) (e6 e8 ez : Int) (E : O_rrn ops) (ha0 : aZ.tmps.size = 108) :
    ∀ o, ops[5]? = some o → StepI Tryz.prog ops (p_rrn b3 b4 a3 a4 c3 c4 u0 i7 iz e6 e8 ez) (fun (_ : Array Bool) (_ : Act) (w : World) => Mod (fun _ => False) w0 w) aZ Q 5 o := by
  refine E.e5.stepI fun o hd ho hg hw => ?_
  intro y w listed hsz hls hun hwt hdown D' hRR hinv K hK
  have gv : y.tmps.getD 64 undef = .bool (u0 && true) := E.e3.postI (Post := (p_rrn b3 b4 a3 a4 c3 c4 u0 i7 iz e6 e8 ez)) (a := y) (w := w) D' (hwt 3 (hw 3 (by simp)))
  have wt : Region.wanted o (yielded ops y.tmps) = (u0 && true) := by
    rw [wanted_b E.e3 hg (by rw [hsz, ha0]; decide) gv]
    cases (u0 && true) <;> rfl
  cases hc : (u0 && true)
  · exact .inr ⟨wt.trans hc, hK _ _ (fun _ _ _ _ _ _ h => h) (by show undef = if (u0 && true) = true then .bool (e6 == 1) else undef; rw [hc]; rfl) hinv⟩
  · have f65 : y.eval (Operand.tmp 65) = .int .i64 e6 := (show y.eval (Operand.tmp 65) = (if (u0 && true) = true then .int .i64 e6 else undef) from E.e4.postI (Post := (p_rrn b3 b4 a3 a4 c3 c4 u0 i7 iz e6 e8 ez)) (a := y) (w := w) D' (hwt 4 (hw 4 (by simp)))).trans (if_pos hc)
    exact .inl ⟨wt.trans hc, wp_value (rx_eqlT ho f65 rfl) (hK _ _ (fun _ _ _ _ _ _ h => h) (by show _ = if (u0 && true) = true then .bool (e6 == 1) else undef; rw [hc]; rfl) hinv)⟩
set_option maxRecDepth 100000 in
set_option maxHeartbeats 4000000 in
theorem rrn_s6 {ops : Array Oper} {aZ : Act} {w0 : World} {Q : Exit → Act → World → Prop} (b3 b4 : Nat) (a3 a4 : Option Addr) (c3 c4 : Nat) (u0 i7 iz : Bool) (e6 e8 ez : Int) (E : O_rrn ops) :
    ∀ o, ops[6]? = some o → StepI Tryz.prog ops (p_rrn b3 b4 a3 a4 c3 c4 u0 i7 iz e6 e8 ez) (fun (_ : Array Bool) (_ : Act) (w : World) => Mod (fun _ => False) w0 w) aZ Q 6 o := by
  refine E.e6.stepI fun o hd ho hg hw => ?_
  intro y w listed hsz hls hun hwt hdown D' hRR hinv K hK
  have f64 : y.eval (Operand.tmp 64) = .bool (u0 && true) := E.e3.postI (Post := (p_rrn b3 b4 a3 a4 c3 c4 u0 i7 iz e6 e8 ez)) (a := y) (w := w) D' (hwt 3 (hw 3 (by simp)))
  have f66 : y.eval (Operand.tmp 66) = if (u0 && true) = true then .bool (e6 == 1) else undef := E.e5.postI (Post := (p_rrn b3 b4 a3 a4 c3 c4 u0 i7 iz e6 e8 ez)) (a := y) (w := w) D' (hwt 5 (hw 5 (by simp)))
  exact .inl ⟨wanted_none hg, wp_value (ox_pick (v := .bool ((u0 && true) && (e6 == 1))) ho f64 (by rw [f66]; cases (u0 && true) <;> rfl)) (hK _ _ (fun _ _ _ _ _ _ h => h) rfl hinv)⟩
set_option maxRecDepth 100000 in
set_option maxHeartbeats 4000000 in
theorem rrn_s7 {ops : Array Oper} {aZ : Act} {w0 : World} {Q : Exit → Act → World → Prop} (b3 b4 : Nat) (a3 a4 : Option Addr) (c3 c4 : Nat) (u0 i7 iz : Bool) (e6 e8 ez : Int) (E : O_rrn ops) :
    ∀ o, ops[7]? = some o → StepI Tryz.prog ops (p_rrn b3 b4 a3 a4 c3 c4 u0 i7 iz e6 e8 ez) (fun (_ : Array Bool) (_ : Act) (w : World) => Mod (fun _ => False) w0 w) aZ Q 7 o := by
  refine E.e7.stepI fun o hd ho hg hw => ?_
  intro y w listed hsz hls hun hwt hdown D' hRR hinv K hK
  have f67 : y.eval (Operand.tmp 67) = .bool ((u0 && true) && (e6 == 1)) := E.e6.postI (Post := (p_rrn b3 b4 a3 a4 c3 c4 u0 i7 iz e6 e8 ez)) (a := y) (w := w) D' (hwt 6 (hw 6 (by simp)))
  exact .inl ⟨wanted_none hg, wp_value (ox_move ho f67) (hK _ _ (fun _ _ _ _ _ _ h => h) rfl hinv)⟩
set_option maxRecDepth 100000 in
set_option maxHeartbeats 4000000 in
theorem rrn_s8 {ops : Array Oper} {aZ : Act} {w0 : World} {Q : Exit → Act → World → Prop} (b3 b4 : Nat) (a3 a4 : Option Addr) (c3 c4 : Nat) (u0 i7 iz : Bool) (e6 e8 ez : Int) (E : O_rrn ops) (hds : dsts ops = [some 61, some 62, some 63, some 64, some 65, some 66, some 67, some 68, some 69, some 70, some 71, some 72, some 73, some 74, some 75, some 76, some 77, some 78, some 79, some 80, some 81, some 82, some 83, some 84, some 85, some 86, some 87, some 88, some 89, some 90, some 91, some 92, some 93, some 94, some 95, some 96, some 97, some 98, some 99, some 100, some 101, some 102, some 103, some 104, some 105, some 106, some 107, some 0]) (ha0 : aZ.tmps.size = 108) (bS8 : aZ.tmps.getD 8 undef = .int .i64 e8) :
    ∀ o, ops[8]? = some o → StepI Tryz.prog ops (p_rrn b3 b4 a3 a4 c3 c4 u0 i7 iz e6 e8 ez) (fun (_ : Array Bool) (_ : Act) (w : World) => Mod (fun _ => False) w0 w) aZ Q 8 o := by
  refine E.e8.stepI fun o hd ho hg hw => ?_
  intro y w listed hsz hls hun hwt hdown D' hRR hinv K hK
  have gv : y.tmps.getD 68 undef = .bool ((u0 && true) && (e6 == 1)) := E.e7.postI (Post := (p_rrn b3 b4 a3 a4 c3 c4 u0 i7 iz e6 e8 ez)) (a := y) (w := w) D' (hwt 7 (hw 7 (by simp)))
  have wt : Region.wanted o (yielded ops y.tmps) = ((u0 && true) && (e6 == 1)) := by
    rw [wanted_b E.e7 hg (by rw [hsz, ha0]; decide) gv]
    cases ((u0 && true) && (e6 == 1)) <;> rfl
  cases hc : ((u0 && true) && (e6 == 1))
  · exact .inr ⟨wt.trans hc, hK _ _ (fun _ _ _ _ _ _ h => h) (by show undef = if ((u0 && true) && (e6 == 1)) = true then .int .i64 e8 else undef; rw [hc]; rfl) hinv⟩
  · have f8 : y.eval (Operand.tmp 8) = .int .i64 e8   := (hRR 8 (not_of (by rw [hds]; decide))).trans bS8
    exact .inl ⟨wt.trans hc, wp_value (ox_move ho f8) (hK _ _ (fun _ _ _ _ _ _ h => h) (by show _ = if ((u0 && true) && (e6 == 1)) = true then .int .i64 e8 else undef; rw [hc]; rfl) hinv)⟩
set_option maxRecDepth 100000 in
set_option maxHeartbeats 4000000 in
theorem rrn_s9 {ops : Array Oper} {aZ : Act} {w0 : World} {Q : Exit → Act → World → Prop} (b3 b4 : Nat) (a3 a4 : Option Addr) (c3 c4 : Nat) (u0 i7 iz : Bool) (e6 e8 ez : Int) (E : O_rrn ops) (ha0 : aZ.tmps.size = 108) :
    ∀ o, ops[9]? = some o → StepI Tryz.prog ops (p_rrn b3 b4 a3 a4 c3 c4 u0 i7 iz e6 e8 ez) (fun (_ : Array Bool) (_ : Act) (w : World) => Mod (fun _ => False) w0 w) aZ Q 9 o := by
  refine E.e9.stepI fun o hd ho hg hw => ?_
  intro y w listed hsz hls hun hwt hdown D' hRR hinv K hK
  have gv : y.tmps.getD 68 undef = .bool ((u0 && true) && (e6 == 1)) := E.e7.postI (Post := (p_rrn b3 b4 a3 a4 c3 c4 u0 i7 iz e6 e8 ez)) (a := y) (w := w) D' (hwt 7 (hw 7 (by simp)))
  have wt : Region.wanted o (yielded ops y.tmps) = ((u0 && true) && (e6 == 1)) := by
    rw [wanted_b E.e7 hg (by rw [hsz, ha0]; decide) gv]
    cases ((u0 && true) && (e6 == 1)) <;> rfl
  cases hc : ((u0 && true) && (e6 == 1))
  · exact .inr ⟨wt.trans hc, hK _ _ (fun _ _ _ _ _ _ h => h) (by show undef = if ((u0 && true) && (e6 == 1)) = true then .bool (e8 == 1) else undef; rw [hc]; rfl) hinv⟩
  · have f69 : y.eval (Operand.tmp 69) = .int .i64 e8 := (show y.eval (Operand.tmp 69) = (if ((u0 && true) && (e6 == 1)) = true then .int .i64 e8 else undef) from E.e8.postI (Post := (p_rrn b3 b4 a3 a4 c3 c4 u0 i7 iz e6 e8 ez)) (a := y) (w := w) D' (hwt 8 (hw 8 (by simp)))).trans (if_pos hc)
    exact .inl ⟨wt.trans hc, wp_value (rx_eqlT ho f69 rfl) (hK _ _ (fun _ _ _ _ _ _ h => h) (by show _ = if ((u0 && true) && (e6 == 1)) = true then .bool (e8 == 1) else undef; rw [hc]; rfl) hinv)⟩
set_option maxRecDepth 100000 in
set_option maxHeartbeats 4000000 in
theorem rrn_s10 {ops : Array Oper} {aZ : Act} {w0 : World} {Q : Exit → Act → World → Prop} (b3 b4 : Nat) (a3 a4 : Option Addr) (c3 c4 : Nat) (u0 i7 iz : Bool) (e6 e8 ez : Int) (E : O_rrn ops) :
    ∀ o, ops[10]? = some o → StepI Tryz.prog ops (p_rrn b3 b4 a3 a4 c3 c4 u0 i7 iz e6 e8 ez) (fun (_ : Array Bool) (_ : Act) (w : World) => Mod (fun _ => False) w0 w) aZ Q 10 o := by
  refine E.e10.stepI fun o hd ho hg hw => ?_
  intro y w listed hsz hls hun hwt hdown D' hRR hinv K hK
  have f68 : y.eval (Operand.tmp 68) = .bool ((u0 && true) && (e6 == 1)) := E.e7.postI (Post := (p_rrn b3 b4 a3 a4 c3 c4 u0 i7 iz e6 e8 ez)) (a := y) (w := w) D' (hwt 7 (hw 7 (by simp)))
  have f70 : y.eval (Operand.tmp 70) = if ((u0 && true) && (e6 == 1)) = true then .bool (e8 == 1) else undef := E.e9.postI (Post := (p_rrn b3 b4 a3 a4 c3 c4 u0 i7 iz e6 e8 ez)) (a := y) (w := w) D' (hwt 9 (hw 9 (by simp)))
  exact .inl ⟨wanted_none hg, wp_value (ox_pick (v := .bool (((u0 && true) && (e6 == 1)) && (e8 == 1))) ho f68 (by rw [f70]; cases ((u0 && true) && (e6 == 1)) <;> rfl)) (hK _ _ (fun _ _ _ _ _ _ h => h) rfl hinv)⟩
set_option maxRecDepth 100000 in
set_option maxHeartbeats 4000000 in
theorem rrn_s11 {ops : Array Oper} {aZ : Act} {w0 : World} {Q : Exit → Act → World → Prop} (b3 b4 : Nat) (a3 a4 : Option Addr) (c3 c4 : Nat) (u0 i7 iz : Bool) (e6 e8 ez : Int) (E : O_rrn ops) :
    ∀ o, ops[11]? = some o → StepI Tryz.prog ops (p_rrn b3 b4 a3 a4 c3 c4 u0 i7 iz e6 e8 ez) (fun (_ : Array Bool) (_ : Act) (w : World) => Mod (fun _ => False) w0 w) aZ Q 11 o := by
  refine E.e11.stepI fun o hd ho hg hw => ?_
  intro y w listed hsz hls hun hwt hdown D' hRR hinv K hK
  have f71 : y.eval (Operand.tmp 71) = .bool (((u0 && true) && (e6 == 1)) && (e8 == 1)) := E.e10.postI (Post := (p_rrn b3 b4 a3 a4 c3 c4 u0 i7 iz e6 e8 ez)) (a := y) (w := w) D' (hwt 10 (hw 10 (by simp)))
  exact .inl ⟨wanted_none hg, wp_value (ox_move ho f71) (hK _ _ (fun _ _ _ _ _ _ h => h) rfl hinv)⟩
set_option maxRecDepth 100000 in
set_option maxHeartbeats 4000000 in
theorem rrn_s12 {ops : Array Oper} {aZ : Act} {w0 : World} {Q : Exit → Act → World → Prop} (b3 b4 : Nat) (a3 a4 : Option Addr) (c3 c4 : Nat) (u0 i7 iz : Bool) (e6 e8 ez : Int) (E : O_rrn ops) (hds : dsts ops = [some 61, some 62, some 63, some 64, some 65, some 66, some 67, some 68, some 69, some 70, some 71, some 72, some 73, some 74, some 75, some 76, some 77, some 78, some 79, some 80, some 81, some 82, some 83, some 84, some 85, some 86, some 87, some 88, some 89, some 90, some 91, some 92, some 93, some 94, some 95, some 96, some 97, some 98, some 99, some 100, some 101, some 102, some 103, some 104, some 105, some 106, some 107, some 0]) (ha0 : aZ.tmps.size = 108) (bS7 : aZ.tmps.getD 7 undef = .bool i7) :
    ∀ o, ops[12]? = some o → StepI Tryz.prog ops (p_rrn b3 b4 a3 a4 c3 c4 u0 i7 iz e6 e8 ez) (fun (_ : Array Bool) (_ : Act) (w : World) => Mod (fun _ => False) w0 w) aZ Q 12 o := by
  refine E.e12.stepI fun o hd ho hg hw => ?_
  intro y w listed hsz hls hun hwt hdown D' hRR hinv K hK
  have gv : y.tmps.getD 72 undef = .bool (((u0 && true) && (e6 == 1)) && (e8 == 1)) := E.e11.postI (Post := (p_rrn b3 b4 a3 a4 c3 c4 u0 i7 iz e6 e8 ez)) (a := y) (w := w) D' (hwt 11 (hw 11 (by simp)))
  have wt : Region.wanted o (yielded ops y.tmps) = (((u0 && true) && (e6 == 1)) && (e8 == 1)) := by
    rw [wanted_b E.e11 hg (by rw [hsz, ha0]; decide) gv]
    cases (((u0 && true) && (e6 == 1)) && (e8 == 1)) <;> rfl
  cases hc : (((u0 && true) && (e6 == 1)) && (e8 == 1))
  · exact .inr ⟨wt.trans hc, hK _ _ (fun _ _ _ _ _ _ h => h) (by show undef = if (((u0 && true) && (e6 == 1)) && (e8 == 1)) = true then .bool i7 else undef; rw [hc]; rfl) hinv⟩
  · have f7 : y.eval (Operand.tmp 7) = .bool i7   := (hRR 7 (not_of (by rw [hds]; decide))).trans bS7
    exact .inl ⟨wt.trans hc, wp_value (ox_move ho f7) (hK _ _ (fun _ _ _ _ _ _ h => h) (by show _ = if (((u0 && true) && (e6 == 1)) && (e8 == 1)) = true then .bool i7 else undef; rw [hc]; rfl) hinv)⟩
set_option maxRecDepth 100000 in
set_option maxHeartbeats 4000000 in
theorem rrn_s13 {ops : Array Oper} {aZ : Act} {w0 : World} {Q : Exit → Act → World → Prop} (b3 b4 : Nat) (a3 a4 : Option Addr) (c3 c4 : Nat) (u0 i7 iz : Bool) (e6 e8 ez : Int) (E : O_rrn ops) (ha0 : aZ.tmps.size = 108) :
    ∀ o, ops[13]? = some o → StepI Tryz.prog ops (p_rrn b3 b4 a3 a4 c3 c4 u0 i7 iz e6 e8 ez) (fun (_ : Array Bool) (_ : Act) (w : World) => Mod (fun _ => False) w0 w) aZ Q 13 o := by
  refine E.e13.stepI fun o hd ho hg hw => ?_
  intro y w listed hsz hls hun hwt hdown D' hRR hinv K hK
  have gv : y.tmps.getD 72 undef = .bool (((u0 && true) && (e6 == 1)) && (e8 == 1)) := E.e11.postI (Post := (p_rrn b3 b4 a3 a4 c3 c4 u0 i7 iz e6 e8 ez)) (a := y) (w := w) D' (hwt 11 (hw 11 (by simp)))
  have wt : Region.wanted o (yielded ops y.tmps) = (((u0 && true) && (e6 == 1)) && (e8 == 1)) := by
    rw [wanted_b E.e11 hg (by rw [hsz, ha0]; decide) gv]
    cases (((u0 && true) && (e6 == 1)) && (e8 == 1)) <;> rfl
  cases hc : (((u0 && true) && (e6 == 1)) && (e8 == 1))
  · exact .inr ⟨wt.trans hc, hK _ _ (fun _ _ _ _ _ _ h => h) (by show undef = if (((u0 && true) && (e6 == 1)) && (e8 == 1)) = true then .bool (!i7) else undef; rw [hc]; rfl) hinv⟩
  · have f73 : y.eval (Operand.tmp 73) = .bool i7 := (show y.eval (Operand.tmp 73) = (if (((u0 && true) && (e6 == 1)) && (e8 == 1)) = true then .bool i7 else undef) from E.e12.postI (Post := (p_rrn b3 b4 a3 a4 c3 c4 u0 i7 iz e6 e8 ez)) (a := y) (w := w) D' (hwt 12 (hw 12 (by simp)))).trans (if_pos hc)
    exact .inl ⟨wt.trans hc, wp_value (ox_not ho f73) (hK _ _ (fun _ _ _ _ _ _ h => h) (by show _ = if (((u0 && true) && (e6 == 1)) && (e8 == 1)) = true then .bool (!i7) else undef; rw [hc]; rfl) hinv)⟩
set_option maxRecDepth 100000 in
set_option maxHeartbeats 4000000 in
theorem rrn_s14 {ops : Array Oper} {aZ : Act} {w0 : World} {Q : Exit → Act → World → Prop} (b3 b4 : Nat) (a3 a4 : Option Addr) (c3 c4 : Nat) (u0 i7 iz : Bool) (e6 e8 ez : Int) (E : O_rrn ops) :
    ∀ o, ops[14]? = some o → StepI Tryz.prog ops (p_rrn b3 b4 a3 a4 c3 c4 u0 i7 iz e6 e8 ez) (fun (_ : Array Bool) (_ : Act) (w : World) => Mod (fun _ => False) w0 w) aZ Q 14 o := by
  refine E.e14.stepI fun o hd ho hg hw => ?_
  intro y w listed hsz hls hun hwt hdown D' hRR hinv K hK
  have f72 : y.eval (Operand.tmp 72) = .bool (((u0 && true) && (e6 == 1)) && (e8 == 1)) := E.e11.postI (Post := (p_rrn b3 b4 a3 a4 c3 c4 u0 i7 iz e6 e8 ez)) (a := y) (w := w) D' (hwt 11 (hw 11 (by simp)))
  have f74 : y.eval (Operand.tmp 74) = if (((u0 && true) && (e6 == 1)) && (e8 == 1)) = true then .bool (!i7) else undef := E.e13.postI (Post := (p_rrn b3 b4 a3 a4 c3 c4 u0 i7 iz e6 e8 ez)) (a := y) (w := w) D' (hwt 13 (hw 13 (by simp)))
  exact .inl ⟨wanted_none hg, wp_value (ox_pick (v := .bool ((((u0 && true) && (e6 == 1)) && (e8 == 1)) && (!i7))) ho f72 (by rw [f74]; cases (((u0 && true) && (e6 == 1)) && (e8 == 1)) <;> rfl)) (hK _ _ (fun _ _ _ _ _ _ h => h) rfl hinv)⟩
set_option maxRecDepth 100000 in
set_option maxHeartbeats 4000000 in
theorem rrn_s15 {ops : Array Oper} {aZ : Act} {w0 : World} {Q : Exit → Act → World → Prop} (b3 b4 : Nat) (a3 a4 : Option Addr) (c3 c4 : Nat) (u0 i7 iz : Bool) (e6 e8 ez : Int) (E : O_rrn ops) :
    ∀ o, ops[15]? = some o → StepI Tryz.prog ops (p_rrn b3 b4 a3 a4 c3 c4 u0 i7 iz e6 e8 ez) (fun (_ : Array Bool) (_ : Act) (w : World) => Mod (fun _ => False) w0 w) aZ Q 15 o := by
  refine E.e15.stepI fun o hd ho hg hw => ?_
  intro y w listed hsz hls hun hwt hdown D' hRR hinv K hK
  have f75 : y.eval (Operand.tmp 75) = .bool ((((u0 && true) && (e6 == 1)) && (e8 == 1)) && (!i7)) := E.e14.postI (Post := (p_rrn b3 b4 a3 a4 c3 c4 u0 i7 iz e6 e8 ez)) (a := y) (w := w) D' (hwt 14 (hw 14 (by simp)))
  exact .inl ⟨wanted_none hg, wp_value (ox_move ho f75) (hK _ _ (fun _ _ _ _ _ _ h => h) rfl hinv)⟩
set_option maxRecDepth 100000 in
set_option maxHeartbeats 4000000 in
theorem rrn_s16 {ops : Array Oper} {aZ : Act} {w0 : World} {Q : Exit → Act → World → Prop} (b3 b4 : Nat) (a3 a4 : Option Addr) (c3 c4 : Nat) (u0 i7 iz : Bool) (e6 e8 ez : Int) (E : O_rrn ops) (hds : dsts ops = [some 61, some 62, some 63, some 64, some 65, some 66, some 67, some 68, some 69, some 70, some 71, some 72, some 73, some 74, some 75, some 76, some 77, some 78, some 79, some 80, some 81, some 82, some 83, some 84, some 85, some 86, some 87, some 88, some 89, some 90, some 91, some 92, some 93, some 94, some 95, some 96, some 97, some 98, some 99, some 100, some 101, some 102, some 103, some 104, some 105, some 106, some 107, some 0]) (ha0 : aZ.tmps.size = 108) (bS11 : aZ.tmps.getD 11 undef = .int .i64 ez) :
    ∀ o, ops[16]? = some o → StepI Tryz.prog ops (p_rrn b3 b4 a3 a4 c3 c4 u0 i7 iz e6 e8 ez) (fun (_ : Array Bool) (_ : Act) (w : World) => Mod (fun _ => False) w0 w) aZ Q 16 o := by
  refine E.e16.stepI fun o hd ho hg hw => ?_
  intro y w listed hsz hls hun hwt hdown D' hRR hinv K hK
  have gv : y.tmps.getD 76 undef = .bool ((((u0 && true) && (e6 == 1)) && (e8 == 1)) && (!i7)) := E.e15.postI (Post := (p_rrn b3 b4 a3 a4 c3 c4 u0 i7 iz e6 e8 ez)) (a := y) (w := w) D' (hwt 15 (hw 15 (by simp)))
  have wt : Region.wanted o (yielded ops y.tmps) = ((((u0 && true) && (e6 == 1)) && (e8 == 1)) && (!i7)) := by
    rw [wanted_b E.e15 hg (by rw [hsz, ha0]; decide) gv]
    cases ((((u0 && true) && (e6 == 1)) && (e8 == 1)) && (!i7)) <;> rfl
  cases hc : ((((u0 && true) && (e6 == 1)) && (e8 == 1)) && (!i7))
  · exact .inr ⟨wt.trans hc, hK _ _ (fun _ _ _ _ _ _ h => h) (by show undef = if ((((u0 && true) && (e6 == 1)) && (e8 == 1)) && (!i7)) = true then .int .i64 ez else undef; rw [hc]; rfl) hinv⟩
  · have f11 : y.eval (Operand.tmp 11) = .int .i64 ez   := (hRR 11 (not_of (by rw [hds]; decide))).trans bS11
    exact .inl ⟨wt.trans hc, wp_value (ox_move ho f11) (hK _ _ (fun _ _ _ _ _ _ h => h) (by show _ = if ((((u0 && true) && (e6 == 1)) && (e8 == 1)) && (!i7)) = true then .int .i64 ez else undef; rw [hc]; rfl) hinv)⟩
set_option maxRecDepth 100000 in
set_option maxHeartbeats 4000000 in
theorem rrn_s17 {ops : Array Oper} {aZ : Act} {w0 : World} {Q : Exit → Act → World → Prop} (b3 b4 : Nat) (a3 a4 : Option Addr) (c3 c4 : Nat) (u0 i7 iz : Bool) (e6 e8 ez : Int) (E : O_rrn ops) (ha0 : aZ.tmps.size = 108) :
    ∀ o, ops[17]? = some o → StepI Tryz.prog ops (p_rrn b3 b4 a3 a4 c3 c4 u0 i7 iz e6 e8 ez) (fun (_ : Array Bool) (_ : Act) (w : World) => Mod (fun _ => False) w0 w) aZ Q 17 o := by
  refine E.e17.stepI fun o hd ho hg hw => ?_
  intro y w listed hsz hls hun hwt hdown D' hRR hinv K hK
  have gv : y.tmps.getD 76 undef = .bool ((((u0 && true) && (e6 == 1)) && (e8 == 1)) && (!i7)) := E.e15.postI (Post := (p_rrn b3 b4 a3 a4 c3 c4 u0 i7 iz e6 e8 ez)) (a := y) (w := w) D' (hwt 15 (hw 15 (by simp)))
  have wt : Region.wanted o (yielded ops y.tmps) = ((((u0 && true) && (e6 == 1)) && (e8 == 1)) && (!i7)) := by
    rw [wanted_b E.e15 hg (by rw [hsz, ha0]; decide) gv]
    cases ((((u0 && true) && (e6 == 1)) && (e8 == 1)) && (!i7)) <;> rfl
  cases hc : ((((u0 && true) && (e6 == 1)) && (e8 == 1)) && (!i7))
  · exact .inr ⟨wt.trans hc, hK _ _ (fun _ _ _ _ _ _ h => h) (by show undef = if ((((u0 && true) && (e6 == 1)) && (e8 == 1)) && (!i7)) = true then .bool (ez == 2) else undef; rw [hc]; rfl) hinv⟩
  · have f77 : y.eval (Operand.tmp 77) = .int .i64 ez := (show y.eval (Operand.tmp 77) = (if ((((u0 && true) && (e6 == 1)) && (e8 == 1)) && (!i7)) = true then .int .i64 ez else undef) from E.e16.postI (Post := (p_rrn b3 b4 a3 a4 c3 c4 u0 i7 iz e6 e8 ez)) (a := y) (w := w) D' (hwt 16 (hw 16 (by simp)))).trans (if_pos hc)
    exact .inl ⟨wt.trans hc, wp_value (rx_eqlT ho f77 rfl) (hK _ _ (fun _ _ _ _ _ _ h => h) (by show _ = if ((((u0 && true) && (e6 == 1)) && (e8 == 1)) && (!i7)) = true then .bool (ez == 2) else undef; rw [hc]; rfl) hinv)⟩
set_option maxRecDepth 100000 in
set_option maxHeartbeats 4000000 in
theorem rrn_s18 {ops : Array Oper} {aZ : Act} {w0 : World} {Q : Exit → Act → World → Prop} (b3 b4 : Nat) (a3 a4 : Option Addr) (c3 c4 : Nat) (u0 i7 iz : Bool) (e6 e8 ez : Int) (E : O_rrn ops) :
    ∀ o, ops[18]? = some o → StepI Tryz.prog ops (p_rrn b3 b4 a3 a4 c3 c4 u0 i7 iz e6 e8 ez) (fun (_ : Array Bool) (_ : Act) (w : World) => Mod (fun _ => False) w0 w) aZ Q 18 o := by
  refine E.e18.stepI fun o hd ho hg hw => ?_
  intro y w listed hsz hls hun hwt hdown D' hRR hinv K hK
  have f76 : y.eval (Operand.tmp 76) = .bool ((((u0 && true) && (e6 == 1)) && (e8 == 1)) && (!i7)) := E.e15.postI (Post := (p_rrn b3 b4 a3 a4 c3 c4 u0 i7 iz e6 e8 ez)) (a := y) (w := w) D' (hwt 15 (hw 15 (by simp)))
  have f78 : y.eval (Operand.tmp 78) = if ((((u0 && true) && (e6 == 1)) && (e8 == 1)) && (!i7)) = true then .bool (ez == 2) else undef := E.e17.postI (Post := (p_rrn b3 b4 a3 a4 c3 c4 u0 i7 iz e6 e8 ez)) (a := y) (w := w) D' (hwt 17 (hw 17 (by simp)))
  exact .inl ⟨wanted_none hg, wp_value (ox_pick (v := .bool (((((u0 && true) && (e6 == 1)) && (e8 == 1)) && (!i7)) && (ez == 2))) ho f76 (by rw [f78]; cases ((((u0 && true) && (e6 == 1)) && (e8 == 1)) && (!i7)) <;> rfl)) (hK _ _ (fun _ _ _ _ _ _ h => h) rfl hinv)⟩
set_option maxRecDepth 100000 in
set_option maxHeartbeats 4000000 in
theorem rrn_s19 {ops : Array Oper} {aZ : Act} {w0 : World} {Q : Exit → Act → World → Prop} (b3 b4 : Nat) (a3 a4 : Option Addr) (c3 c4 : Nat) (u0 i7 iz : Bool) (e6 e8 ez : Int) (E : O_rrn ops) :
    ∀ o, ops[19]? = some o → StepI Tryz.prog ops (p_rrn b3 b4 a3 a4 c3 c4 u0 i7 iz e6 e8 ez) (fun (_ : Array Bool) (_ : Act) (w : World) => Mod (fun _ => False) w0 w) aZ Q 19 o := by
  refine E.e19.stepI fun o hd ho hg hw => ?_
  intro y w listed hsz hls hun hwt hdown D' hRR hinv K hK
  have f79 : y.eval (Operand.tmp 79) = .bool (((((u0 && true) && (e6 == 1)) && (e8 == 1)) && (!i7)) && (ez == 2)) := E.e18.postI (Post := (p_rrn b3 b4 a3 a4 c3 c4 u0 i7 iz e6 e8 ez)) (a := y) (w := w) D' (hwt 18 (hw 18 (by simp)))
  exact .inl ⟨wanted_none hg, wp_value (ox_move ho f79) (hK _ _ (fun _ _ _ _ _ _ h => h) rfl hinv)⟩
set_option maxRecDepth 100000 in
set_option maxHeartbeats 4000000 in
theorem rrn_s20 {ops : Array Oper} {aZ : Act} {w0 : World} {Q : Exit → Act → World → Prop} (b3 b4 : Nat) (a3 a4 : Option Addr) (c3 c4 : Nat) (u0 i7 iz : Bool) (e6 e8 ez : Int) (E : O_rrn ops) (hds : dsts ops = [some 61, some 62, some 63, some 64, some 65, some 66, some 67, some 68, some 69, some 70, some 71, some 72, some 73, some 74, some 75, some 76, some 77, some 78, some 79, some 80, some 81, some 82, some 83, some 84, some 85, some 86, some 87, some 88, some 89, some 90, some 91, some 92, some 93, some 94, some 95, some 96, some 97, some 98, some 99, some 100, some 101, some 102, some 103, some 104, some 105, some 106, some 107, some 0]) (ha0 : aZ.tmps.size = 108) (bS10 : aZ.tmps.getD 10 undef = .bool iz) :
    ∀ o, ops[20]? = some o → StepI Tryz.prog ops (p_rrn b3 b4 a3 a4 c3 c4 u0 i7 iz e6 e8 ez) (fun (_ : Array Bool) (_ : Act) (w : World) => Mod (fun _ => False) w0 w) aZ Q 20 o := by
  refine E.e20.stepI fun o hd ho hg hw => ?_
  intro y w listed hsz hls hun hwt hdown D' hRR hinv K hK
  have gv : y.tmps.getD 80 undef = .bool (((((u0 && true) && (e6 == 1)) && (e8 == 1)) && (!i7)) && (ez == 2)) := E.e19.postI (Post := (p_rrn b3 b4 a3 a4 c3 c4 u0 i7 iz e6 e8 ez)) (a := y) (w := w) D' (hwt 19 (hw 19 (by simp)))
  have wt : Region.wanted o (yielded ops y.tmps) = (((((u0 && true) && (e6 == 1)) && (e8 == 1)) && (!i7)) && (ez == 2)) := by
    rw [wanted_b E.e19 hg (by rw [hsz, ha0]; decide) gv]
    cases (((((u0 && true) && (e6 == 1)) && (e8 == 1)) && (!i7)) && (ez == 2)) <;> rfl
  cases hc : (((((u0 && true) && (e6 == 1)) && (e8 == 1)) && (!i7)) && (ez == 2))
  · exact .inr ⟨wt.trans hc, hK _ _ (fun _ _ _ _ _ _ h => h) (by show undef = if (((((u0 && true) && (e6 == 1)) && (e8 == 1)) && (!i7)) && (ez == 2)) = true then .bool iz else undef; rw [hc]; rfl) hinv⟩
  · have f10 : y.eval (Operand.tmp 10) = .bool iz   := (hRR 10 (not_of (by rw [hds]; decide))).trans bS10
    exact .inl ⟨wt.trans hc, wp_value (ox_move ho f10) (hK _ _ (fun _ _ _ _ _ _ h => h) (by show _ = if (((((u0 && true) && (e6 == 1)) && (e8 == 1)) && (!i7)) && (ez == 2)) = true then .bool iz else undef; rw [hc]; rfl) hinv)⟩
set_option maxRecDepth 100000 in
set_option maxHeartbeats 4000000 in
theorem rrn_s21 {ops : Array Oper} {aZ : Act} {w0 : World} {Q : Exit → Act → World → Prop} (b3 b4 : Nat) (a3 a4 : Option Addr) (c3 c4 : Nat) (u0 i7 iz : Bool) (e6 e8 ez : Int) (E : O_rrn ops) (ha0 : aZ.tmps.size = 108) :
    ∀ o, ops[21]? = some o → StepI Tryz.prog ops (p_rrn b3 b4 a3 a4 c3 c4 u0 i7 iz e6 e8 ez) (fun (_ : Array Bool) (_ : Act) (w : World) => Mod (fun _ => False) w0 w) aZ Q 21 o := by
  refine E.e21.stepI fun o hd ho hg hw => ?_
  intro y w listed hsz hls hun hwt hdown D' hRR hinv K hK
  have gv : y.tmps.getD 80 undef = .bool (((((u0 && true) && (e6 == 1)) && (e8 == 1)) && (!i7)) && (ez == 2)) := E.e19.postI (Post := (p_rrn b3 b4 a3 a4 c3 c4 u0 i7 iz e6 e8 ez)) (a := y) (w := w) D' (hwt 19 (hw 19 (by simp)))
  have wt : Region.wanted o (yielded ops y.tmps) = (((((u0 && true) && (e6 == 1)) && (e8 == 1)) && (!i7)) && (ez == 2)) := by
    rw [wanted_b E.e19 hg (by rw [hsz, ha0]; decide) gv]
    cases (((((u0 && true) && (e6 == 1)) && (e8 == 1)) && (!i7)) && (ez == 2)) <;> rfl
  cases hc : (((((u0 && true) && (e6 == 1)) && (e8 == 1)) && (!i7)) && (ez == 2))
  · exact .inr ⟨wt.trans hc, hK _ _ (fun _ _ _ _ _ _ h => h) (by show undef = if (((((u0 && true) && (e6 == 1)) && (e8 == 1)) && (!i7)) && (ez == 2)) = true then .bool (!iz) else undef; rw [hc]; rfl) hinv⟩
  · have f81 : y.eval (Operand.tmp 81) = .bool iz := (show y.eval (Operand.tmp 81) = (if (((((u0 && true) && (e6 == 1)) && (e8 == 1)) && (!i7)) && (ez == 2)) = true then .bool iz else undef) from E.e20.postI (Post := (p_rrn b3 b4 a3 a4 c3 c4 u0 i7 iz e6 e8 ez)) (a := y) (w := w) D' (hwt 20 (hw 20 (by simp)))).trans (if_pos hc)
    exact .inl ⟨wt.trans hc, wp_value (ox_not ho f81) (hK _ _ (fun _ _ _ _ _ _ h => h) (by show _ = if (((((u0 && true) && (e6 == 1)) && (e8 == 1)) && (!i7)) && (ez == 2)) = true then .bool (!iz) else undef; rw [hc]; rfl) hinv)⟩
set_option maxRecDepth 100000 in
set_option maxHeartbeats 4000000 in
theorem rrn_s22 {ops : Array Oper} {aZ : Act} {w0 : World} {Q : Exit → Act → World → Prop} (b3 b4 : Nat) (a3 a4 : Option Addr) (c3 c4 : Nat) (u0 i7 iz : Bool) (e6 e8 ez : Int) (E : O_rrn ops) :
    ∀ o, ops[22]? = some o → StepI Tryz.prog ops (p_rrn b3 b4 a3 a4 c3 c4 u0 i7 iz e6 e8 ez) (fun (_ : Array Bool) (_ : Act) (w : World) => Mod (fun _ => False) w0 w) aZ Q 22 o := by
  refine E.e22.stepI fun o hd ho hg hw => ?_
  intro y w listed hsz hls hun hwt hdown D' hRR hinv K hK
  have f80 : y.eval (Operand.tmp 80) = .bool (((((u0 && true) && (e6 == 1)) && (e8 == 1)) && (!i7)) && (ez == 2)) := E.e19.postI (Post := (p_rrn b3 b4 a3 a4 c3 c4 u0 i7 iz e6 e8 ez)) (a := y) (w := w) D' (hwt 19 (hw 19 (by simp)))
  have f82 : y.eval (Operand.tmp 82) = if (((((u0 && true) && (e6 == 1)) && (e8 == 1)) && (!i7)) && (ez == 2)) = true then .bool (!iz) else undef := E.e21.postI (Post := (p_rrn b3 b4 a3 a4 c3 c4 u0 i7 iz e6 e8 ez)) (a := y) (w := w) D' (hwt 21 (hw 21 (by simp)))
  exact .inl ⟨wanted_none hg, wp_value (ox_pick (v := .bool ((((((u0 && true) && (e6 == 1)) && (e8 == 1)) && (!i7)) && (ez == 2)) && (!iz))) ho f80 (by rw [f82]; cases (((((u0 && true) && (e6 == 1)) && (e8 == 1)) && (!i7)) && (ez == 2)) <;> rfl)) (hK _ _ (fun _ _ _ _ _ _ h => h) rfl hinv)⟩
set_option maxRecDepth 100000 in
set_option maxHeartbeats 4000000 in
theorem rrn_s23 {ops : Array Oper} {aZ : Act} {w0 : World} {Q : Exit → Act → World → Prop} (b3 b4 : Nat) (a3 a4 : Option Addr) (c3 c4 : Nat) (u0 i7 iz : Bool) (e6 e8 ez : Int) (E : O_rrn ops) :
    ∀ o, ops[23]? = some o → StepI Tryz.prog ops (p_rrn b3 b4 a3 a4 c3 c4 u0 i7 iz e6 e8 ez) (fun (_ : Array Bool) (_ : Act) (w : World) => Mod (fun _ => False) w0 w) aZ Q 23 o := by
  refine E.e23.stepI fun o hd ho hg hw => ?_
  intro y w listed hsz hls hun hwt hdown D' hRR hinv K hK
  have f83 : y.eval (Operand.tmp 83) = .bool ((((((u0 && true) && (e6 == 1)) && (e8 == 1)) && (!i7)) && (ez == 2)) && (!iz)) := E.e22.postI (Post := (p_rrn b3 b4 a3 a4 c3 c4 u0 i7 iz e6 e8 ez)) (a := y) (w := w) D' (hwt 22 (hw 22 (by simp)))
  exact .inl ⟨wanted_none hg, wp_value (ox_move ho f83) (hK _ _ (fun _ _ _ _ _ _ h => h) rfl hinv)⟩
set_option maxRecDepth 100000 in
set_option maxHeartbeats 4000000 in
theorem rrn_s24 {ops : Array Oper} {aZ : Act} {w0 : World} {Q : Exit → Act → World → Prop} (b3 b4 : Nat) (a3 a4 : Option Addr) (c3 c4 : Nat) (u0 i7 iz : Bool) (e6 e8 ez : Int) (E : O_rrn ops) (ha0 : aZ.tmps.size = 108) (H24 : ∀ (W : World), Mod (fun _ => False) w0 W → Calls Tryz.prog 28 #[.int .i64 1] W fun e w' => ∃ a1 c1, e = .returned (.agg #[.int .i64 (onR 2 1 1).q, .int .i64 (onR 2 1 1).r, .int .i64 (onR 2 1 1).n, .int .i64 (onR 2 1 1).s, .int .i64 (onR 2 1 1).t, .int .i64 (onR 2 1 1).m.kind, .int .i64 (onR 2 1 1).m.origin, .int .i64 (onR 2 1 1).m.life, .int .i64 (onR 2 1 1).m.id, .int .i64 (onR 2 1 1).m.part, .int .i64 (onR 2 1 1).m.parts, .int .i64 (onR 2 1 1).m.groups, .bool (onR 2 1 1).m.safe, .int .i64 (onR 2 1 1).m.st, .int .i64 (onR 2 1 1).m.rs, .int .i64 (onR 2 1 1).m.rr, .int .i64 (onR 2 1 1).m.sq, .slice a1 1 c1]) ∧ Own w' (.slice a1 1 c1) [1] ∧ Mod (fun _ => False) W w') :
    ∀ o, ops[24]? = some o → StepI Tryz.prog ops (p_rrn b3 b4 a3 a4 c3 c4 u0 i7 iz e6 e8 ez) (fun (_ : Array Bool) (_ : Act) (w : World) => Mod (fun _ => False) w0 w) aZ Q 24 o := by
  have hstay : ∀ (i : Nat) (v : Value) (w w1 : World), Mod (fun _ => False) w w1 → (p_rrn b3 b4 a3 a4 c3 c4 u0 i7 iz e6 e8 ez) i v w → (p_rrn b3 b4 a3 a4 c3 c4 u0 i7 iz e6 e8 ez) i v w1 := fun i v w w' hm h => p_rrn_stab _ _ _ _ _ _ _ _ _ _ _ _ i v w w' hm h
  refine E.e24.stepI fun o hd ho hg hw => ?_
  intro y w listed hsz hls hun hwt hdown D' hRR hinv K hK
  have gv : y.tmps.getD 84 undef = .bool ((((((u0 && true) && (e6 == 1)) && (e8 == 1)) && (!i7)) && (ez == 2)) && (!iz)) := E.e23.postI (Post := (p_rrn b3 b4 a3 a4 c3 c4 u0 i7 iz e6 e8 ez)) (a := y) (w := w) D' (hwt 23 (hw 23 (by simp)))
  have wt : Region.wanted o (yielded ops y.tmps) = ((((((u0 && true) && (e6 == 1)) && (e8 == 1)) && (!i7)) && (ez == 2)) && (!iz)) := by
    rw [wanted_b E.e23 hg (by rw [hsz, ha0]; decide) gv]
    cases ((((((u0 && true) && (e6 == 1)) && (e8 == 1)) && (!i7)) && (ez == 2)) && (!iz)) <;> rfl
  cases hc : ((((((u0 && true) && (e6 == 1)) && (e8 == 1)) && (!i7)) && (ez == 2)) && (!iz))
  · exact .inr ⟨wt.trans hc, hK _ _ (fun _ _ _ _ _ _ h => h) ⟨fun h => (by rw [hc] at h; cases h), fun _ => rfl⟩ hinv⟩
  · refine .inl ⟨wt.trans hc, wp_enter (f := 28) (args := #[.int .i64 1]) ?_ (H24 w  hinv ) ?_⟩
    · have h := exec_call1 y.eval (fun args w => by simp [go_sem]) rfl ho (w := w)
      exact h
    · rintro e w' ⟨a1, c1, rfl, hpp, hm⟩
      exact ⟨_, rfl, hK _ _ (fun j oj d _ _ _ h => hstay _ _ _ _ hm h) ⟨fun _ => ⟨a1, c1, rfl, hpp⟩, fun h => (by rw [hc] at h; cases h)⟩ (hinv.and hm)⟩
set_option maxRecDepth 100000 in
set_option maxHeartbeats 4000000 in
theorem rrn_s25 {ops : Array Oper} {aZ : Act} {w0 : World} {Q : Exit → Act → World → Prop} (b3 b4 : Nat) (a3 a4 : Option Addr) (c3 c4 : Nat) (u0 i7 iz : Bool) (e6 e8 ez : Int) (E : O_rrn ops) (hds : dsts ops = [some 61, some 62, some 63, some 64, some 65, some 66, some 67, some 68, some 69, some 70, some 71, some 72, some 73, some 74, some 75, some 76, some 77, some 78, some 79, some 80, some 81, some 82, some 83, some 84, some 85, some 86, some 87, some 88, some 89, some 90, some 91, some 92, some 93, some 94, some 95, some 96, some 97, some 98, some 99, some 100, some 101, some 102, some 103, some 104, some 105, some 106, some 107, some 0]) (ha0 : aZ.tmps.size = 108) (bS12 : aZ.tmps.getD 12 undef = .pointer (some ⟨b3, 0, none⟩)) (k_b3_0 : w0.cell? ⟨b3, 0, none⟩ = some (.int .i64 (onR 2 1 3).q)) (k_b3_1 : w0.cell? ⟨b3, 1, none⟩ = some (.int .i64 (onR 2 1 3).r)) (k_b3_2 : w0.cell? ⟨b3, 2, none⟩ = some (.int .i64 (onR 2 1 3).n)) (k_b3_3 : w0.cell? ⟨b3, 3, none⟩ = some (.int .i64 (onR 2 1 3).s)) (k_b3_4 : w0.cell? ⟨b3, 4, none⟩ = some (.int .i64 (onR 2 1 3).t)) (k_b3_5 : w0.cell? ⟨b3, 5, none⟩ = some (.int .i64 (onR 2 1 3).m.kind)) (k_b3_6 : w0.cell? ⟨b3, 6, none⟩ = some (.int .i64 0)) (k_b3_7 : w0.cell? ⟨b3, 7, none⟩ = some (.int .i64 (onR 2 1 3).m.life)) (k_b3_8 : w0.cell? ⟨b3, 8, none⟩ = some (.int .i64 (onR 2 1 3).m.id)) (k_b3_9 : w0.cell? ⟨b3, 9, none⟩ = some (.int .i64 (onR 2 1 3).m.part)) (k_b3_10 : w0.cell? ⟨b3, 10, none⟩ = some (.int .i64 (onR 2 1 3).m.parts)) (k_b3_11 : w0.cell? ⟨b3, 11, none⟩ = some (.int .i64 (onR 2 1 3).m.groups)) (k_b3_12 : w0.cell? ⟨b3, 12, none⟩ = some (.bool (onR 2 1 3).m.safe)) (k_b3_13 : w0.cell? ⟨b3, 13, none⟩ = some (.int .i64 (onR 2 1 3).m.st)) (k_b3_14 : w0.cell? ⟨b3, 14, none⟩ = some (.int .i64 (onR 2 1 3).m.rs)) (k_b3_15 : w0.cell? ⟨b3, 15, none⟩ = some (.int .i64 (onR 2 1 3).m.rr)) (k_b3_16 : w0.cell? ⟨b3, 16, none⟩ = some (.int .i64 (onR 2 1 3).m.sq)) (k_b3_17 : w0.cell? ⟨b3, 17, none⟩ = some (.slice a3 1 c3)) :
    ∀ o, ops[25]? = some o → StepI Tryz.prog ops (p_rrn b3 b4 a3 a4 c3 c4 u0 i7 iz e6 e8 ez) (fun (_ : Array Bool) (_ : Act) (w : World) => Mod (fun _ => False) w0 w) aZ Q 25 o := by
  refine E.e25.stepI fun o hd ho hg hw => ?_
  intro y w listed hsz hls hun hwt hdown D' hRR hinv K hK
  have gv : y.tmps.getD 84 undef = .bool ((((((u0 && true) && (e6 == 1)) && (e8 == 1)) && (!i7)) && (ez == 2)) && (!iz)) := E.e23.postI (Post := (p_rrn b3 b4 a3 a4 c3 c4 u0 i7 iz e6 e8 ez)) (a := y) (w := w) D' (hwt 23 (hw 23 (by simp)))
  have wt : Region.wanted o (yielded ops y.tmps) = ((((((u0 && true) && (e6 == 1)) && (e8 == 1)) && (!i7)) && (ez == 2)) && (!iz)) := by
    rw [wanted_b E.e23 hg (by rw [hsz, ha0]; decide) gv]
    cases ((((((u0 && true) && (e6 == 1)) && (e8 == 1)) && (!i7)) && (ez == 2)) && (!iz)) <;> rfl
  cases hc : ((((((u0 && true) && (e6 == 1)) && (e8 == 1)) && (!i7)) && (ez == 2)) && (!iz))
  · exact .inr ⟨wt.trans hc, hK _ _ (fun _ _ _ _ _ _ h => h) (by show undef = if ((((((u0 && true) && (e6 == 1)) && (e8 == 1)) && (!i7)) && (ez == 2)) && (!iz)) = true then .agg #[.int .i64 (onR 2 1 3).q, .int .i64 (onR 2 1 3).r, .int .i64 (onR 2 1 3).n, .int .i64 (onR 2 1 3).s, .int .i64 (onR 2 1 3).t, .int .i64 (onR 2 1 3).m.kind, .int .i64 0, .int .i64 (onR 2 1 3).m.life, .int .i64 (onR 2 1 3).m.id, .int .i64 (onR 2 1 3).m.part, .int .i64 (onR 2 1 3).m.parts, .int .i64 (onR 2 1 3).m.groups, .bool (onR 2 1 3).m.safe, .int .i64 (onR 2 1 3).m.st, .int .i64 (onR 2 1 3).m.rs, .int .i64 (onR 2 1 3).m.rr, .int .i64 (onR 2 1 3).m.sq, .slice a3 1 c3] else undef; rw [hc]; rfl) hinv⟩
  · have f12 : y.eval (Operand.tmp 12) = .pointer (some ⟨b3, 0, none⟩)   := (hRR 12 (not_of (by rw [hds]; decide))).trans bS12
    have h0 := hinv.cell k_b3_0 (fun h => h)
    have h1 := hinv.cell k_b3_1 (fun h => h)
    have h2 := hinv.cell k_b3_2 (fun h => h)
    have h3 := hinv.cell k_b3_3 (fun h => h)
    have h4 := hinv.cell k_b3_4 (fun h => h)
    have h5 := hinv.cell k_b3_5 (fun h => h)
    have h6 := hinv.cell k_b3_6 (fun h => h)
    have h7 := hinv.cell k_b3_7 (fun h => h)
    have h8 := hinv.cell k_b3_8 (fun h => h)
    have h9 := hinv.cell k_b3_9 (fun h => h)
    have h10 := hinv.cell k_b3_10 (fun h => h)
    have h11 := hinv.cell k_b3_11 (fun h => h)
    have h12 := hinv.cell k_b3_12 (fun h => h)
    have h13 := hinv.cell k_b3_13 (fun h => h)
    have h14 := hinv.cell k_b3_14 (fun h => h)
    have h15 := hinv.cell k_b3_15 (fun h => h)
    have h16 := hinv.cell k_b3_16 (fun h => h)
    have h17 := hinv.cell k_b3_17 (fun h => h)
    exact .inl ⟨wt.trans hc, wp_value (ox_load (v := .agg #[.int .i64 (onR 2 1 3).q, .int .i64 (onR 2 1 3).r, .int .i64 (onR 2 1 3).n, .int .i64 (onR 2 1 3).s, .int .i64 (onR 2 1 3).t, .int .i64 (onR 2 1 3).m.kind, .int .i64 0, .int .i64 (onR 2 1 3).m.life, .int .i64 (onR 2 1 3).m.id, .int .i64 (onR 2 1 3).m.part, .int .i64 (onR 2 1 3).m.parts, .int .i64 (onR 2 1 3).m.groups, .bool (onR 2 1 3).m.safe, .int .i64 (onR 2 1 3).m.st, .int .i64 (onR 2 1 3).m.rs, .int .i64 (onR 2 1 3).m.rr, .int .i64 (onR 2 1 3).m.sq, .slice a3 1 c3]) ho f12 (by simp [go_sem, h0, h1, h2, h3, h4, h5, h6, h7, h8, h9, h10, h11, h12, h13, h14, h15, h16, h17])) (hK _ _ (fun _ _ _ _ _ _ h => h) (by show _ = if ((((((u0 && true) && (e6 == 1)) && (e8 == 1)) && (!i7)) && (ez == 2)) && (!iz)) = true then .agg #[.int .i64 (onR 2 1 3).q, .int .i64 (onR 2 1 3).r, .int .i64 (onR 2 1 3).n, .int .i64 (onR 2 1 3).s, .int .i64 (onR 2 1 3).t, .int .i64 (onR 2 1 3).m.kind, .int .i64 0, .int .i64 (onR 2 1 3).m.life, .int .i64 (onR 2 1 3).m.id, .int .i64 (onR 2 1 3).m.part, .int .i64 (onR 2 1 3).m.parts, .int .i64 (onR 2 1 3).m.groups, .bool (onR 2 1 3).m.safe, .int .i64 (onR 2 1 3).m.st, .int .i64 (onR 2 1 3).m.rs, .int .i64 (onR 2 1 3).m.rr, .int .i64 (onR 2 1 3).m.sq, .slice a3 1 c3] else undef; rw [hc]; rfl) hinv)⟩
set_option maxRecDepth 100000 in
set_option maxHeartbeats 4000000 in
theorem rrn_s26 {ops : Array Oper} {aZ : Act} {w0 : World} {Q : Exit → Act → World → Prop} (b3 b4 : Nat) (a3 a4 : Option Addr) (c3 c4 : Nat) (u0 i7 iz : Bool) (e6 e8 ez : Int) (E : O_rrn ops) (ha0 : aZ.tmps.size = 108) (H26 : ∀ (W : World), Mod (fun _ => False) w0 W → Calls Tryz.prog 28 #[.int .i64 2] W fun e w' => ∃ a2 c2, e = .returned (.agg #[.int .i64 (onR 2 1 2).q, .int .i64 (onR 2 1 2).r, .int .i64 (onR 2 1 2).n, .int .i64 (onR 2 1 2).s, .int .i64 (onR 2 1 2).t, .int .i64 (onR 2 1 2).m.kind, .int .i64 (onR 2 1 2).m.origin, .int .i64 (onR 2 1 2).m.life, .int .i64 (onR 2 1 2).m.id, .int .i64 (onR 2 1 2).m.part, .int .i64 (onR 2 1 2).m.parts, .int .i64 (onR 2 1 2).m.groups, .bool (onR 2 1 2).m.safe, .int .i64 (onR 2 1 2).m.st, .int .i64 (onR 2 1 2).m.rs, .int .i64 (onR 2 1 2).m.rr, .int .i64 (onR 2 1 2).m.sq, .slice a2 1 c2]) ∧ Own w' (.slice a2 1 c2) [2] ∧ Mod (fun _ => False) W w') :
    ∀ o, ops[26]? = some o → StepI Tryz.prog ops (p_rrn b3 b4 a3 a4 c3 c4 u0 i7 iz e6 e8 ez) (fun (_ : Array Bool) (_ : Act) (w : World) => Mod (fun _ => False) w0 w) aZ Q 26 o := by
  have hstay : ∀ (i : Nat) (v : Value) (w w1 : World), Mod (fun _ => False) w w1 → (p_rrn b3 b4 a3 a4 c3 c4 u0 i7 iz e6 e8 ez) i v w → (p_rrn b3 b4 a3 a4 c3 c4 u0 i7 iz e6 e8 ez) i v w1 := fun i v w w' hm h => p_rrn_stab _ _ _ _ _ _ _ _ _ _ _ _ i v w w' hm h
  refine E.e26.stepI fun o hd ho hg hw => ?_
  intro y w listed hsz hls hun hwt hdown D' hRR hinv K hK
  have gv : y.tmps.getD 84 undef = .bool ((((((u0 && true) && (e6 == 1)) && (e8 == 1)) && (!i7)) && (ez == 2)) && (!iz)) := E.e23.postI (Post := (p_rrn b3 b4 a3 a4 c3 c4 u0 i7 iz e6 e8 ez)) (a := y) (w := w) D' (hwt 23 (hw 23 (by simp)))
  have wt : Region.wanted o (yielded ops y.tmps) = ((((((u0 && true) && (e6 == 1)) && (e8 == 1)) && (!i7)) && (ez == 2)) && (!iz)) := by
    rw [wanted_b E.e23 hg (by rw [hsz, ha0]; decide) gv]
    cases ((((((u0 && true) && (e6 == 1)) && (e8 == 1)) && (!i7)) && (ez == 2)) && (!iz)) <;> rfl
  cases hc : ((((((u0 && true) && (e6 == 1)) && (e8 == 1)) && (!i7)) && (ez == 2)) && (!iz))
  · exact .inr ⟨wt.trans hc, hK _ _ (fun _ _ _ _ _ _ h => h) ⟨fun h => (by rw [hc] at h; cases h), fun _ => rfl⟩ hinv⟩
  · refine .inl ⟨wt.trans hc, wp_enter (f := 28) (args := #[.int .i64 2]) ?_ (H26 w  hinv ) ?_⟩
    · have h := exec_call1 y.eval (fun args w => by simp [go_sem]) rfl ho (w := w)
      exact h
    · rintro e w' ⟨a2, c2, rfl, hpp, hm⟩
      exact ⟨_, rfl, hK _ _ (fun j oj d _ _ _ h => hstay _ _ _ _ hm h) ⟨fun _ => ⟨a2, c2, rfl, hpp⟩, fun h => (by rw [hc] at h; cases h)⟩ (hinv.and hm)⟩
set_option maxRecDepth 100000 in
set_option maxHeartbeats 4000000 in
theorem rrn_s27 {ops : Array Oper} {aZ : Act} {w0 : World} {Q : Exit → Act → World → Prop} (b3 b4 : Nat) (a3 a4 : Option Addr) (c3 c4 : Nat) (u0 i7 iz : Bool) (e6 e8 ez : Int) (E : O_rrn ops) (hds : dsts ops = [some 61, some 62, some 63, some 64, some 65, some 66, some 67, some 68, some 69, some 70, some 71, some 72, some 73, some 74, some 75, some 76, some 77, some 78, some 79, some 80, some 81, some 82, some 83, some 84, some 85, some 86, some 87, some 88, some 89, some 90, some 91, some 92, some 93, some 94, some 95, some 96, some 97, some 98, some 99, some 100, some 101, some 102, some 103, some 104, some 105, some 106, some 107, some 0]) (ha0 : aZ.tmps.size = 108) (bS13 : aZ.tmps.getD 13 undef = .pointer (some ⟨b4, 0, none⟩)) (k_b4_0 : w0.cell? ⟨b4, 0, none⟩ = some (.int .i64 (onR 2 1 4).q)) (k_b4_1 : w0.cell? ⟨b4, 1, none⟩ = some (.int .i64 (onR 2 1 4).r)) (k_b4_2 : w0.cell? ⟨b4, 2, none⟩ = some (.int .i64 (onR 2 1 4).n)) (k_b4_3 : w0.cell? ⟨b4, 3, none⟩ = some (.int .i64 (onR 2 1 4).s)) (k_b4_4 : w0.cell? ⟨b4, 4, none⟩ = some (.int .i64 (onR 2 1 4).t)) (k_b4_5 : w0.cell? ⟨b4, 5, none⟩ = some (.int .i64 5)) (k_b4_6 : w0.cell? ⟨b4, 6, none⟩ = some (.int .i64 (onR 2 1 4).m.origin)) (k_b4_7 : w0.cell? ⟨b4, 7, none⟩ = some (.int .i64 (onR 2 1 4).m.life)) (k_b4_8 : w0.cell? ⟨b4, 8, none⟩ = some (.int .i64 (onR 2 1 4).m.id)) (k_b4_9 : w0.cell? ⟨b4, 9, none⟩ = some (.int .i64 (onR 2 1 4).m.part)) (k_b4_10 : w0.cell? ⟨b4, 10, none⟩ = some (.int .i64 (onR 2 1 4).m.parts)) (k_b4_11 : w0.cell? ⟨b4, 11, none⟩ = some (.int .i64 (onR 2 1 4).m.groups)) (k_b4_12 : w0.cell? ⟨b4, 12, none⟩ = some (.bool (onR 2 1 4).m.safe)) (k_b4_13 : w0.cell? ⟨b4, 13, none⟩ = some (.int .i64 (onR 2 1 4).m.st)) (k_b4_14 : w0.cell? ⟨b4, 14, none⟩ = some (.int .i64 (onR 2 1 4).m.rs)) (k_b4_15 : w0.cell? ⟨b4, 15, none⟩ = some (.int .i64 (onR 2 1 4).m.rr)) (k_b4_16 : w0.cell? ⟨b4, 16, none⟩ = some (.int .i64 (onR 2 1 4).m.sq)) (k_b4_17 : w0.cell? ⟨b4, 17, none⟩ = some (.slice a4 1 c4)) :
    ∀ o, ops[27]? = some o → StepI Tryz.prog ops (p_rrn b3 b4 a3 a4 c3 c4 u0 i7 iz e6 e8 ez) (fun (_ : Array Bool) (_ : Act) (w : World) => Mod (fun _ => False) w0 w) aZ Q 27 o := by
  refine E.e27.stepI fun o hd ho hg hw => ?_
  intro y w listed hsz hls hun hwt hdown D' hRR hinv K hK
  have gv : y.tmps.getD 84 undef = .bool ((((((u0 && true) && (e6 == 1)) && (e8 == 1)) && (!i7)) && (ez == 2)) && (!iz)) := E.e23.postI (Post := (p_rrn b3 b4 a3 a4 c3 c4 u0 i7 iz e6 e8 ez)) (a := y) (w := w) D' (hwt 23 (hw 23 (by simp)))
  have wt : Region.wanted o (yielded ops y.tmps) = ((((((u0 && true) && (e6 == 1)) && (e8 == 1)) && (!i7)) && (ez == 2)) && (!iz)) := by
    rw [wanted_b E.e23 hg (by rw [hsz, ha0]; decide) gv]
    cases ((((((u0 && true) && (e6 == 1)) && (e8 == 1)) && (!i7)) && (ez == 2)) && (!iz)) <;> rfl
  cases hc : ((((((u0 && true) && (e6 == 1)) && (e8 == 1)) && (!i7)) && (ez == 2)) && (!iz))
  · exact .inr ⟨wt.trans hc, hK _ _ (fun _ _ _ _ _ _ h => h) (by show undef = if ((((((u0 && true) && (e6 == 1)) && (e8 == 1)) && (!i7)) && (ez == 2)) && (!iz)) = true then .agg #[.int .i64 (onR 2 1 4).q, .int .i64 (onR 2 1 4).r, .int .i64 (onR 2 1 4).n, .int .i64 (onR 2 1 4).s, .int .i64 (onR 2 1 4).t, .int .i64 5, .int .i64 (onR 2 1 4).m.origin, .int .i64 (onR 2 1 4).m.life, .int .i64 (onR 2 1 4).m.id, .int .i64 (onR 2 1 4).m.part, .int .i64 (onR 2 1 4).m.parts, .int .i64 (onR 2 1 4).m.groups, .bool (onR 2 1 4).m.safe, .int .i64 (onR 2 1 4).m.st, .int .i64 (onR 2 1 4).m.rs, .int .i64 (onR 2 1 4).m.rr, .int .i64 (onR 2 1 4).m.sq, .slice a4 1 c4] else undef; rw [hc]; rfl) hinv⟩
  · have f13 : y.eval (Operand.tmp 13) = .pointer (some ⟨b4, 0, none⟩)   := (hRR 13 (not_of (by rw [hds]; decide))).trans bS13
    have h0 := hinv.cell k_b4_0 (fun h => h)
    have h1 := hinv.cell k_b4_1 (fun h => h)
    have h2 := hinv.cell k_b4_2 (fun h => h)
    have h3 := hinv.cell k_b4_3 (fun h => h)
    have h4 := hinv.cell k_b4_4 (fun h => h)
    have h5 := hinv.cell k_b4_5 (fun h => h)
    have h6 := hinv.cell k_b4_6 (fun h => h)
    have h7 := hinv.cell k_b4_7 (fun h => h)
    have h8 := hinv.cell k_b4_8 (fun h => h)
    have h9 := hinv.cell k_b4_9 (fun h => h)
    have h10 := hinv.cell k_b4_10 (fun h => h)
    have h11 := hinv.cell k_b4_11 (fun h => h)
    have h12 := hinv.cell k_b4_12 (fun h => h)
    have h13 := hinv.cell k_b4_13 (fun h => h)
    have h14 := hinv.cell k_b4_14 (fun h => h)
    have h15 := hinv.cell k_b4_15 (fun h => h)
    have h16 := hinv.cell k_b4_16 (fun h => h)
    have h17 := hinv.cell k_b4_17 (fun h => h)
    exact .inl ⟨wt.trans hc, wp_value (ox_load (v := .agg #[.int .i64 (onR 2 1 4).q, .int .i64 (onR 2 1 4).r, .int .i64 (onR 2 1 4).n, .int .i64 (onR 2 1 4).s, .int .i64 (onR 2 1 4).t, .int .i64 5, .int .i64 (onR 2 1 4).m.origin, .int .i64 (onR 2 1 4).m.life, .int .i64 (onR 2 1 4).m.id, .int .i64 (onR 2 1 4).m.part, .int .i64 (onR 2 1 4).m.parts, .int .i64 (onR 2 1 4).m.groups, .bool (onR 2 1 4).m.safe, .int .i64 (onR 2 1 4).m.st, .int .i64 (onR 2 1 4).m.rs, .int .i64 (onR 2 1 4).m.rr, .int .i64 (onR 2 1 4).m.sq, .slice a4 1 c4]) ho f13 (by simp [go_sem, h0, h1, h2, h3, h4, h5, h6, h7, h8, h9, h10, h11, h12, h13, h14, h15, h16, h17])) (hK _ _ (fun _ _ _ _ _ _ h => h) (by show _ = if ((((((u0 && true) && (e6 == 1)) && (e8 == 1)) && (!i7)) && (ez == 2)) && (!iz)) = true then .agg #[.int .i64 (onR 2 1 4).q, .int .i64 (onR 2 1 4).r, .int .i64 (onR 2 1 4).n, .int .i64 (onR 2 1 4).s, .int .i64 (onR 2 1 4).t, .int .i64 5, .int .i64 (onR 2 1 4).m.origin, .int .i64 (onR 2 1 4).m.life, .int .i64 (onR 2 1 4).m.id, .int .i64 (onR 2 1 4).m.part, .int .i64 (onR 2 1 4).m.parts, .int .i64 (onR 2 1 4).m.groups, .bool (onR 2 1 4).m.safe, .int .i64 (onR 2 1 4).m.st, .int .i64 (onR 2 1 4).m.rs, .int .i64 (onR 2 1 4).m.rr, .int .i64 (onR 2 1 4).m.sq, .slice a4 1 c4] else undef; rw [hc]; rfl) hinv)⟩
set_option maxRecDepth 100000 in
set_option maxHeartbeats 4000000 in
theorem rrn_s28 {ops : Array Oper} {aZ : Act} {w0 : World} {Q : Exit → Act → World → Prop} (b3 b4 : Nat) (a3 a4 : Option Addr) (c3 c4 : Nat) (u0 i7 iz : Bool) (e6 e8 ez : Int) (E : O_rrn ops) (ha0 : aZ.tmps.size = 108) (H28 : ∀ (W : World), Mod (fun _ => False) w0 W → Calls Tryz.prog 28 #[.int .i64 9] W fun e w' => ∃ a9 c9, e = .returned (.agg #[.int .i64 (onR 2 1 9).q, .int .i64 (onR 2 1 9).r, .int .i64 (onR 2 1 9).n, .int .i64 (onR 2 1 9).s, .int .i64 (onR 2 1 9).t, .int .i64 (onR 2 1 9).m.kind, .int .i64 (onR 2 1 9).m.origin, .int .i64 (onR 2 1 9).m.life, .int .i64 (onR 2 1 9).m.id, .int .i64 (onR 2 1 9).m.part, .int .i64 (onR 2 1 9).m.parts, .int .i64 (onR 2 1 9).m.groups, .bool (onR 2 1 9).m.safe, .int .i64 (onR 2 1 9).m.st, .int .i64 (onR 2 1 9).m.rs, .int .i64 (onR 2 1 9).m.rr, .int .i64 (onR 2 1 9).m.sq, .slice a9 1 c9]) ∧ Own w' (.slice a9 1 c9) [9] ∧ Mod (fun _ => False) W w') :
    ∀ o, ops[28]? = some o → StepI Tryz.prog ops (p_rrn b3 b4 a3 a4 c3 c4 u0 i7 iz e6 e8 ez) (fun (_ : Array Bool) (_ : Act) (w : World) => Mod (fun _ => False) w0 w) aZ Q 28 o := by
  have hstay : ∀ (i : Nat) (v : Value) (w w1 : World), Mod (fun _ => False) w w1 → (p_rrn b3 b4 a3 a4 c3 c4 u0 i7 iz e6 e8 ez) i v w → (p_rrn b3 b4 a3 a4 c3 c4 u0 i7 iz e6 e8 ez) i v w1 := fun i v w w' hm h => p_rrn_stab _ _ _ _ _ _ _ _ _ _ _ _ i v w w' hm h
  refine E.e28.stepI fun o hd ho hg hw => ?_
  intro y w listed hsz hls hun hwt hdown D' hRR hinv K hK
  have gv : y.tmps.getD 84 undef = .bool ((((((u0 && true) && (e6 == 1)) && (e8 == 1)) && (!i7)) && (ez == 2)) && (!iz)) := E.e23.postI (Post := (p_rrn b3 b4 a3 a4 c3 c4 u0 i7 iz e6 e8 ez)) (a := y) (w := w) D' (hwt 23 (hw 23 (by simp)))
  have wt : Region.wanted o (yielded ops y.tmps) = ((((((u0 && true) && (e6 == 1)) && (e8 == 1)) && (!i7)) && (ez == 2)) && (!iz)) := by
    rw [wanted_b E.e23 hg (by rw [hsz, ha0]; decide) gv]
    cases ((((((u0 && true) && (e6 == 1)) && (e8 == 1)) && (!i7)) && (ez == 2)) && (!iz)) <;> rfl
  cases hc : ((((((u0 && true) && (e6 == 1)) && (e8 == 1)) && (!i7)) && (ez == 2)) && (!iz))
  · exact .inr ⟨wt.trans hc, hK _ _ (fun _ _ _ _ _ _ h => h) ⟨fun h => (by rw [hc] at h; cases h), fun _ => rfl⟩ hinv⟩
  · refine .inl ⟨wt.trans hc, wp_enter (f := 28) (args := #[.int .i64 9]) ?_ (H28 w  hinv ) ?_⟩
    · have h := exec_call1 y.eval (fun args w => by simp [go_sem]) rfl ho (w := w)
      exact h
    · rintro e w' ⟨a9, c9, rfl, hpp, hm⟩
      exact ⟨_, rfl, hK _ _ (fun j oj d _ _ _ h => hstay _ _ _ _ hm h) ⟨fun _ => ⟨a9, c9, rfl, hpp⟩, fun h => (by rw [hc] at h; cases h)⟩ (hinv.and hm)⟩
set_option maxRecDepth 100000 in
set_option maxHeartbeats 4000000 in
theorem rrn_s29 {ops : Array Oper} {aZ : Act} {w0 : World} {Q : Exit → Act → World → Prop} (b3 b4 : Nat) (a3 a4 : Option Addr) (c3 c4 : Nat) (u0 i7 iz : Bool) (e6 e8 ez : Int) (E : O_rrn ops) (ha0 : aZ.tmps.size = 108) (hO3 : Own w0 (.slice a3 1 c3) [3]) (hO4 : Own w0 (.slice a4 1 c4) [4]) :
    ∀ o, ops[29]? = some o → StepI Tryz.prog ops (p_rrn b3 b4 a3 a4 c3 c4 u0 i7 iz e6 e8 ez) (fun (_ : Array Bool) (_ : Act) (w : World) => Mod (fun _ => False) w0 w) aZ Q 29 o := by
  have hstay : ∀ (i : Nat) (v : Value) (w w1 : World), Mod (fun _ => False) w w1 → (p_rrn b3 b4 a3 a4 c3 c4 u0 i7 iz e6 e8 ez) i v w → (p_rrn b3 b4 a3 a4 c3 c4 u0 i7 iz e6 e8 ez) i v w1 := fun i v w w' hm h => p_rrn_stab _ _ _ _ _ _ _ _ _ _ _ _ i v w w' hm h
  refine E.e29.stepI fun o hd ho hg hw => ?_
  intro y w listed hsz hls hun hwt hdown D' hRR hinv K hK
  have gv : y.tmps.getD 84 undef = .bool ((((((u0 && true) && (e6 == 1)) && (e8 == 1)) && (!i7)) && (ez == 2)) && (!iz)) := E.e23.postI (Post := (p_rrn b3 b4 a3 a4 c3 c4 u0 i7 iz e6 e8 ez)) (a := y) (w := w) D' (hwt 23 (hw 23 (by simp)))
  have wt : Region.wanted o (yielded ops y.tmps) = ((((((u0 && true) && (e6 == 1)) && (e8 == 1)) && (!i7)) && (ez == 2)) && (!iz)) := by
    rw [wanted_b E.e23 hg (by rw [hsz, ha0]; decide) gv]
    cases ((((((u0 && true) && (e6 == 1)) && (e8 == 1)) && (!i7)) && (ez == 2)) && (!iz)) <;> rfl
  cases hc : ((((((u0 && true) && (e6 == 1)) && (e8 == 1)) && (!i7)) && (ez == 2)) && (!iz))
  · exact .inr ⟨wt.trans hc, hK _ _ (fun _ _ _ _ _ _ h => h) ⟨fun h => (by rw [hc] at h; cases h), fun _ => rfl⟩ hinv⟩
  · obtain ⟨a1, c1, f85, q85⟩ : ∃ a1 c1, y.eval (Operand.tmp 85) = .agg #[.int .i64 (onR 2 1 1).q, .int .i64 (onR 2 1 1).r, .int .i64 (onR 2 1 1).n, .int .i64 (onR 2 1 1).s, .int .i64 (onR 2 1 1).t, .int .i64 (onR 2 1 1).m.kind, .int .i64 (onR 2 1 1).m.origin, .int .i64 (onR 2 1 1).m.life, .int .i64 (onR 2 1 1).m.id, .int .i64 (onR 2 1 1).m.part, .int .i64 (onR 2 1 1).m.parts, .int .i64 (onR 2 1 1).m.groups, .bool (onR 2 1 1).m.safe, .int .i64 (onR 2 1 1).m.st, .int .i64 (onR 2 1 1).m.rs, .int .i64 (onR 2 1 1).m.rr, .int .i64 (onR 2 1 1).m.sq, .slice a1 1 c1] ∧ Own w (.slice a1 1 c1) [1] := (E.e24.postI (Post := (p_rrn b3 b4 a3 a4 c3 c4 u0 i7 iz e6 e8 ez)) (a := y) (w := w) D' (hwt 24 (hw 24 (by simp)))).1 hc
    have f86 : y.eval (Operand.tmp 86) = .agg #[.int .i64 (onR 2 1 3).q, .int .i64 (onR 2 1 3).r, .int .i64 (onR 2 1 3).n, .int .i64 (onR 2 1 3).s, .int .i64 (onR 2 1 3).t, .int .i64 (onR 2 1 3).m.kind, .int .i64 0, .int .i64 (onR 2 1 3).m.life, .int .i64 (onR 2 1 3).m.id, .int .i64 (onR 2 1 3).m.part, .int .i64 (onR 2 1 3).m.parts, .int .i64 (onR 2 1 3).m.groups, .bool (onR 2 1 3).m.safe, .int .i64 (onR 2 1 3).m.st, .int .i64 (onR 2 1 3).m.rs, .int .i64 (onR 2 1 3).m.rr, .int .i64 (onR 2 1 3).m.sq, .slice a3 1 c3] := (show y.eval (Operand.tmp 86) = (if ((((((u0 && true) && (e6 == 1)) && (e8 == 1)) && (!i7)) && (ez == 2)) && (!iz)) = true then .agg #[.int .i64 (onR 2 1 3).q, .int .i64 (onR 2 1 3).r, .int .i64 (onR 2 1 3).n, .int .i64 (onR 2 1 3).s, .int .i64 (onR 2 1 3).t, .int .i64 (onR 2 1 3).m.kind, .int .i64 0, .int .i64 (onR 2 1 3).m.life, .int .i64 (onR 2 1 3).m.id, .int .i64 (onR 2 1 3).m.part, .int .i64 (onR 2 1 3).m.parts, .int .i64 (onR 2 1 3).m.groups, .bool (onR 2 1 3).m.safe, .int .i64 (onR 2 1 3).m.st, .int .i64 (onR 2 1 3).m.rs, .int .i64 (onR 2 1 3).m.rr, .int .i64 (onR 2 1 3).m.sq, .slice a3 1 c3] else undef) from E.e25.postI (Post := (p_rrn b3 b4 a3 a4 c3 c4 u0 i7 iz e6 e8 ez)) (a := y) (w := w) D' (hwt 25 (hw 25 (by simp)))).trans (if_pos hc)
    obtain ⟨a2, c2, f87, q87⟩ : ∃ a2 c2, y.eval (Operand.tmp 87) = .agg #[.int .i64 (onR 2 1 2).q, .int .i64 (onR 2 1 2).r, .int .i64 (onR 2 1 2).n, .int .i64 (onR 2 1 2).s, .int .i64 (onR 2 1 2).t, .int .i64 (onR 2 1 2).m.kind, .int .i64 (onR 2 1 2).m.origin, .int .i64 (onR 2 1 2).m.life, .int .i64 (onR 2 1 2).m.id, .int .i64 (onR 2 1 2).m.part, .int .i64 (onR 2 1 2).m.parts, .int .i64 (onR 2 1 2).m.groups, .bool (onR 2 1 2).m.safe, .int .i64 (onR 2 1 2).m.st, .int .i64 (onR 2 1 2).m.rs, .int .i64 (onR 2 1 2).m.rr, .int .i64 (onR 2 1 2).m.sq, .slice a2 1 c2] ∧ Own w (.slice a2 1 c2) [2] := (E.e26.postI (Post := (p_rrn b3 b4 a3 a4 c3 c4 u0 i7 iz e6 e8 ez)) (a := y) (w := w) D' (hwt 26 (hw 26 (by simp)))).1 hc
    have f88 : y.eval (Operand.tmp 88) = .agg #[.int .i64 (onR 2 1 4).q, .int .i64 (onR 2 1 4).r, .int .i64 (onR 2 1 4).n, .int .i64 (onR 2 1 4).s, .int .i64 (onR 2 1 4).t, .int .i64 5, .int .i64 (onR 2 1 4).m.origin, .int .i64 (onR 2 1 4).m.life, .int .i64 (onR 2 1 4).m.id, .int .i64 (onR 2 1 4).m.part, .int .i64 (onR 2 1 4).m.parts, .int .i64 (onR 2 1 4).m.groups, .bool (onR 2 1 4).m.safe, .int .i64 (onR 2 1 4).m.st, .int .i64 (onR 2 1 4).m.rs, .int .i64 (onR 2 1 4).m.rr, .int .i64 (onR 2 1 4).m.sq, .slice a4 1 c4] := (show y.eval (Operand.tmp 88) = (if ((((((u0 && true) && (e6 == 1)) && (e8 == 1)) && (!i7)) && (ez == 2)) && (!iz)) = true then .agg #[.int .i64 (onR 2 1 4).q, .int .i64 (onR 2 1 4).r, .int .i64 (onR 2 1 4).n, .int .i64 (onR 2 1 4).s, .int .i64 (onR 2 1 4).t, .int .i64 5, .int .i64 (onR 2 1 4).m.origin, .int .i64 (onR 2 1 4).m.life, .int .i64 (onR 2 1 4).m.id, .int .i64 (onR 2 1 4).m.part, .int .i64 (onR 2 1 4).m.parts, .int .i64 (onR 2 1 4).m.groups, .bool (onR 2 1 4).m.safe, .int .i64 (onR 2 1 4).m.st, .int .i64 (onR 2 1 4).m.rs, .int .i64 (onR 2 1 4).m.rr, .int .i64 (onR 2 1 4).m.sq, .slice a4 1 c4] else undef) from E.e27.postI (Post := (p_rrn b3 b4 a3 a4 c3 c4 u0 i7 iz e6 e8 ez)) (a := y) (w := w) D' (hwt 27 (hw 27 (by simp)))).trans (if_pos hc)
    obtain ⟨a9, c9, f89, q89⟩ : ∃ a9 c9, y.eval (Operand.tmp 89) = .agg #[.int .i64 (onR 2 1 9).q, .int .i64 (onR 2 1 9).r, .int .i64 (onR 2 1 9).n, .int .i64 (onR 2 1 9).s, .int .i64 (onR 2 1 9).t, .int .i64 (onR 2 1 9).m.kind, .int .i64 (onR 2 1 9).m.origin, .int .i64 (onR 2 1 9).m.life, .int .i64 (onR 2 1 9).m.id, .int .i64 (onR 2 1 9).m.part, .int .i64 (onR 2 1 9).m.parts, .int .i64 (onR 2 1 9).m.groups, .bool (onR 2 1 9).m.safe, .int .i64 (onR 2 1 9).m.st, .int .i64 (onR 2 1 9).m.rs, .int .i64 (onR 2 1 9).m.rr, .int .i64 (onR 2 1 9).m.sq, .slice a9 1 c9] ∧ Own w (.slice a9 1 c9) [9] := (E.e28.postI (Post := (p_rrn b3 b4 a3 a4 c3 c4 u0 i7 iz e6 e8 ez)) (a := y) (w := w) D' (hwt 28 (hw 28 (by simp)))).1 hc
    have hA := (Mod.refl (fun _ => False) w).alloc (.cells #[.int .i64 (onR 2 1 1).q, .int .i64 (onR 2 1 1).r, .int .i64 (onR 2 1 1).n, .int .i64 (onR 2 1 1).s, .int .i64 (onR 2 1 1).t, .int .i64 (onR 2 1 1).m.kind, .int .i64 (onR 2 1 1).m.origin, .int .i64 (onR 2 1 1).m.life, .int .i64 (onR 2 1 1).m.id, .int .i64 (onR 2 1 1).m.part, .int .i64 (onR 2 1 1).m.parts, .int .i64 (onR 2 1 1).m.groups, .bool (onR 2 1 1).m.safe, .int .i64 (onR 2 1 1).m.st, .int .i64 (onR 2 1 1).m.rs, .int .i64 (onR 2 1 1).m.rr, .int .i64 (onR 2 1 1).m.sq, .slice a1 1 c1, .int .i64 (onR 2 1 3).q, .int .i64 (onR 2 1 3).r, .int .i64 (onR 2 1 3).n, .int .i64 (onR 2 1 3).s, .int .i64 (onR 2 1 3).t, .int .i64 (onR 2 1 3).m.kind, .int .i64 0, .int .i64 (onR 2 1 3).m.life, .int .i64 (onR 2 1 3).m.id, .int .i64 (onR 2 1 3).m.part, .int .i64 (onR 2 1 3).m.parts, .int .i64 (onR 2 1 3).m.groups, .bool (onR 2 1 3).m.safe, .int .i64 (onR 2 1 3).m.st, .int .i64 (onR 2 1 3).m.rs, .int .i64 (onR 2 1 3).m.rr, .int .i64 (onR 2 1 3).m.sq, .slice a3 1 c3, .int .i64 (onR 2 1 2).q, .int .i64 (onR 2 1 2).r, .int .i64 (onR 2 1 2).n, .int .i64 (onR 2 1 2).s, .int .i64 (onR 2 1 2).t, .int .i64 (onR 2 1 2).m.kind, .int .i64 (onR 2 1 2).m.origin, .int .i64 (onR 2 1 2).m.life, .int .i64 (onR 2 1 2).m.id, .int .i64 (onR 2 1 2).m.part, .int .i64 (onR 2 1 2).m.parts, .int .i64 (onR 2 1 2).m.groups, .bool (onR 2 1 2).m.safe, .int .i64 (onR 2 1 2).m.st, .int .i64 (onR 2 1 2).m.rs, .int .i64 (onR 2 1 2).m.rr, .int .i64 (onR 2 1 2).m.sq, .slice a2 1 c2, .int .i64 (onR 2 1 4).q, .int .i64 (onR 2 1 4).r, .int .i64 (onR 2 1 4).n, .int .i64 (onR 2 1 4).s, .int .i64 (onR 2 1 4).t, .int .i64 5, .int .i64 (onR 2 1 4).m.origin, .int .i64 (onR 2 1 4).m.life, .int .i64 (onR 2 1 4).m.id, .int .i64 (onR 2 1 4).m.part, .int .i64 (onR 2 1 4).m.parts, .int .i64 (onR 2 1 4).m.groups, .bool (onR 2 1 4).m.safe, .int .i64 (onR 2 1 4).m.st, .int .i64 (onR 2 1 4).m.rs, .int .i64 (onR 2 1 4).m.rr, .int .i64 (onR 2 1 4).m.sq, .slice a4 1 c4, .int .i64 (onR 2 1 9).q, .int .i64 (onR 2 1 9).r, .int .i64 (onR 2 1 9).n, .int .i64 (onR 2 1 9).s, .int .i64 (onR 2 1 9).t, .int .i64 (onR 2 1 9).m.kind, .int .i64 (onR 2 1 9).m.origin, .int .i64 (onR 2 1 9).m.life, .int .i64 (onR 2 1 9).m.id, .int .i64 (onR 2 1 9).m.part, .int .i64 (onR 2 1 9).m.parts, .int .i64 (onR 2 1 9).m.groups, .bool (onR 2 1 9).m.safe, .int .i64 (onR 2 1 9).m.st, .int .i64 (onR 2 1 9).m.rs, .int .i64 (onR 2 1 9).m.rr, .int .i64 (onR 2 1 9).m.sq, .slice a9 1 c9] 45)
    exact .inl ⟨wt.trans hc, wp_value (ox_bslice ho (v := .slice (some ⟨w.heap.size, 0, none⟩) 5 5) (w' := w.alloc (.cells #[.int .i64 (onR 2 1 1).q, .int .i64 (onR 2 1 1).r, .int .i64 (onR 2 1 1).n, .int .i64 (onR 2 1 1).s, .int .i64 (onR 2 1 1).t, .int .i64 (onR 2 1 1).m.kind, .int .i64 (onR 2 1 1).m.origin, .int .i64 (onR 2 1 1).m.life, .int .i64 (onR 2 1 1).m.id, .int .i64 (onR 2 1 1).m.part, .int .i64 (onR 2 1 1).m.parts, .int .i64 (onR 2 1 1).m.groups, .bool (onR 2 1 1).m.safe, .int .i64 (onR 2 1 1).m.st, .int .i64 (onR 2 1 1).m.rs, .int .i64 (onR 2 1 1).m.rr, .int .i64 (onR 2 1 1).m.sq, .slice a1 1 c1, .int .i64 (onR 2 1 3).q, .int .i64 (onR 2 1 3).r, .int .i64 (onR 2 1 3).n, .int .i64 (onR 2 1 3).s, .int .i64 (onR 2 1 3).t, .int .i64 (onR 2 1 3).m.kind, .int .i64 0, .int .i64 (onR 2 1 3).m.life, .int .i64 (onR 2 1 3).m.id, .int .i64 (onR 2 1 3).m.part, .int .i64 (onR 2 1 3).m.parts, .int .i64 (onR 2 1 3).m.groups, .bool (onR 2 1 3).m.safe, .int .i64 (onR 2 1 3).m.st, .int .i64 (onR 2 1 3).m.rs, .int .i64 (onR 2 1 3).m.rr, .int .i64 (onR 2 1 3).m.sq, .slice a3 1 c3, .int .i64 (onR 2 1 2).q, .int .i64 (onR 2 1 2).r, .int .i64 (onR 2 1 2).n, .int .i64 (onR 2 1 2).s, .int .i64 (onR 2 1 2).t, .int .i64 (onR 2 1 2).m.kind, .int .i64 (onR 2 1 2).m.origin, .int .i64 (onR 2 1 2).m.life, .int .i64 (onR 2 1 2).m.id, .int .i64 (onR 2 1 2).m.part, .int .i64 (onR 2 1 2).m.parts, .int .i64 (onR 2 1 2).m.groups, .bool (onR 2 1 2).m.safe, .int .i64 (onR 2 1 2).m.st, .int .i64 (onR 2 1 2).m.rs, .int .i64 (onR 2 1 2).m.rr, .int .i64 (onR 2 1 2).m.sq, .slice a2 1 c2, .int .i64 (onR 2 1 4).q, .int .i64 (onR 2 1 4).r, .int .i64 (onR 2 1 4).n, .int .i64 (onR 2 1 4).s, .int .i64 (onR 2 1 4).t, .int .i64 5, .int .i64 (onR 2 1 4).m.origin, .int .i64 (onR 2 1 4).m.life, .int .i64 (onR 2 1 4).m.id, .int .i64 (onR 2 1 4).m.part, .int .i64 (onR 2 1 4).m.parts, .int .i64 (onR 2 1 4).m.groups, .bool (onR 2 1 4).m.safe, .int .i64 (onR 2 1 4).m.st, .int .i64 (onR 2 1 4).m.rs, .int .i64 (onR 2 1 4).m.rr, .int .i64 (onR 2 1 4).m.sq, .slice a4 1 c4, .int .i64 (onR 2 1 9).q, .int .i64 (onR 2 1 9).r, .int .i64 (onR 2 1 9).n, .int .i64 (onR 2 1 9).s, .int .i64 (onR 2 1 9).t, .int .i64 (onR 2 1 9).m.kind, .int .i64 (onR 2 1 9).m.origin, .int .i64 (onR 2 1 9).m.life, .int .i64 (onR 2 1 9).m.id, .int .i64 (onR 2 1 9).m.part, .int .i64 (onR 2 1 9).m.parts, .int .i64 (onR 2 1 9).m.groups, .bool (onR 2 1 9).m.safe, .int .i64 (onR 2 1 9).m.st, .int .i64 (onR 2 1 9).m.rs, .int .i64 (onR 2 1 9).m.rr, .int .i64 (onR 2 1 9).m.sq, .slice a9 1 c9] 45)) (by simp only [List.map_toArray, List.map_cons, List.map_nil]; rw [f85, f86, f87, f88, f89]; exact run_bslice w _ _ 5 18 _ _ (.agg #[.int .i64 0, .int .i64 0, .int .i64 0, .int .i64 0, .int .i64 0, .int .i64 0, .int .i64 0, .int .i64 0, .int .i64 0, .int .i64 0, .int .i64 0, .int .i64 0, .bool false, .int .i64 0, .int .i64 0, .int .i64 0, .int .i64 0, .slice none 0 0]) Tryz.underlying22 infoB18 (by decide) (by decide) (fillD5 a1 a2 a9 a3 a4 c1 c2 c9 c3 c4))) (hK _ _ (fun j oj d _ _ _ h => hstay _ _ _ _ hA h) ⟨fun _ => ⟨_, _, rfl, dts5 q85 (hO3.mod hinv (fun _ _ h => h)) q87 (hO4.mod hinv (fun _ _ h => h)) q89⟩, fun h => (by rw [hc] at h; cases h)⟩ (hinv.and hA))⟩
set_option maxRecDepth 100000 in
set_option maxHeartbeats 4000000 in
theorem rrn_s30 {ops : Array Oper} {aZ : Act} {w0 : World} {Q : Exit → Act → World → Prop} (b3 b4 : Nat) (a3 a4 : Option Addr) (c3 c4 : Nat) (u0 i7 iz : Bool) (e6 e8 ez : Int) (E : O_rrn ops) (ha0 : aZ.tmps.size = 108) (H30 : ∀ (W : World) (vs : Value) (es : List (Dt × Value)), Mod (fun _ => False) w0 W → Dts W vs es → Calls Tryz.prog 3 #[vs, .int .i64 0] W fun e w' => e = .returned (.bool true) ∧ Mod (fun _ => False) W w') :
    ∀ o, ops[30]? = some o → StepI Tryz.prog ops (p_rrn b3 b4 a3 a4 c3 c4 u0 i7 iz e6 e8 ez) (fun (_ : Array Bool) (_ : Act) (w : World) => Mod (fun _ => False) w0 w) aZ Q 30 o := by
  have hstay : ∀ (i : Nat) (v : Value) (w w1 : World), Mod (fun _ => False) w w1 → (p_rrn b3 b4 a3 a4 c3 c4 u0 i7 iz e6 e8 ez) i v w → (p_rrn b3 b4 a3 a4 c3 c4 u0 i7 iz e6 e8 ez) i v w1 := fun i v w w' hm h => p_rrn_stab _ _ _ _ _ _ _ _ _ _ _ _ i v w w' hm h
  refine E.e30.stepI fun o hd ho hg hw => ?_
  intro y w listed hsz hls hun hwt hdown D' hRR hinv K hK
  have gv : y.tmps.getD 84 undef = .bool ((((((u0 && true) && (e6 == 1)) && (e8 == 1)) && (!i7)) && (ez == 2)) && (!iz)) := E.e23.postI (Post := (p_rrn b3 b4 a3 a4 c3 c4 u0 i7 iz e6 e8 ez)) (a := y) (w := w) D' (hwt 23 (hw 23 (by simp)))
  have wt : Region.wanted o (yielded ops y.tmps) = ((((((u0 && true) && (e6 == 1)) && (e8 == 1)) && (!i7)) && (ez == 2)) && (!iz)) := by
    rw [wanted_b E.e23 hg (by rw [hsz, ha0]; decide) gv]
    cases ((((((u0 && true) && (e6 == 1)) && (e8 == 1)) && (!i7)) && (ez == 2)) && (!iz)) <;> rfl
  cases hc : ((((((u0 && true) && (e6 == 1)) && (e8 == 1)) && (!i7)) && (ez == 2)) && (!iz))
  · exact .inr ⟨wt.trans hc, hK _ _ (fun _ _ _ _ _ _ h => h) (by show undef = if ((((((u0 && true) && (e6 == 1)) && (e8 == 1)) && (!i7)) && (ez == 2)) && (!iz)) = true then .bool true else undef; rw [hc]; rfl) hinv⟩
  · obtain ⟨vs, es, f90, q90⟩ : ∃ vs es, y.eval (Operand.tmp 90) = vs ∧ Dts w vs es := (E.e29.postI (Post := (p_rrn b3 b4 a3 a4 c3 c4 u0 i7 iz e6 e8 ez)) (a := y) (w := w) D' (hwt 29 (hw 29 (by simp)))).1 hc
    refine .inl ⟨wt.trans hc, wp_enter (f := 3) (args := #[vs, .int .i64 0]) ?_ (H30 w vs es hinv q90) ?_⟩
    · have h := exec_call2 y.eval (fun args w => by simp [go_sem]) rfl ho (w := w)
      rw [f90] at h
      exact h
    · rintro e w' ⟨rfl, hm⟩
      exact ⟨_, rfl, hK _ _ (fun j oj d _ _ _ h => hstay _ _ _ _ hm h) (by show _ = if ((((((u0 && true) && (e6 == 1)) && (e8 == 1)) && (!i7)) && (ez == 2)) && (!iz)) = true then .bool true else undef; rw [hc]; rfl) (hinv.and hm)⟩
set_option maxRecDepth 100000 in
set_option maxHeartbeats 4000000 in
theorem rrn_s31 {ops : Array Oper} {aZ : Act} {w0 : World} {Q : Exit → Act → World → Prop} (b3 b4 : Nat) (a3 a4 : Option Addr) (c3 c4 : Nat) (u0 i7 iz : Bool) (e6 e8 ez : Int) (E : O_rrn ops) :
    ∀ o, ops[31]? = some o → StepI Tryz.prog ops (p_rrn b3 b4 a3 a4 c3 c4 u0 i7 iz e6 e8 ez) (fun (_ : Array Bool) (_ : Act) (w : World) => Mod (fun _ => False) w0 w) aZ Q 31 o := by
  refine E.e31.stepI fun o hd ho hg hw => ?_
  intro y w listed hsz hls hun hwt hdown D' hRR hinv K hK
  have f84 : y.eval (Operand.tmp 84) = .bool ((((((u0 && true) && (e6 == 1)) && (e8 == 1)) && (!i7)) && (ez == 2)) && (!iz)) := E.e23.postI (Post := (p_rrn b3 b4 a3 a4 c3 c4 u0 i7 iz e6 e8 ez)) (a := y) (w := w) D' (hwt 23 (hw 23 (by simp)))
  have f91 : y.eval (Operand.tmp 91) = if ((((((u0 && true) && (e6 == 1)) && (e8 == 1)) && (!i7)) && (ez == 2)) && (!iz)) = true then .bool true else undef := E.e30.postI (Post := (p_rrn b3 b4 a3 a4 c3 c4 u0 i7 iz e6 e8 ez)) (a := y) (w := w) D' (hwt 30 (hw 30 (by simp)))
  exact .inl ⟨wanted_none hg, wp_value (ox_pick (v := .bool (((((((u0 && true) && (e6 == 1)) && (e8 == 1)) && (!i7)) && (ez == 2)) && (!iz)) && true)) ho f84 (by rw [f91]; cases ((((((u0 && true) && (e6 == 1)) && (e8 == 1)) && (!i7)) && (ez == 2)) && (!iz)) <;> rfl)) (hK _ _ (fun _ _ _ _ _ _ h => h) rfl hinv)⟩
set_option maxRecDepth 100000 in
set_option maxHeartbeats 4000000 in
theorem rrn_s32 {ops : Array Oper} {aZ : Act} {w0 : World} {Q : Exit → Act → World → Prop} (b3 b4 : Nat) (a3 a4 : Option Addr) (c3 c4 : Nat) (u0 i7 iz : Bool) (e6 e8 ez : Int) (E : O_rrn ops) :
    ∀ o, ops[32]? = some o → StepI Tryz.prog ops (p_rrn b3 b4 a3 a4 c3 c4 u0 i7 iz e6 e8 ez) (fun (_ : Array Bool) (_ : Act) (w : World) => Mod (fun _ => False) w0 w) aZ Q 32 o := by
  refine E.e32.stepI fun o hd ho hg hw => ?_
  intro y w listed hsz hls hun hwt hdown D' hRR hinv K hK
  have f92 : y.eval (Operand.tmp 92) = .bool (((((((u0 && true) && (e6 == 1)) && (e8 == 1)) && (!i7)) && (ez == 2)) && (!iz)) && true) := E.e31.postI (Post := (p_rrn b3 b4 a3 a4 c3 c4 u0 i7 iz e6 e8 ez)) (a := y) (w := w) D' (hwt 31 (hw 31 (by simp)))
  exact .inl ⟨wanted_none hg, wp_value (ox_move ho f92) (hK _ _ (fun _ _ _ _ _ _ h => h) rfl hinv)⟩
set_option maxRecDepth 100000 in
set_option maxHeartbeats 4000000 in
theorem rrn_s33 {ops : Array Oper} {aZ : Act} {w0 : World} {Q : Exit → Act → World → Prop} (b3 b4 : Nat) (a3 a4 : Option Addr) (c3 c4 : Nat) (u0 i7 iz : Bool) (e6 e8 ez : Int) (E : O_rrn ops) (ha0 : aZ.tmps.size = 108) (H33 : ∀ (W : World), Mod (fun _ => False) w0 W → Calls Tryz.prog 28 #[.int .i64 1] W fun e w' => ∃ a1 c1, e = .returned (.agg #[.int .i64 (onR 2 1 1).q, .int .i64 (onR 2 1 1).r, .int .i64 (onR 2 1 1).n, .int .i64 (onR 2 1 1).s, .int .i64 (onR 2 1 1).t, .int .i64 (onR 2 1 1).m.kind, .int .i64 (onR 2 1 1).m.origin, .int .i64 (onR 2 1 1).m.life, .int .i64 (onR 2 1 1).m.id, .int .i64 (onR 2 1 1).m.part, .int .i64 (onR 2 1 1).m.parts, .int .i64 (onR 2 1 1).m.groups, .bool (onR 2 1 1).m.safe, .int .i64 (onR 2 1 1).m.st, .int .i64 (onR 2 1 1).m.rs, .int .i64 (onR 2 1 1).m.rr, .int .i64 (onR 2 1 1).m.sq, .slice a1 1 c1]) ∧ Own w' (.slice a1 1 c1) [1] ∧ Mod (fun _ => False) W w') :
    ∀ o, ops[33]? = some o → StepI Tryz.prog ops (p_rrn b3 b4 a3 a4 c3 c4 u0 i7 iz e6 e8 ez) (fun (_ : Array Bool) (_ : Act) (w : World) => Mod (fun _ => False) w0 w) aZ Q 33 o := by
  have hstay : ∀ (i : Nat) (v : Value) (w w1 : World), Mod (fun _ => False) w w1 → (p_rrn b3 b4 a3 a4 c3 c4 u0 i7 iz e6 e8 ez) i v w → (p_rrn b3 b4 a3 a4 c3 c4 u0 i7 iz e6 e8 ez) i v w1 := fun i v w w' hm h => p_rrn_stab _ _ _ _ _ _ _ _ _ _ _ _ i v w w' hm h
  refine E.e33.stepI fun o hd ho hg hw => ?_
  intro y w listed hsz hls hun hwt hdown D' hRR hinv K hK
  have gv : y.tmps.getD 93 undef = .bool (((((((u0 && true) && (e6 == 1)) && (e8 == 1)) && (!i7)) && (ez == 2)) && (!iz)) && true) := E.e32.postI (Post := (p_rrn b3 b4 a3 a4 c3 c4 u0 i7 iz e6 e8 ez)) (a := y) (w := w) D' (hwt 32 (hw 32 (by simp)))
  have wt : Region.wanted o (yielded ops y.tmps) = (((((((u0 && true) && (e6 == 1)) && (e8 == 1)) && (!i7)) && (ez == 2)) && (!iz)) && true) := by
    rw [wanted_b E.e32 hg (by rw [hsz, ha0]; decide) gv]
    cases (((((((u0 && true) && (e6 == 1)) && (e8 == 1)) && (!i7)) && (ez == 2)) && (!iz)) && true) <;> rfl
  cases hc : (((((((u0 && true) && (e6 == 1)) && (e8 == 1)) && (!i7)) && (ez == 2)) && (!iz)) && true)
  · exact .inr ⟨wt.trans hc, hK _ _ (fun _ _ _ _ _ _ h => h) ⟨fun h => (by rw [hc] at h; cases h), fun _ => rfl⟩ hinv⟩
  · refine .inl ⟨wt.trans hc, wp_enter (f := 28) (args := #[.int .i64 1]) ?_ (H33 w  hinv ) ?_⟩
    · have h := exec_call1 y.eval (fun args w => by simp [go_sem]) rfl ho (w := w)
      exact h
    · rintro e w' ⟨a1, c1, rfl, hpp, hm⟩
      exact ⟨_, rfl, hK _ _ (fun j oj d _ _ _ h => hstay _ _ _ _ hm h) ⟨fun _ => ⟨a1, c1, rfl, hpp⟩, fun h => (by rw [hc] at h; cases h)⟩ (hinv.and hm)⟩
set_option maxRecDepth 100000 in
set_option maxHeartbeats 4000000 in
theorem rrn_s34 {ops : Array Oper} {aZ : Act} {w0 : World} {Q : Exit → Act → World → Prop} (b3 b4 : Nat) (a3 a4 : Option Addr) (c3 c4 : Nat) (u0 i7 iz : Bool) (e6 e8 ez : Int) (E : O_rrn ops) (ha0 : aZ.tmps.size = 108) :
    ∀ o, ops[34]? = some o → StepI Tryz.prog ops (p_rrn b3 b4 a3 a4 c3 c4 u0 i7 iz e6 e8 ez) (fun (_ : Array Bool) (_ : Act) (w : World) => Mod (fun _ => False) w0 w) aZ Q 34 o := by
  have hstay : ∀ (i : Nat) (v : Value) (w w1 : World), Mod (fun _ => False) w w1 → (p_rrn b3 b4 a3 a4 c3 c4 u0 i7 iz e6 e8 ez) i v w → (p_rrn b3 b4 a3 a4 c3 c4 u0 i7 iz e6 e8 ez) i v w1 := fun i v w w' hm h => p_rrn_stab _ _ _ _ _ _ _ _ _ _ _ _ i v w w' hm h
  refine E.e34.stepI fun o hd ho hg hw => ?_
  intro y w listed hsz hls hun hwt hdown D' hRR hinv K hK
  have gv : y.tmps.getD 93 undef = .bool (((((((u0 && true) && (e6 == 1)) && (e8 == 1)) && (!i7)) && (ez == 2)) && (!iz)) && true) := E.e32.postI (Post := (p_rrn b3 b4 a3 a4 c3 c4 u0 i7 iz e6 e8 ez)) (a := y) (w := w) D' (hwt 32 (hw 32 (by simp)))
  have wt : Region.wanted o (yielded ops y.tmps) = (((((((u0 && true) && (e6 == 1)) && (e8 == 1)) && (!i7)) && (ez == 2)) && (!iz)) && true) := by
    rw [wanted_b E.e32 hg (by rw [hsz, ha0]; decide) gv]
    cases (((((((u0 && true) && (e6 == 1)) && (e8 == 1)) && (!i7)) && (ez == 2)) && (!iz)) && true) <;> rfl
  cases hc : (((((((u0 && true) && (e6 == 1)) && (e8 == 1)) && (!i7)) && (ez == 2)) && (!iz)) && true)
  · exact .inr ⟨wt.trans hc, hK _ _ (fun _ _ _ _ _ _ h => h) ⟨fun h => (by rw [hc] at h; cases h), fun _ => rfl⟩ hinv⟩
  · obtain ⟨a1, c1, f94, q94⟩ : ∃ a1 c1, y.eval (Operand.tmp 94) = .agg #[.int .i64 (onR 2 1 1).q, .int .i64 (onR 2 1 1).r, .int .i64 (onR 2 1 1).n, .int .i64 (onR 2 1 1).s, .int .i64 (onR 2 1 1).t, .int .i64 (onR 2 1 1).m.kind, .int .i64 (onR 2 1 1).m.origin, .int .i64 (onR 2 1 1).m.life, .int .i64 (onR 2 1 1).m.id, .int .i64 (onR 2 1 1).m.part, .int .i64 (onR 2 1 1).m.parts, .int .i64 (onR 2 1 1).m.groups, .bool (onR 2 1 1).m.safe, .int .i64 (onR 2 1 1).m.st, .int .i64 (onR 2 1 1).m.rs, .int .i64 (onR 2 1 1).m.rr, .int .i64 (onR 2 1 1).m.sq, .slice a1 1 c1] ∧ Own w (.slice a1 1 c1) [1] := (E.e33.postI (Post := (p_rrn b3 b4 a3 a4 c3 c4 u0 i7 iz e6 e8 ez)) (a := y) (w := w) D' (hwt 33 (hw 33 (by simp)))).1 hc
    have hA := (Mod.refl (fun _ => False) w).alloc (.cells #[.int .i64 (onR 2 1 1).q, .int .i64 (onR 2 1 1).r, .int .i64 (onR 2 1 1).n, .int .i64 (onR 2 1 1).s, .int .i64 (onR 2 1 1).t, .int .i64 (onR 2 1 1).m.kind, .int .i64 (onR 2 1 1).m.origin, .int .i64 (onR 2 1 1).m.life, .int .i64 (onR 2 1 1).m.id, .int .i64 (onR 2 1 1).m.part, .int .i64 (onR 2 1 1).m.parts, .int .i64 (onR 2 1 1).m.groups, .bool (onR 2 1 1).m.safe, .int .i64 (onR 2 1 1).m.st, .int .i64 (onR 2 1 1).m.rs, .int .i64 (onR 2 1 1).m.rr, .int .i64 (onR 2 1 1).m.sq, .slice a1 1 c1] 45)
    exact .inl ⟨wt.trans hc, wp_value (ox_bslice ho (v := .slice (some ⟨w.heap.size, 0, none⟩) 1 1) (w' := w.alloc (.cells #[.int .i64 (onR 2 1 1).q, .int .i64 (onR 2 1 1).r, .int .i64 (onR 2 1 1).n, .int .i64 (onR 2 1 1).s, .int .i64 (onR 2 1 1).t, .int .i64 (onR 2 1 1).m.kind, .int .i64 (onR 2 1 1).m.origin, .int .i64 (onR 2 1 1).m.life, .int .i64 (onR 2 1 1).m.id, .int .i64 (onR 2 1 1).m.part, .int .i64 (onR 2 1 1).m.parts, .int .i64 (onR 2 1 1).m.groups, .bool (onR 2 1 1).m.safe, .int .i64 (onR 2 1 1).m.st, .int .i64 (onR 2 1 1).m.rs, .int .i64 (onR 2 1 1).m.rr, .int .i64 (onR 2 1 1).m.sq, .slice a1 1 c1] 45)) (by simp only [List.map_toArray, List.map_cons, List.map_nil]; rw [f94]; exact run_bslice w _ _ 1 18 _ _ (.agg #[.int .i64 0, .int .i64 0, .int .i64 0, .int .i64 0, .int .i64 0, .int .i64 0, .int .i64 0, .int .i64 0, .int .i64 0, .int .i64 0, .int .i64 0, .int .i64 0, .bool false, .int .i64 0, .int .i64 0, .int .i64 0, .int .i64 0, .slice none 0 0]) Tryz.underlying22 infoB18 (by decide) (by decide) (fillD1 a1 c1))) (hK _ _ (fun j oj d _ _ _ h => hstay _ _ _ _ hA h) ⟨fun _ => ⟨_, _, rfl, dts1 q94⟩, fun h => (by rw [hc] at h; cases h)⟩ (hinv.and hA))⟩
set_option maxRecDepth 100000 in
set_option maxHeartbeats 4000000 in
theorem rrn_s35 {ops : Array Oper} {aZ : Act} {w0 : World} {Q : Exit → Act → World → Prop} (b3 b4 : Nat) (a3 a4 : Option Addr) (c3 c4 : Nat) (u0 i7 iz : Bool) (e6 e8 ez : Int) (E : O_rrn ops) (ha0 : aZ.tmps.size = 108) (H35 : ∀ (W : World) (vs : Value) (es : List (Dt × Value)), Mod (fun _ => False) w0 W → Dts W vs es → Calls Tryz.prog 3 #[vs, .int .i64 4611686018427387904] W fun e w' => e = .returned (.bool true) ∧ Mod (fun _ => False) W w') :
    ∀ o, ops[35]? = some o → StepI Tryz.prog ops (p_rrn b3 b4 a3 a4 c3 c4 u0 i7 iz e6 e8 ez) (fun (_ : Array Bool) (_ : Act) (w : World) => Mod (fun _ => False) w0 w) aZ Q 35 o := by
  have hstay : ∀ (i : Nat) (v : Value) (w w1 : World), Mod (fun _ => False) w w1 → (p_rrn b3 b4 a3 a4 c3 c4 u0 i7 iz e6 e8 ez) i v w → (p_rrn b3 b4 a3 a4 c3 c4 u0 i7 iz e6 e8 ez) i v w1 := fun i v w w' hm h => p_rrn_stab _ _ _ _ _ _ _ _ _ _ _ _ i v w w' hm h
  refine E.e35.stepI fun o hd ho hg hw => ?_
  intro y w listed hsz hls hun hwt hdown D' hRR hinv K hK
  have gv : y.tmps.getD 93 undef = .bool (((((((u0 && true) && (e6 == 1)) && (e8 == 1)) && (!i7)) && (ez == 2)) && (!iz)) && true) := E.e32.postI (Post := (p_rrn b3 b4 a3 a4 c3 c4 u0 i7 iz e6 e8 ez)) (a := y) (w := w) D' (hwt 32 (hw 32 (by simp)))
  have wt : Region.wanted o (yielded ops y.tmps) = (((((((u0 && true) && (e6 == 1)) && (e8 == 1)) && (!i7)) && (ez == 2)) && (!iz)) && true) := by
    rw [wanted_b E.e32 hg (by rw [hsz, ha0]; decide) gv]
    cases (((((((u0 && true) && (e6 == 1)) && (e8 == 1)) && (!i7)) && (ez == 2)) && (!iz)) && true) <;> rfl
  cases hc : (((((((u0 && true) && (e6 == 1)) && (e8 == 1)) && (!i7)) && (ez == 2)) && (!iz)) && true)
  · exact .inr ⟨wt.trans hc, hK _ _ (fun _ _ _ _ _ _ h => h) (by show undef = if (((((((u0 && true) && (e6 == 1)) && (e8 == 1)) && (!i7)) && (ez == 2)) && (!iz)) && true) = true then .bool true else undef; rw [hc]; rfl) hinv⟩
  · obtain ⟨vs, es, f95, q95⟩ : ∃ vs es, y.eval (Operand.tmp 95) = vs ∧ Dts w vs es := (E.e34.postI (Post := (p_rrn b3 b4 a3 a4 c3 c4 u0 i7 iz e6 e8 ez)) (a := y) (w := w) D' (hwt 34 (hw 34 (by simp)))).1 hc
    refine .inl ⟨wt.trans hc, wp_enter (f := 3) (args := #[vs, .int .i64 4611686018427387904]) ?_ (H35 w vs es hinv q95) ?_⟩
    · have h := exec_call2 y.eval (fun args w => by simp [go_sem]) rfl ho (w := w)
      rw [f95] at h
      exact h
    · rintro e w' ⟨rfl, hm⟩
      exact ⟨_, rfl, hK _ _ (fun j oj d _ _ _ h => hstay _ _ _ _ hm h) (by show _ = if (((((((u0 && true) && (e6 == 1)) && (e8 == 1)) && (!i7)) && (ez == 2)) && (!iz)) && true) = true then .bool true else undef; rw [hc]; rfl) (hinv.and hm)⟩
set_option maxRecDepth 100000 in
set_option maxHeartbeats 4000000 in
theorem rrn_s36 {ops : Array Oper} {aZ : Act} {w0 : World} {Q : Exit → Act → World → Prop} (b3 b4 : Nat) (a3 a4 : Option Addr) (c3 c4 : Nat) (u0 i7 iz : Bool) (e6 e8 ez : Int) (E : O_rrn ops) :
    ∀ o, ops[36]? = some o → StepI Tryz.prog ops (p_rrn b3 b4 a3 a4 c3 c4 u0 i7 iz e6 e8 ez) (fun (_ : Array Bool) (_ : Act) (w : World) => Mod (fun _ => False) w0 w) aZ Q 36 o := by
  refine E.e36.stepI fun o hd ho hg hw => ?_
  intro y w listed hsz hls hun hwt hdown D' hRR hinv K hK
  have f93 : y.eval (Operand.tmp 93) = .bool (((((((u0 && true) && (e6 == 1)) && (e8 == 1)) && (!i7)) && (ez == 2)) && (!iz)) && true) := E.e32.postI (Post := (p_rrn b3 b4 a3 a4 c3 c4 u0 i7 iz e6 e8 ez)) (a := y) (w := w) D' (hwt 32 (hw 32 (by simp)))
  have f96 : y.eval (Operand.tmp 96) = if (((((((u0 && true) && (e6 == 1)) && (e8 == 1)) && (!i7)) && (ez == 2)) && (!iz)) && true) = true then .bool true else undef := E.e35.postI (Post := (p_rrn b3 b4 a3 a4 c3 c4 u0 i7 iz e6 e8 ez)) (a := y) (w := w) D' (hwt 35 (hw 35 (by simp)))
  exact .inl ⟨wanted_none hg, wp_value (ox_pick (v := .bool ((((((((u0 && true) && (e6 == 1)) && (e8 == 1)) && (!i7)) && (ez == 2)) && (!iz)) && true) && true)) ho f93 (by rw [f96]; cases (((((((u0 && true) && (e6 == 1)) && (e8 == 1)) && (!i7)) && (ez == 2)) && (!iz)) && true) <;> rfl)) (hK _ _ (fun _ _ _ _ _ _ h => h) rfl hinv)⟩
set_option maxRecDepth 100000 in
set_option maxHeartbeats 4000000 in
theorem rrn_s37 {ops : Array Oper} {aZ : Act} {w0 : World} {Q : Exit → Act → World → Prop} (b3 b4 : Nat) (a3 a4 : Option Addr) (c3 c4 : Nat) (u0 i7 iz : Bool) (e6 e8 ez : Int) (E : O_rrn ops) :
    ∀ o, ops[37]? = some o → StepI Tryz.prog ops (p_rrn b3 b4 a3 a4 c3 c4 u0 i7 iz e6 e8 ez) (fun (_ : Array Bool) (_ : Act) (w : World) => Mod (fun _ => False) w0 w) aZ Q 37 o := by
  refine E.e37.stepI fun o hd ho hg hw => ?_
  intro y w listed hsz hls hun hwt hdown D' hRR hinv K hK
  have f97 : y.eval (Operand.tmp 97) = .bool ((((((((u0 && true) && (e6 == 1)) && (e8 == 1)) && (!i7)) && (ez == 2)) && (!iz)) && true) && true) := E.e36.postI (Post := (p_rrn b3 b4 a3 a4 c3 c4 u0 i7 iz e6 e8 ez)) (a := y) (w := w) D' (hwt 36 (hw 36 (by simp)))
  exact .inl ⟨wanted_none hg, wp_value (ox_move ho f97) (hK _ _ (fun _ _ _ _ _ _ h => h) rfl hinv)⟩
set_option maxRecDepth 100000 in
set_option maxHeartbeats 4000000 in
theorem rrn_s38 {ops : Array Oper} {aZ : Act} {w0 : World} {Q : Exit → Act → World → Prop} (b3 b4 : Nat) (a3 a4 : Option Addr) (c3 c4 : Nat) (u0 i7 iz : Bool) (e6 e8 ez : Int) (E : O_rrn ops) (ha0 : aZ.tmps.size = 108) (H38 : ∀ (W : World), Mod (fun _ => False) w0 W → Calls Tryz.prog 3 #[.slice none 0 0, .int .i64 (-1)] W fun e w' => e = .returned (.bool true) ∧ Mod (fun _ => False) W w') :
    ∀ o, ops[38]? = some o → StepI Tryz.prog ops (p_rrn b3 b4 a3 a4 c3 c4 u0 i7 iz e6 e8 ez) (fun (_ : Array Bool) (_ : Act) (w : World) => Mod (fun _ => False) w0 w) aZ Q 38 o := by
  have hstay : ∀ (i : Nat) (v : Value) (w w1 : World), Mod (fun _ => False) w w1 → (p_rrn b3 b4 a3 a4 c3 c4 u0 i7 iz e6 e8 ez) i v w → (p_rrn b3 b4 a3 a4 c3 c4 u0 i7 iz e6 e8 ez) i v w1 := fun i v w w' hm h => p_rrn_stab _ _ _ _ _ _ _ _ _ _ _ _ i v w w' hm h
  refine E.e38.stepI fun o hd ho hg hw => ?_
  intro y w listed hsz hls hun hwt hdown D' hRR hinv K hK
  have gv : y.tmps.getD 98 undef = .bool ((((((((u0 && true) && (e6 == 1)) && (e8 == 1)) && (!i7)) && (ez == 2)) && (!iz)) && true) && true) := E.e37.postI (Post := (p_rrn b3 b4 a3 a4 c3 c4 u0 i7 iz e6 e8 ez)) (a := y) (w := w) D' (hwt 37 (hw 37 (by simp)))
  have wt : Region.wanted o (yielded ops y.tmps) = ((((((((u0 && true) && (e6 == 1)) && (e8 == 1)) && (!i7)) && (ez == 2)) && (!iz)) && true) && true) := by
    rw [wanted_b E.e37 hg (by rw [hsz, ha0]; decide) gv]
    cases ((((((((u0 && true) && (e6 == 1)) && (e8 == 1)) && (!i7)) && (ez == 2)) && (!iz)) && true) && true) <;> rfl
  cases hc : ((((((((u0 && true) && (e6 == 1)) && (e8 == 1)) && (!i7)) && (ez == 2)) && (!iz)) && true) && true)
  · exact .inr ⟨wt.trans hc, hK _ _ (fun _ _ _ _ _ _ h => h) (by show undef = if ((((((((u0 && true) && (e6 == 1)) && (e8 == 1)) && (!i7)) && (ez == 2)) && (!iz)) && true) && true) = true then .bool true else undef; rw [hc]; rfl) hinv⟩
  · refine .inl ⟨wt.trans hc, wp_enter (f := 3) (args := #[.slice none 0 0, .int .i64 (-1)]) ?_ (H38 w  hinv ) ?_⟩
    · have h := exec_call2 y.eval (fun args w => by simp [go_sem]) rfl ho (w := w)
      exact h
    · rintro e w' ⟨rfl, hm⟩
      exact ⟨_, rfl, hK _ _ (fun j oj d _ _ _ h => hstay _ _ _ _ hm h) (by show _ = if ((((((((u0 && true) && (e6 == 1)) && (e8 == 1)) && (!i7)) && (ez == 2)) && (!iz)) && true) && true) = true then .bool true else undef; rw [hc]; rfl) (hinv.and hm)⟩
set_option maxRecDepth 100000 in
set_option maxHeartbeats 4000000 in
theorem rrn_s39 {ops : Array Oper} {aZ : Act} {w0 : World} {Q : Exit → Act → World → Prop} (b3 b4 : Nat) (a3 a4 : Option Addr) (c3 c4 : Nat) (u0 i7 iz : Bool) (e6 e8 ez : Int) (E : O_rrn ops) :
    ∀ o, ops[39]? = some o → StepI Tryz.prog ops (p_rrn b3 b4 a3 a4 c3 c4 u0 i7 iz e6 e8 ez) (fun (_ : Array Bool) (_ : Act) (w : World) => Mod (fun _ => False) w0 w) aZ Q 39 o := by
  refine E.e39.stepI fun o hd ho hg hw => ?_
  intro y w listed hsz hls hun hwt hdown D' hRR hinv K hK
  have f98 : y.eval (Operand.tmp 98) = .bool ((((((((u0 && true) && (e6 == 1)) && (e8 == 1)) && (!i7)) && (ez == 2)) && (!iz)) && true) && true) := E.e37.postI (Post := (p_rrn b3 b4 a3 a4 c3 c4 u0 i7 iz e6 e8 ez)) (a := y) (w := w) D' (hwt 37 (hw 37 (by simp)))
  have f99 : y.eval (Operand.tmp 99) = if ((((((((u0 && true) && (e6 == 1)) && (e8 == 1)) && (!i7)) && (ez == 2)) && (!iz)) && true) && true) = true then .bool true else undef := E.e38.postI (Post := (p_rrn b3 b4 a3 a4 c3 c4 u0 i7 iz e6 e8 ez)) (a := y) (w := w) D' (hwt 38 (hw 38 (by simp)))
  exact .inl ⟨wanted_none hg, wp_value (ox_pick (v := .bool (((((((((u0 && true) && (e6 == 1)) && (e8 == 1)) && (!i7)) && (ez == 2)) && (!iz)) && true) && true) && true)) ho f98 (by rw [f99]; cases ((((((((u0 && true) && (e6 == 1)) && (e8 == 1)) && (!i7)) && (ez == 2)) && (!iz)) && true) && true) <;> rfl)) (hK _ _ (fun _ _ _ _ _ _ h => h) rfl hinv)⟩
set_option maxRecDepth 100000 in
set_option maxHeartbeats 4000000 in
theorem rrn_s40 {ops : Array Oper} {aZ : Act} {w0 : World} {Q : Exit → Act → World → Prop} (b3 b4 : Nat) (a3 a4 : Option Addr) (c3 c4 : Nat) (u0 i7 iz : Bool) (e6 e8 ez : Int) (E : O_rrn ops) :
    ∀ o, ops[40]? = some o → StepI Tryz.prog ops (p_rrn b3 b4 a3 a4 c3 c4 u0 i7 iz e6 e8 ez) (fun (_ : Array Bool) (_ : Act) (w : World) => Mod (fun _ => False) w0 w) aZ Q 40 o := by
  refine E.e40.stepI fun o hd ho hg hw => ?_
  intro y w listed hsz hls hun hwt hdown D' hRR hinv K hK
  have f100 : y.eval (Operand.tmp 100) = .bool (((((((((u0 && true) && (e6 == 1)) && (e8 == 1)) && (!i7)) && (ez == 2)) && (!iz)) && true) && true) && true) := E.e39.postI (Post := (p_rrn b3 b4 a3 a4 c3 c4 u0 i7 iz e6 e8 ez)) (a := y) (w := w) D' (hwt 39 (hw 39 (by simp)))
  exact .inl ⟨wanted_none hg, wp_value (ox_move ho f100) (hK _ _ (fun _ _ _ _ _ _ h => h) rfl hinv)⟩
set_option maxRecDepth 100000 in
set_option maxHeartbeats 4000000 in
theorem rrn_s41 {ops : Array Oper} {aZ : Act} {w0 : World} {Q : Exit → Act → World → Prop} (b3 b4 : Nat) (a3 a4 : Option Addr) (c3 c4 : Nat) (u0 i7 iz : Bool) (e6 e8 ez : Int) (E : O_rrn ops) (ha0 : aZ.tmps.size = 108) (H41 : ∀ (W : World), Mod (fun _ => False) w0 W → Calls Tryz.prog 26 #[] W fun e w' => e = .returned (.agg #[.int .i64 2, .int .i64 1]) ∧ Mod (fun _ => False) W w') :
    ∀ o, ops[41]? = some o → StepI Tryz.prog ops (p_rrn b3 b4 a3 a4 c3 c4 u0 i7 iz e6 e8 ez) (fun (_ : Array Bool) (_ : Act) (w : World) => Mod (fun _ => False) w0 w) aZ Q 41 o := by
  have hstay : ∀ (i : Nat) (v : Value) (w w1 : World), Mod (fun _ => False) w w1 → (p_rrn b3 b4 a3 a4 c3 c4 u0 i7 iz e6 e8 ez) i v w → (p_rrn b3 b4 a3 a4 c3 c4 u0 i7 iz e6 e8 ez) i v w1 := fun i v w w' hm h => p_rrn_stab _ _ _ _ _ _ _ _ _ _ _ _ i v w w' hm h
  refine E.e41.stepI fun o hd ho hg hw => ?_
  intro y w listed hsz hls hun hwt hdown D' hRR hinv K hK
  have gv : y.tmps.getD 101 undef = .bool (((((((((u0 && true) && (e6 == 1)) && (e8 == 1)) && (!i7)) && (ez == 2)) && (!iz)) && true) && true) && true) := E.e40.postI (Post := (p_rrn b3 b4 a3 a4 c3 c4 u0 i7 iz e6 e8 ez)) (a := y) (w := w) D' (hwt 40 (hw 40 (by simp)))
  have wt : Region.wanted o (yielded ops y.tmps) = (((((((((u0 && true) && (e6 == 1)) && (e8 == 1)) && (!i7)) && (ez == 2)) && (!iz)) && true) && true) && true) := by
    rw [wanted_b E.e40 hg (by rw [hsz, ha0]; decide) gv]
    cases (((((((((u0 && true) && (e6 == 1)) && (e8 == 1)) && (!i7)) && (ez == 2)) && (!iz)) && true) && true) && true) <;> rfl
  cases hc : (((((((((u0 && true) && (e6 == 1)) && (e8 == 1)) && (!i7)) && (ez == 2)) && (!iz)) && true) && true) && true)
  · exact .inr ⟨wt.trans hc, hK _ _ (fun _ _ _ _ _ _ h => h) (by show undef = if (((((((((u0 && true) && (e6 == 1)) && (e8 == 1)) && (!i7)) && (ez == 2)) && (!iz)) && true) && true) && true) = true then .agg #[.int .i64 2, .int .i64 1] else undef; rw [hc]; rfl) hinv⟩
  · refine .inl ⟨wt.trans hc, wp_enter (f := 26) (args := #[]) ?_ (H41 w  hinv ) ?_⟩
    · have h := exec_call0 y.eval (fun args w => by simp [go_sem]) rfl ho (w := w)
      exact h
    · rintro e w' ⟨rfl, hm⟩
      exact ⟨_, rfl, hK _ _ (fun j oj d _ _ _ h => hstay _ _ _ _ hm h) (by show _ = if (((((((((u0 && true) && (e6 == 1)) && (e8 == 1)) && (!i7)) && (ez == 2)) && (!iz)) && true) && true) && true) = true then .agg #[.int .i64 2, .int .i64 1] else undef; rw [hc]; rfl) (hinv.and hm)⟩
set_option maxRecDepth 100000 in
set_option maxHeartbeats 4000000 in
theorem rrn_s42 {ops : Array Oper} {aZ : Act} {w0 : World} {Q : Exit → Act → World → Prop} (b3 b4 : Nat) (a3 a4 : Option Addr) (c3 c4 : Nat) (u0 i7 iz : Bool) (e6 e8 ez : Int) (E : O_rrn ops) (ha0 : aZ.tmps.size = 108) :
    ∀ o, ops[42]? = some o → StepI Tryz.prog ops (p_rrn b3 b4 a3 a4 c3 c4 u0 i7 iz e6 e8 ez) (fun (_ : Array Bool) (_ : Act) (w : World) => Mod (fun _ => False) w0 w) aZ Q 42 o := by
  refine E.e42.stepI fun o hd ho hg hw => ?_
  intro y w listed hsz hls hun hwt hdown D' hRR hinv K hK
  have gv : y.tmps.getD 101 undef = .bool (((((((((u0 && true) && (e6 == 1)) && (e8 == 1)) && (!i7)) && (ez == 2)) && (!iz)) && true) && true) && true) := E.e40.postI (Post := (p_rrn b3 b4 a3 a4 c3 c4 u0 i7 iz e6 e8 ez)) (a := y) (w := w) D' (hwt 40 (hw 40 (by simp)))
  have wt : Region.wanted o (yielded ops y.tmps) = (((((((((u0 && true) && (e6 == 1)) && (e8 == 1)) && (!i7)) && (ez == 2)) && (!iz)) && true) && true) && true) := by
    rw [wanted_b E.e40 hg (by rw [hsz, ha0]; decide) gv]
    cases (((((((((u0 && true) && (e6 == 1)) && (e8 == 1)) && (!i7)) && (ez == 2)) && (!iz)) && true) && true) && true) <;> rfl
  cases hc : (((((((((u0 && true) && (e6 == 1)) && (e8 == 1)) && (!i7)) && (ez == 2)) && (!iz)) && true) && true) && true)
  · exact .inr ⟨wt.trans hc, hK _ _ (fun _ _ _ _ _ _ h => h) (by show undef = if (((((((((u0 && true) && (e6 == 1)) && (e8 == 1)) && (!i7)) && (ez == 2)) && (!iz)) && true) && true) && true) = true then .agg #[.int .i64 0, .int .i64 0, .int .i64 0, .int .i64 0, .int .i64 0, .int .i64 0, .int .i64 0, .bool false, .int .i64 0, .int .i64 0, .int .i64 0, .int .i64 0, .slice none 0 0] else undef; rw [hc]; rfl) hinv⟩
  · exact .inl ⟨wt.trans hc, wp_value (rrn_bd42 ho (fun _ => rfl)) (hK _ _ (fun _ _ _ _ _ _ h => h) (by show _ = if (((((((((u0 && true) && (e6 == 1)) && (e8 == 1)) && (!i7)) && (ez == 2)) && (!iz)) && true) && true) && true) = true then .agg #[.int .i64 0, .int .i64 0, .int .i64 0, .int .i64 0, .int .i64 0, .int .i64 0, .int .i64 0, .bool false, .int .i64 0, .int .i64 0, .int .i64 0, .int .i64 0, .slice none 0 0] else undef; rw [hc]; rfl) hinv)⟩
set_option maxRecDepth 100000 in
set_option maxHeartbeats 4000000 in
theorem rrn_s43 {ops : Array Oper} {aZ : Act} {w0 : World} {Q : Exit → Act → World → Prop} (b3 b4 : Nat) (a3 a4 : Option Addr) (c3 c4 : Nat) (u0 i7 iz : Bool) (e6 e8 ez : Int) (E : O_rrn ops) (ha0 : aZ.tmps.size = 108) :
    ∀ o, ops[43]? = some o → StepI Tryz.prog ops (p_rrn b3 b4 a3 a4 c3 c4 u0 i7 iz e6 e8 ez) (fun (_ : Array Bool) (_ : Act) (w : World) => Mod (fun _ => False) w0 w) aZ Q 43 o := by
  refine E.e43.stepI fun o hd ho hg hw => ?_
  intro y w listed hsz hls hun hwt hdown D' hRR hinv K hK
  have gv : y.tmps.getD 101 undef = .bool (((((((((u0 && true) && (e6 == 1)) && (e8 == 1)) && (!i7)) && (ez == 2)) && (!iz)) && true) && true) && true) := E.e40.postI (Post := (p_rrn b3 b4 a3 a4 c3 c4 u0 i7 iz e6 e8 ez)) (a := y) (w := w) D' (hwt 40 (hw 40 (by simp)))
  have wt : Region.wanted o (yielded ops y.tmps) = (((((((((u0 && true) && (e6 == 1)) && (e8 == 1)) && (!i7)) && (ez == 2)) && (!iz)) && true) && true) && true) := by
    rw [wanted_b E.e40 hg (by rw [hsz, ha0]; decide) gv]
    cases (((((((((u0 && true) && (e6 == 1)) && (e8 == 1)) && (!i7)) && (ez == 2)) && (!iz)) && true) && true) && true) <;> rfl
  cases hc : (((((((((u0 && true) && (e6 == 1)) && (e8 == 1)) && (!i7)) && (ez == 2)) && (!iz)) && true) && true) && true)
  · exact .inr ⟨wt.trans hc, hK _ _ (fun _ _ _ _ _ _ h => h) (by show undef = if (((((((((u0 && true) && (e6 == 1)) && (e8 == 1)) && (!i7)) && (ez == 2)) && (!iz)) && true) && true) && true) = true then .agg #[.int .i64 5, .int .i64 0, .int .i64 0, .int .i64 0, .int .i64 0, .int .i64 0, .int .i64 0, .bool false, .int .i64 0, .int .i64 0, .int .i64 0, .int .i64 0, .slice none 0 0] else undef; rw [hc]; rfl) hinv⟩
  · exact .inl ⟨wt.trans hc, wp_value (rrn_bd43 ho (fun _ => rfl)) (hK _ _ (fun _ _ _ _ _ _ h => h) (by show _ = if (((((((((u0 && true) && (e6 == 1)) && (e8 == 1)) && (!i7)) && (ez == 2)) && (!iz)) && true) && true) && true) = true then .agg #[.int .i64 5, .int .i64 0, .int .i64 0, .int .i64 0, .int .i64 0, .int .i64 0, .int .i64 0, .bool false, .int .i64 0, .int .i64 0, .int .i64 0, .int .i64 0, .slice none 0 0] else undef; rw [hc]; rfl) hinv)⟩
set_option maxRecDepth 100000 in
set_option maxHeartbeats 4000000 in
theorem rrn_s44 {ops : Array Oper} {aZ : Act} {w0 : World} {Q : Exit → Act → World → Prop} (b3 b4 : Nat) (a3 a4 : Option Addr) (c3 c4 : Nat) (u0 i7 iz : Bool) (e6 e8 ez : Int) (E : O_rrn ops) (ha0 : aZ.tmps.size = 108) :
    ∀ o, ops[44]? = some o → StepI Tryz.prog ops (p_rrn b3 b4 a3 a4 c3 c4 u0 i7 iz e6 e8 ez) (fun (_ : Array Bool) (_ : Act) (w : World) => Mod (fun _ => False) w0 w) aZ Q 44 o := by
  have hstay : ∀ (i : Nat) (v : Value) (w w1 : World), Mod (fun _ => False) w w1 → (p_rrn b3 b4 a3 a4 c3 c4 u0 i7 iz e6 e8 ez) i v w → (p_rrn b3 b4 a3 a4 c3 c4 u0 i7 iz e6 e8 ez) i v w1 := fun i v w w' hm h => p_rrn_stab _ _ _ _ _ _ _ _ _ _ _ _ i v w w' hm h
  refine E.e44.stepI fun o hd ho hg hw => ?_
  intro y w listed hsz hls hun hwt hdown D' hRR hinv K hK
  have gv : y.tmps.getD 101 undef = .bool (((((((((u0 && true) && (e6 == 1)) && (e8 == 1)) && (!i7)) && (ez == 2)) && (!iz)) && true) && true) && true) := E.e40.postI (Post := (p_rrn b3 b4 a3 a4 c3 c4 u0 i7 iz e6 e8 ez)) (a := y) (w := w) D' (hwt 40 (hw 40 (by simp)))
  have wt : Region.wanted o (yielded ops y.tmps) = (((((((((u0 && true) && (e6 == 1)) && (e8 == 1)) && (!i7)) && (ez == 2)) && (!iz)) && true) && true) && true) := by
    rw [wanted_b E.e40 hg (by rw [hsz, ha0]; decide) gv]
    cases (((((((((u0 && true) && (e6 == 1)) && (e8 == 1)) && (!i7)) && (ez == 2)) && (!iz)) && true) && true) && true) <;> rfl
  cases hc : (((((((((u0 && true) && (e6 == 1)) && (e8 == 1)) && (!i7)) && (ez == 2)) && (!iz)) && true) && true) && true)
  · exact .inr ⟨wt.trans hc, hK _ _ (fun _ _ _ _ _ _ h => h) ⟨fun h => (by rw [hc] at h; cases h), fun _ => rfl⟩ hinv⟩
  · have f103 : y.eval (Operand.tmp 103) = .agg #[.int .i64 0, .int .i64 0, .int .i64 0, .int .i64 0, .int .i64 0, .int .i64 0, .int .i64 0, .bool false, .int .i64 0, .int .i64 0, .int .i64 0, .int .i64 0, .slice none 0 0] := (show y.eval (Operand.tmp 103) = (if (((((((((u0 && true) && (e6 == 1)) && (e8 == 1)) && (!i7)) && (ez == 2)) && (!iz)) && true) && true) && true) = true then .agg #[.int .i64 0, .int .i64 0, .int .i64 0, .int .i64 0, .int .i64 0, .int .i64 0, .int .i64 0, .bool false, .int .i64 0, .int .i64 0, .int .i64 0, .int .i64 0, .slice none 0 0] else undef) from E.e42.postI (Post := (p_rrn b3 b4 a3 a4 c3 c4 u0 i7 iz e6 e8 ez)) (a := y) (w := w) D' (hwt 42 (hw 42 (by simp)))).trans (if_pos hc)
    have f104 : y.eval (Operand.tmp 104) = .agg #[.int .i64 5, .int .i64 0, .int .i64 0, .int .i64 0, .int .i64 0, .int .i64 0, .int .i64 0, .bool false, .int .i64 0, .int .i64 0, .int .i64 0, .int .i64 0, .slice none 0 0] := (show y.eval (Operand.tmp 104) = (if (((((((((u0 && true) && (e6 == 1)) && (e8 == 1)) && (!i7)) && (ez == 2)) && (!iz)) && true) && true) && true) = true then .agg #[.int .i64 5, .int .i64 0, .int .i64 0, .int .i64 0, .int .i64 0, .int .i64 0, .int .i64 0, .bool false, .int .i64 0, .int .i64 0, .int .i64 0, .int .i64 0, .slice none 0 0] else undef) from E.e43.postI (Post := (p_rrn b3 b4 a3 a4 c3 c4 u0 i7 iz e6 e8 ez)) (a := y) (w := w) D' (hwt 43 (hw 43 (by simp)))).trans (if_pos hc)
    have hA := (Mod.refl (fun _ => False) w).alloc (.cells #[.int .i64 0, .int .i64 0, .int .i64 0, .int .i64 0, .int .i64 0, .int .i64 0, .int .i64 0, .bool false, .int .i64 0, .int .i64 0, .int .i64 0, .int .i64 0, .slice none 0 0, .int .i64 5, .int .i64 0, .int .i64 0, .int .i64 0, .int .i64 0, .int .i64 0, .int .i64 0, .bool false, .int .i64 0, .int .i64 0, .int .i64 0, .int .i64 0, .slice none 0 0] 43)
    exact .inl ⟨wt.trans hc, wp_value (ox_bslice ho (v := .slice (some ⟨w.heap.size, 0, none⟩) 2 2) (w' := w.alloc (.cells #[.int .i64 0, .int .i64 0, .int .i64 0, .int .i64 0, .int .i64 0, .int .i64 0, .int .i64 0, .bool false, .int .i64 0, .int .i64 0, .int .i64 0, .int .i64 0, .slice none 0 0, .int .i64 5, .int .i64 0, .int .i64 0, .int .i64 0, .int .i64 0, .int .i64 0, .int .i64 0, .bool false, .int .i64 0, .int .i64 0, .int .i64 0, .int .i64 0, .slice none 0 0] 43)) (by simp only [List.map_toArray, List.map_cons, List.map_nil]; rw [f103, f104]; exact run_bslice w _ _ 2 13 _ _ (.agg #[.int .i64 0, .int .i64 0, .int .i64 0, .int .i64 0, .int .i64 0, .int .i64 0, .int .i64 0, .bool false, .int .i64 0, .int .i64 0, .int .i64 0, .int .i64 0, .slice none 0 0]) Tryz.underlying51 infoB13 (by decide) (by decide) (fillM2))) (hK _ _ (fun j oj d _ _ _ h => hstay _ _ _ _ hA h) ⟨fun _ => ⟨_, _, rfl, mss2 w⟩, fun h => (by rw [hc] at h; cases h)⟩ (hinv.and hA))⟩
set_option maxRecDepth 100000 in
set_option maxHeartbeats 4000000 in
theorem rrn_s45 {ops : Array Oper} {aZ : Act} {w0 : World} {Q : Exit → Act → World → Prop} (b3 b4 : Nat) (a3 a4 : Option Addr) (c3 c4 : Nat) (u0 i7 iz : Bool) (e6 e8 ez : Int) (E : O_rrn ops) (ha0 : aZ.tmps.size = 108) (H45 : ∀ (W : World) (vs : Value) (es : List (Ms × Value)), Mod (fun _ => False) w0 W → Mss W vs es → Calls Tryz.prog 4 #[.slice none 0 0, .agg #[.int .i64 2, .int .i64 1], vs] W fun e w' => e = .returned (.bool true) ∧ Mod (fun _ => False) W w') :
    ∀ o, ops[45]? = some o → StepI Tryz.prog ops (p_rrn b3 b4 a3 a4 c3 c4 u0 i7 iz e6 e8 ez) (fun (_ : Array Bool) (_ : Act) (w : World) => Mod (fun _ => False) w0 w) aZ Q 45 o := by
  have hstay : ∀ (i : Nat) (v : Value) (w w1 : World), Mod (fun _ => False) w w1 → (p_rrn b3 b4 a3 a4 c3 c4 u0 i7 iz e6 e8 ez) i v w → (p_rrn b3 b4 a3 a4 c3 c4 u0 i7 iz e6 e8 ez) i v w1 := fun i v w w' hm h => p_rrn_stab _ _ _ _ _ _ _ _ _ _ _ _ i v w w' hm h
  refine E.e45.stepI fun o hd ho hg hw => ?_
  intro y w listed hsz hls hun hwt hdown D' hRR hinv K hK
  have gv : y.tmps.getD 101 undef = .bool (((((((((u0 && true) && (e6 == 1)) && (e8 == 1)) && (!i7)) && (ez == 2)) && (!iz)) && true) && true) && true) := E.e40.postI (Post := (p_rrn b3 b4 a3 a4 c3 c4 u0 i7 iz e6 e8 ez)) (a := y) (w := w) D' (hwt 40 (hw 40 (by simp)))
  have wt : Region.wanted o (yielded ops y.tmps) = (((((((((u0 && true) && (e6 == 1)) && (e8 == 1)) && (!i7)) && (ez == 2)) && (!iz)) && true) && true) && true) := by
    rw [wanted_b E.e40 hg (by rw [hsz, ha0]; decide) gv]
    cases (((((((((u0 && true) && (e6 == 1)) && (e8 == 1)) && (!i7)) && (ez == 2)) && (!iz)) && true) && true) && true) <;> rfl
  cases hc : (((((((((u0 && true) && (e6 == 1)) && (e8 == 1)) && (!i7)) && (ez == 2)) && (!iz)) && true) && true) && true)
  · exact .inr ⟨wt.trans hc, hK _ _ (fun _ _ _ _ _ _ h => h) (by show undef = if (((((((((u0 && true) && (e6 == 1)) && (e8 == 1)) && (!i7)) && (ez == 2)) && (!iz)) && true) && true) && true) = true then .bool true else undef; rw [hc]; rfl) hinv⟩
  · have f102 : y.eval (Operand.tmp 102) = .agg #[.int .i64 2, .int .i64 1] := (show y.eval (Operand.tmp 102) = (if (((((((((u0 && true) && (e6 == 1)) && (e8 == 1)) && (!i7)) && (ez == 2)) && (!iz)) && true) && true) && true) = true then .agg #[.int .i64 2, .int .i64 1] else undef) from E.e41.postI (Post := (p_rrn b3 b4 a3 a4 c3 c4 u0 i7 iz e6 e8 ez)) (a := y) (w := w) D' (hwt 41 (hw 41 (by simp)))).trans (if_pos hc)
    obtain ⟨vs, es, f105, q105⟩ : ∃ vs es, y.eval (Operand.tmp 105) = vs ∧ Mss w vs es := (E.e44.postI (Post := (p_rrn b3 b4 a3 a4 c3 c4 u0 i7 iz e6 e8 ez)) (a := y) (w := w) D' (hwt 44 (hw 44 (by simp)))).1 hc
    refine .inl ⟨wt.trans hc, wp_enter (f := 4) (args := #[.slice none 0 0, .agg #[.int .i64 2, .int .i64 1], vs]) ?_ (H45 w vs es hinv q105) ?_⟩
    · have h := rx_call3 (ρ := y.eval) (fun args w => by simp [go_sem]) rfl ho (w := w)
      rw [f102, f105] at h
      exact h
    · rintro e w' ⟨rfl, hm⟩
      exact ⟨_, rfl, hK _ _ (fun j oj d _ _ _ h => hstay _ _ _ _ hm h) (by show _ = if (((((((((u0 && true) && (e6 == 1)) && (e8 == 1)) && (!i7)) && (ez == 2)) && (!iz)) && true) && true) && true) = true then .bool true else undef; rw [hc]; rfl) (hinv.and hm)⟩
set_option maxRecDepth 100000 in
set_option maxHeartbeats 4000000 in
theorem rrn_s46 {ops : Array Oper} {aZ : Act} {w0 : World} {Q : Exit → Act → World → Prop} (b3 b4 : Nat) (a3 a4 : Option Addr) (c3 c4 : Nat) (u0 i7 iz : Bool) (e6 e8 ez : Int) (E : O_rrn ops) :
    ∀ o, ops[46]? = some o → StepI Tryz.prog ops (p_rrn b3 b4 a3 a4 c3 c4 u0 i7 iz e6 e8 ez) (fun (_ : Array Bool) (_ : Act) (w : World) => Mod (fun _ => False) w0 w) aZ Q 46 o := by
  refine E.e46.stepI fun o hd ho hg hw => ?_
  intro y w listed hsz hls hun hwt hdown D' hRR hinv K hK
  have f101 : y.eval (Operand.tmp 101) = .bool (((((((((u0 && true) && (e6 == 1)) && (e8 == 1)) && (!i7)) && (ez == 2)) && (!iz)) && true) && true) && true) := E.e40.postI (Post := (p_rrn b3 b4 a3 a4 c3 c4 u0 i7 iz e6 e8 ez)) (a := y) (w := w) D' (hwt 40 (hw 40 (by simp)))
  have f106 : y.eval (Operand.tmp 106) = if (((((((((u0 && true) && (e6 == 1)) && (e8 == 1)) && (!i7)) && (ez == 2)) && (!iz)) && true) && true) && true) = true then .bool true else undef := E.e45.postI (Post := (p_rrn b3 b4 a3 a4 c3 c4 u0 i7 iz e6 e8 ez)) (a := y) (w := w) D' (hwt 45 (hw 45 (by simp)))
  exact .inl ⟨wanted_none hg, wp_value (ox_pick (v := .bool ((((((((((u0 && true) && (e6 == 1)) && (e8 == 1)) && (!i7)) && (ez == 2)) && (!iz)) && true) && true) && true) && true)) ho f101 (by rw [f106]; cases (((((((((u0 && true) && (e6 == 1)) && (e8 == 1)) && (!i7)) && (ez == 2)) && (!iz)) && true) && true) && true) <;> rfl)) (hK _ _ (fun _ _ _ _ _ _ h => h) rfl hinv)⟩
set_option maxRecDepth 100000 in
set_option maxHeartbeats 4000000 in
theorem rrn_s47 {ops : Array Oper} {aZ : Act} {w0 : World} {Q : Exit → Act → World → Prop} (b3 b4 : Nat) (a3 a4 : Option Addr) (c3 c4 : Nat) (u0 i7 iz : Bool) (e6 e8 ez : Int) (E : O_rrn ops) :
    ∀ o, ops[47]? = some o → StepI Tryz.prog ops (p_rrn b3 b4 a3 a4 c3 c4 u0 i7 iz e6 e8 ez) (fun (_ : Array Bool) (_ : Act) (w : World) => Mod (fun _ => False) w0 w) aZ Q 47 o := by
  refine E.e47.stepI fun o hd ho hg hw => ?_
  intro y w listed hsz hls hun hwt hdown D' hRR hinv K hK
  have f107 : y.eval (Operand.tmp 107) = .bool ((((((((((u0 && true) && (e6 == 1)) && (e8 == 1)) && (!i7)) && (ez == 2)) && (!iz)) && true) && true) && true) && true) := E.e46.postI (Post := (p_rrn b3 b4 a3 a4 c3 c4 u0 i7 iz e6 e8 ez)) (a := y) (w := w) D' (hwt 46 (hw 46 (by simp)))
  exact .inl ⟨wanted_none hg, wp_value (rx_assign ho f107) (hK _ _ (fun _ _ _ _ _ _ h => h) rfl hinv)⟩
set_option maxRecDepth 100000 in
set_option maxHeartbeats 4000000 in
theorem rrn {ops : Array Oper} {id : Nat} {aZ : Act} {w0 : World} {Q : Exit → Act → World → Prop} (b3 b4 : Nat) (a3 a4 : Option Addr) (c3 c4 : Nat) (u0 i7 iz : Bool) (e6 e8 ez : Int)
    (E : O_rrn ops) (hN : ops.size = 48) (hlow : lowB ops = true) (hds : dsts ops = [some 61, some 62, some 63, some 64, some 65, some 66, some 67, some 68, some 69, some 70, some 71, some 72, some 73, some 74, some 75, some 76, some 77, some 78, some 79, some 80, some 81, some 82, some 83, some 84, some 85, some 86, some 87, some 88, some 89, some 90, some 91, some 92, some 93, some 94, some 95, some 96, some 97, some 98, some 99, some 100, some 101, some 102, some 103, some 104, some 105, some 106, some 107, some 0]) (hnd : injB ops = true) (ha0 : aZ.tmps.size = 108)
    (bS6 : aZ.tmps.getD 6 undef = .int .i64 e6)
    (bS7 : aZ.tmps.getD 7 undef = .bool i7)
    (bS8 : aZ.tmps.getD 8 undef = .int .i64 e8)
    (bS10 : aZ.tmps.getD 10 undef = .bool iz)
    (bS11 : aZ.tmps.getD 11 undef = .int .i64 ez)
    (bS12 : aZ.tmps.getD 12 undef = .pointer (some ⟨b3, 0, none⟩))
    (bS13 : aZ.tmps.getD 13 undef = .pointer (some ⟨b4, 0, none⟩))
    (k_b3_0 : w0.cell? ⟨b3, 0, none⟩ = some (.int .i64 (onR 2 1 3).q))
    (k_b3_1 : w0.cell? ⟨b3, 1, none⟩ = some (.int .i64 (onR 2 1 3).r))
    (k_b3_2 : w0.cell? ⟨b3, 2, none⟩ = some (.int .i64 (onR 2 1 3).n))
    (k_b3_3 : w0.cell? ⟨b3, 3, none⟩ = some (.int .i64 (onR 2 1 3).s))
    (k_b3_4 : w0.cell? ⟨b3, 4, none⟩ = some (.int .i64 (onR 2 1 3).t))
    (k_b3_5 : w0.cell? ⟨b3, 5, none⟩ = some (.int .i64 (onR 2 1 3).m.kind))
    (k_b3_6 : w0.cell? ⟨b3, 6, none⟩ = some (.int .i64 0))
    (k_b3_7 : w0.cell? ⟨b3, 7, none⟩ = some (.int .i64 (onR 2 1 3).m.life))
    (k_b3_8 : w0.cell? ⟨b3, 8, none⟩ = some (.int .i64 (onR 2 1 3).m.id))
    (k_b3_9 : w0.cell? ⟨b3, 9, none⟩ = some (.int .i64 (onR 2 1 3).m.part))
    (k_b3_10 : w0.cell? ⟨b3, 10, none⟩ = some (.int .i64 (onR 2 1 3).m.parts))
    (k_b3_11 : w0.cell? ⟨b3, 11, none⟩ = some (.int .i64 (onR 2 1 3).m.groups))
    (k_b3_12 : w0.cell? ⟨b3, 12, none⟩ = some (.bool (onR 2 1 3).m.safe))
    (k_b3_13 : w0.cell? ⟨b3, 13, none⟩ = some (.int .i64 (onR 2 1 3).m.st))
    (k_b3_14 : w0.cell? ⟨b3, 14, none⟩ = some (.int .i64 (onR 2 1 3).m.rs))
    (k_b3_15 : w0.cell? ⟨b3, 15, none⟩ = some (.int .i64 (onR 2 1 3).m.rr))
    (k_b3_16 : w0.cell? ⟨b3, 16, none⟩ = some (.int .i64 (onR 2 1 3).m.sq))
    (k_b3_17 : w0.cell? ⟨b3, 17, none⟩ = some (.slice a3 1 c3))
    (k_b4_0 : w0.cell? ⟨b4, 0, none⟩ = some (.int .i64 (onR 2 1 4).q))
    (k_b4_1 : w0.cell? ⟨b4, 1, none⟩ = some (.int .i64 (onR 2 1 4).r))
    (k_b4_2 : w0.cell? ⟨b4, 2, none⟩ = some (.int .i64 (onR 2 1 4).n))
    (k_b4_3 : w0.cell? ⟨b4, 3, none⟩ = some (.int .i64 (onR 2 1 4).s))
    (k_b4_4 : w0.cell? ⟨b4, 4, none⟩ = some (.int .i64 (onR 2 1 4).t))
    (k_b4_5 : w0.cell? ⟨b4, 5, none⟩ = some (.int .i64 5))
    (k_b4_6 : w0.cell? ⟨b4, 6, none⟩ = some (.int .i64 (onR 2 1 4).m.origin))
    (k_b4_7 : w0.cell? ⟨b4, 7, none⟩ = some (.int .i64 (onR 2 1 4).m.life))
    (k_b4_8 : w0.cell? ⟨b4, 8, none⟩ = some (.int .i64 (onR 2 1 4).m.id))
    (k_b4_9 : w0.cell? ⟨b4, 9, none⟩ = some (.int .i64 (onR 2 1 4).m.part))
    (k_b4_10 : w0.cell? ⟨b4, 10, none⟩ = some (.int .i64 (onR 2 1 4).m.parts))
    (k_b4_11 : w0.cell? ⟨b4, 11, none⟩ = some (.int .i64 (onR 2 1 4).m.groups))
    (k_b4_12 : w0.cell? ⟨b4, 12, none⟩ = some (.bool (onR 2 1 4).m.safe))
    (k_b4_13 : w0.cell? ⟨b4, 13, none⟩ = some (.int .i64 (onR 2 1 4).m.st))
    (k_b4_14 : w0.cell? ⟨b4, 14, none⟩ = some (.int .i64 (onR 2 1 4).m.rs))
    (k_b4_15 : w0.cell? ⟨b4, 15, none⟩ = some (.int .i64 (onR 2 1 4).m.rr))
    (k_b4_16 : w0.cell? ⟨b4, 16, none⟩ = some (.int .i64 (onR 2 1 4).m.sq))
    (k_b4_17 : w0.cell? ⟨b4, 17, none⟩ = some (.slice a4 1 c4))
    (hu0 : u0 = true)
    (hO3 : Own w0 (.slice a3 1 c3) [3])
    (hO4 : Own w0 (.slice a4 1 c4) [4])
    (H1 : ∀ (W : World), Mod (fun _ => False) w0 W → Calls Tryz.prog 15 #[] W fun e w' => e = .returned (.bool true) ∧ Mod (fun _ => False) W w')
    (H24 : ∀ (W : World), Mod (fun _ => False) w0 W → Calls Tryz.prog 28 #[.int .i64 1] W fun e w' => ∃ a1 c1, e = .returned (.agg #[.int .i64 (onR 2 1 1).q, .int .i64 (onR 2 1 1).r, .int .i64 (onR 2 1 1).n, .int .i64 (onR 2 1 1).s, .int .i64 (onR 2 1 1).t, .int .i64 (onR 2 1 1).m.kind, .int .i64 (onR 2 1 1).m.origin, .int .i64 (onR 2 1 1).m.life, .int .i64 (onR 2 1 1).m.id, .int .i64 (onR 2 1 1).m.part, .int .i64 (onR 2 1 1).m.parts, .int .i64 (onR 2 1 1).m.groups, .bool (onR 2 1 1).m.safe, .int .i64 (onR 2 1 1).m.st, .int .i64 (onR 2 1 1).m.rs, .int .i64 (onR 2 1 1).m.rr, .int .i64 (onR 2 1 1).m.sq, .slice a1 1 c1]) ∧ Own w' (.slice a1 1 c1) [1] ∧ Mod (fun _ => False) W w')
    (H26 : ∀ (W : World), Mod (fun _ => False) w0 W → Calls Tryz.prog 28 #[.int .i64 2] W fun e w' => ∃ a2 c2, e = .returned (.agg #[.int .i64 (onR 2 1 2).q, .int .i64 (onR 2 1 2).r, .int .i64 (onR 2 1 2).n, .int .i64 (onR 2 1 2).s, .int .i64 (onR 2 1 2).t, .int .i64 (onR 2 1 2).m.kind, .int .i64 (onR 2 1 2).m.origin, .int .i64 (onR 2 1 2).m.life, .int .i64 (onR 2 1 2).m.id, .int .i64 (onR 2 1 2).m.part, .int .i64 (onR 2 1 2).m.parts, .int .i64 (onR 2 1 2).m.groups, .bool (onR 2 1 2).m.safe, .int .i64 (onR 2 1 2).m.st, .int .i64 (onR 2 1 2).m.rs, .int .i64 (onR 2 1 2).m.rr, .int .i64 (onR 2 1 2).m.sq, .slice a2 1 c2]) ∧ Own w' (.slice a2 1 c2) [2] ∧ Mod (fun _ => False) W w')
    (H28 : ∀ (W : World), Mod (fun _ => False) w0 W → Calls Tryz.prog 28 #[.int .i64 9] W fun e w' => ∃ a9 c9, e = .returned (.agg #[.int .i64 (onR 2 1 9).q, .int .i64 (onR 2 1 9).r, .int .i64 (onR 2 1 9).n, .int .i64 (onR 2 1 9).s, .int .i64 (onR 2 1 9).t, .int .i64 (onR 2 1 9).m.kind, .int .i64 (onR 2 1 9).m.origin, .int .i64 (onR 2 1 9).m.life, .int .i64 (onR 2 1 9).m.id, .int .i64 (onR 2 1 9).m.part, .int .i64 (onR 2 1 9).m.parts, .int .i64 (onR 2 1 9).m.groups, .bool (onR 2 1 9).m.safe, .int .i64 (onR 2 1 9).m.st, .int .i64 (onR 2 1 9).m.rs, .int .i64 (onR 2 1 9).m.rr, .int .i64 (onR 2 1 9).m.sq, .slice a9 1 c9]) ∧ Own w' (.slice a9 1 c9) [9] ∧ Mod (fun _ => False) W w')
    (H30 : ∀ (W : World) (vs : Value) (es : List (Dt × Value)), Mod (fun _ => False) w0 W → Dts W vs es → Calls Tryz.prog 3 #[vs, .int .i64 0] W fun e w' => e = .returned (.bool true) ∧ Mod (fun _ => False) W w')
    (H33 : ∀ (W : World), Mod (fun _ => False) w0 W → Calls Tryz.prog 28 #[.int .i64 1] W fun e w' => ∃ a1 c1, e = .returned (.agg #[.int .i64 (onR 2 1 1).q, .int .i64 (onR 2 1 1).r, .int .i64 (onR 2 1 1).n, .int .i64 (onR 2 1 1).s, .int .i64 (onR 2 1 1).t, .int .i64 (onR 2 1 1).m.kind, .int .i64 (onR 2 1 1).m.origin, .int .i64 (onR 2 1 1).m.life, .int .i64 (onR 2 1 1).m.id, .int .i64 (onR 2 1 1).m.part, .int .i64 (onR 2 1 1).m.parts, .int .i64 (onR 2 1 1).m.groups, .bool (onR 2 1 1).m.safe, .int .i64 (onR 2 1 1).m.st, .int .i64 (onR 2 1 1).m.rs, .int .i64 (onR 2 1 1).m.rr, .int .i64 (onR 2 1 1).m.sq, .slice a1 1 c1]) ∧ Own w' (.slice a1 1 c1) [1] ∧ Mod (fun _ => False) W w')
    (H35 : ∀ (W : World) (vs : Value) (es : List (Dt × Value)), Mod (fun _ => False) w0 W → Dts W vs es → Calls Tryz.prog 3 #[vs, .int .i64 4611686018427387904] W fun e w' => e = .returned (.bool true) ∧ Mod (fun _ => False) W w')
    (H38 : ∀ (W : World), Mod (fun _ => False) w0 W → Calls Tryz.prog 3 #[.slice none 0 0, .int .i64 (-1)] W fun e w' => e = .returned (.bool true) ∧ Mod (fun _ => False) W w')
    (H41 : ∀ (W : World), Mod (fun _ => False) w0 W → Calls Tryz.prog 26 #[] W fun e w' => e = .returned (.agg #[.int .i64 2, .int .i64 1]) ∧ Mod (fun _ => False) W w')
    (H45 : ∀ (W : World) (vs : Value) (es : List (Ms × Value)), Mod (fun _ => False) w0 W → Mss W vs es → Calls Tryz.prog 4 #[.slice none 0 0, .agg #[.int .i64 2, .int .i64 1], vs] W fun e w' => e = .returned (.bool true) ∧ Mod (fun _ => False) W w')
    (hend : ∀ (f : Nat → Value) (w : World), Mod (fun _ => False) w0 w → Q .normal (puts aZ [(61, .bool u0), (62, f 62), (63, .bool (u0 && true)), (64, .bool (u0 && true)), (65, f 65), (66, f 66), (67, .bool ((u0 && true) && (e6 == 1))), (68, .bool ((u0 && true) && (e6 == 1))), (69, f 69), (70, f 70), (71, .bool (((u0 && true) && (e6 == 1)) && (e8 == 1))), (72, .bool (((u0 && true) && (e6 == 1)) && (e8 == 1))), (73, f 73), (74, f 74), (75, .bool ((((u0 && true) && (e6 == 1)) && (e8 == 1)) && (!i7))), (76, .bool ((((u0 && true) && (e6 == 1)) && (e8 == 1)) && (!i7))), (77, f 77), (78, f 78), (79, .bool (((((u0 && true) && (e6 == 1)) && (e8 == 1)) && (!i7)) && (ez == 2))), (80, .bool (((((u0 && true) && (e6 == 1)) && (e8 == 1)) && (!i7)) && (ez == 2))), (81, f 81), (82, f 82), (83, .bool ((((((u0 && true) && (e6 == 1)) && (e8 == 1)) && (!i7)) && (ez == 2)) && (!iz))), (84, .bool ((((((u0 && true) && (e6 == 1)) && (e8 == 1)) && (!i7)) && (ez == 2)) && (!iz))), (85, f 85), (86, f 86), (87, f 87), (88, f 88), (89, f 89), (90, f 90), (91, f 91), (92, .bool (((((((u0 && true) && (e6 == 1)) && (e8 == 1)) && (!i7)) && (ez == 2)) && (!iz)) && true)), (93, .bool (((((((u0 && true) && (e6 == 1)) && (e8 == 1)) && (!i7)) && (ez == 2)) && (!iz)) && true)), (94, f 94), (95, f 95), (96, f 96), (97, .bool ((((((((u0 && true) && (e6 == 1)) && (e8 == 1)) && (!i7)) && (ez == 2)) && (!iz)) && true) && true)), (98, .bool ((((((((u0 && true) && (e6 == 1)) && (e8 == 1)) && (!i7)) && (ez == 2)) && (!iz)) && true) && true)), (99, f 99), (100, .bool (((((((((u0 && true) && (e6 == 1)) && (e8 == 1)) && (!i7)) && (ez == 2)) && (!iz)) && true) && true) && true)), (101, .bool (((((((((u0 && true) && (e6 == 1)) && (e8 == 1)) && (!i7)) && (ez == 2)) && (!iz)) && true) && true) && true)), (102, f 102), (103, f 103), (104, f 104), (105, f 105), (106, f 106), (107, .bool ((((((((((u0 && true) && (e6 == 1)) && (e8 == 1)) && (!i7)) && (ez == 2)) && (!iz)) && true) && true) && true) && true)), (0, .bool ((((((((((u0 && true) && (e6 == 1)) && (e8 == 1)) && (!i7)) && (ez == 2)) && (!iz)) && true) && true) && true) && true))]) w) :
    (Code.region id ops true).wp Tryz.prog Q aZ w0 := by
  have s0 : ∀ o, ops[0]? = some o → StepI Tryz.prog ops (p_rrn b3 b4 a3 a4 c3 c4 u0 i7 iz e6 e8 ez) (fun (_ : Array Bool) (_ : Act) (w : World) => Mod (fun _ => False) w0 w) aZ Q 0 o := rrn_s0 b3 b4 a3 a4 c3 c4 u0 i7 iz e6 e8 ez E hu0
  have s1 : ∀ o, ops[1]? = some o → StepI Tryz.prog ops (p_rrn b3 b4 a3 a4 c3 c4 u0 i7 iz e6 e8 ez) (fun (_ : Array Bool) (_ : Act) (w : World) => Mod (fun _ => False) w0 w) aZ Q 1 o := rrn_s1 b3 b4 a3 a4 c3 c4 u0 i7 iz e6 e8 ez E ha0 H1
  have s2 : ∀ o, ops[2]? = some o → StepI Tryz.prog ops (p_rrn b3 b4 a3 a4 c3 c4 u0 i7 iz e6 e8 ez) (fun (_ : Array Bool) (_ : Act) (w : World) => Mod (fun _ => False) w0 w) aZ Q 2 o := rrn_s2 b3 b4 a3 a4 c3 c4 u0 i7 iz e6 e8 ez E
  have s3 : ∀ o, ops[3]? = some o → StepI Tryz.prog ops (p_rrn b3 b4 a3 a4 c3 c4 u0 i7 iz e6 e8 ez) (fun (_ : Array Bool) (_ : Act) (w : World) => Mod (fun _ => False) w0 w) aZ Q 3 o := rrn_s3 b3 b4 a3 a4 c3 c4 u0 i7 iz e6 e8 ez E
  have s4 : ∀ o, ops[4]? = some o → StepI Tryz.prog ops (p_rrn b3 b4 a3 a4 c3 c4 u0 i7 iz e6 e8 ez) (fun (_ : Array Bool) (_ : Act) (w : World) => Mod (fun _ => False) w0 w) aZ Q 4 o := rrn_s4 b3 b4 a3 a4 c3 c4 u0 i7 iz e6 e8 ez E hds ha0 bS6
  have s5 : ∀ o, ops[5]? = some o → StepI Tryz.prog ops (p_rrn b3 b4 a3 a4 c3 c4 u0 i7 iz e6 e8 ez) (fun (_ : Array Bool) (_ : Act) (w : World) => Mod (fun _ => False) w0 w) aZ Q 5 o := rrn_s5 b3 b4 a3 a4 c3 c4 u0 i7 iz e6 e8 ez E ha0
  have s6 : ∀ o, ops[6]? = some o → StepI Tryz.prog ops (p_rrn b3 b4 a3 a4 c3 c4 u0 i7 iz e6 e8 ez) (fun (_ : Array Bool) (_ : Act) (w : World) => Mod (fun _ => False) w0 w) aZ Q 6 o := rrn_s6 b3 b4 a3 a4 c3 c4 u0 i7 iz e6 e8 ez E
  have s7 : ∀ o, ops[7]? = some o → StepI Tryz.prog ops (p_rrn b3 b4 a3 a4 c3 c4 u0 i7 iz e6 e8 ez) (fun (_ : Array Bool) (_ : Act) (w : World) => Mod (fun _ => False) w0 w) aZ Q 7 o := rrn_s7 b3 b4 a3 a4 c3 c4 u0 i7 iz e6 e8 ez E
  have s8 : ∀ o, ops[8]? = some o → StepI Tryz.prog ops (p_rrn b3 b4 a3 a4 c3 c4 u0 i7 iz e6 e8 ez) (fun (_ : Array Bool) (_ : Act) (w : World) => Mod (fun _ => False) w0 w) aZ Q 8 o := rrn_s8 b3 b4 a3 a4 c3 c4 u0 i7 iz e6 e8 ez E hds ha0 bS8
  have s9 : ∀ o, ops[9]? = some o → StepI Tryz.prog ops (p_rrn b3 b4 a3 a4 c3 c4 u0 i7 iz e6 e8 ez) (fun (_ : Array Bool) (_ : Act) (w : World) => Mod (fun _ => False) w0 w) aZ Q 9 o := rrn_s9 b3 b4 a3 a4 c3 c4 u0 i7 iz e6 e8 ez E ha0
  have s10 : ∀ o, ops[10]? = some o → StepI Tryz.prog ops (p_rrn b3 b4 a3 a4 c3 c4 u0 i7 iz e6 e8 ez) (fun (_ : Array Bool) (_ : Act) (w : World) => Mod (fun _ => False) w0 w) aZ Q 10 o := rrn_s10 b3 b4 a3 a4 c3 c4 u0 i7 iz e6 e8 ez E
  have s11 : ∀ o, ops[11]? = some o → StepI Tryz.prog ops (p_rrn b3 b4 a3 a4 c3 c4 u0 i7 iz e6 e8 ez) (fun (_ : Array Bool) (_ : Act) (w : World) => Mod (fun _ => False) w0 w) aZ Q 11 o := rrn_s11 b3 b4 a3 a4 c3 c4 u0 i7 iz e6 e8 ez E
  have s12 : ∀ o, ops[12]? = some o → StepI Tryz.prog ops (p_rrn b3 b4 a3 a4 c3 c4 u0 i7 iz e6 e8 ez) (fun (_ : Array Bool) (_ : Act) (w : World) => Mod (fun _ => False) w0 w) aZ Q 12 o := rrn_s12 b3 b4 a3 a4 c3 c4 u0 i7 iz e6 e8 ez E hds ha0 bS7
  have s13 : ∀ o, ops[13]? = some o → StepI Tryz.prog ops (p_rrn b3 b4 a3 a4 c3 c4 u0 i7 iz e6 e8 ez) (fun (_ : Array Bool) (_ : Act) (w : World) => Mod (fun _ => False) w0 w) aZ Q 13 o := rrn_s13 b3 b4 a3 a4 c3 c4 u0 i7 iz e6 e8 ez E ha0
  have s14 : ∀ o, ops[14]? = some o → StepI Tryz.prog ops (p_rrn b3 b4 a3 a4 c3 c4 u0 i7 iz e6 e8 ez) (fun (_ : Array Bool) (_ : Act) (w : World) => Mod (fun _ => False) w0 w) aZ Q 14 o := rrn_s14 b3 b4 a3 a4 c3 c4 u0 i7 iz e6 e8 ez E
  have s15 : ∀ o, ops[15]? = some o → StepI Tryz.prog ops (p_rrn b3 b4 a3 a4 c3 c4 u0 i7 iz e6 e8 ez) (fun (_ : Array Bool) (_ : Act) (w : World) => Mod (fun _ => False) w0 w) aZ Q 15 o := rrn_s15 b3 b4 a3 a4 c3 c4 u0 i7 iz e6 e8 ez E
  have s16 : ∀ o, ops[16]? = some o → StepI Tryz.prog ops (p_rrn b3 b4 a3 a4 c3 c4 u0 i7 iz e6 e8 ez) (fun (_ : Array Bool) (_ : Act) (w : World) => Mod (fun _ => False) w0 w) aZ Q 16 o := rrn_s16 b3 b4 a3 a4 c3 c4 u0 i7 iz e6 e8 ez E hds ha0 bS11
  have s17 : ∀ o, ops[17]? = some o → StepI Tryz.prog ops (p_rrn b3 b4 a3 a4 c3 c4 u0 i7 iz e6 e8 ez) (fun (_ : Array Bool) (_ : Act) (w : World) => Mod (fun _ => False) w0 w) aZ Q 17 o := rrn_s17 b3 b4 a3 a4 c3 c4 u0 i7 iz e6 e8 ez E ha0
  have s18 : ∀ o, ops[18]? = some o → StepI Tryz.prog ops (p_rrn b3 b4 a3 a4 c3 c4 u0 i7 iz e6 e8 ez) (fun (_ : Array Bool) (_ : Act) (w : World) => Mod (fun _ => False) w0 w) aZ Q 18 o := rrn_s18 b3 b4 a3 a4 c3 c4 u0 i7 iz e6 e8 ez E
  have s19 : ∀ o, ops[19]? = some o → StepI Tryz.prog ops (p_rrn b3 b4 a3 a4 c3 c4 u0 i7 iz e6 e8 ez) (fun (_ : Array Bool) (_ : Act) (w : World) => Mod (fun _ => False) w0 w) aZ Q 19 o := rrn_s19 b3 b4 a3 a4 c3 c4 u0 i7 iz e6 e8 ez E
  have s20 : ∀ o, ops[20]? = some o → StepI Tryz.prog ops (p_rrn b3 b4 a3 a4 c3 c4 u0 i7 iz e6 e8 ez) (fun (_ : Array Bool) (_ : Act) (w : World) => Mod (fun _ => False) w0 w) aZ Q 20 o := rrn_s20 b3 b4 a3 a4 c3 c4 u0 i7 iz e6 e8 ez E hds ha0 bS10
  have s21 : ∀ o, ops[21]? = some o → StepI Tryz.prog ops (p_rrn b3 b4 a3 a4 c3 c4 u0 i7 iz e6 e8 ez) (fun (_ : Array Bool) (_ : Act) (w : World) => Mod (fun _ => False) w0 w) aZ Q 21 o := rrn_s21 b3 b4 a3 a4 c3 c4 u0 i7 iz e6 e8 ez E ha0
  have s22 : ∀ o, ops[22]? = some o → StepI Tryz.prog ops (p_rrn b3 b4 a3 a4 c3 c4 u0 i7 iz e6 e8 ez) (fun (_ : Array Bool) (_ : Act) (w : World) => Mod (fun _ => False) w0 w) aZ Q 22 o := rrn_s22 b3 b4 a3 a4 c3 c4 u0 i7 iz e6 e8 ez E
  have s23 : ∀ o, ops[23]? = some o → StepI Tryz.prog ops (p_rrn b3 b4 a3 a4 c3 c4 u0 i7 iz e6 e8 ez) (fun (_ : Array Bool) (_ : Act) (w : World) => Mod (fun _ => False) w0 w) aZ Q 23 o := rrn_s23 b3 b4 a3 a4 c3 c4 u0 i7 iz e6 e8 ez E
  have s24 : ∀ o, ops[24]? = some o → StepI Tryz.prog ops (p_rrn b3 b4 a3 a4 c3 c4 u0 i7 iz e6 e8 ez) (fun (_ : Array Bool) (_ : Act) (w : World) => Mod (fun _ => False) w0 w) aZ Q 24 o := rrn_s24 b3 b4 a3 a4 c3 c4 u0 i7 iz e6 e8 ez E ha0 H24
  have s25 : ∀ o, ops[25]? = some o → StepI Tryz.prog ops (p_rrn b3 b4 a3 a4 c3 c4 u0 i7 iz e6 e8 ez) (fun (_ : Array Bool) (_ : Act) (w : World) => Mod (fun _ => False) w0 w) aZ Q 25 o := rrn_s25 b3 b4 a3 a4 c3 c4 u0 i7 iz e6 e8 ez E hds ha0 bS12 k_b3_0 k_b3_1 k_b3_2 k_b3_3 k_b3_4 k_b3_5 k_b3_6 k_b3_7 k_b3_8 k_b3_9 k_b3_10 k_b3_11 k_b3_12 k_b3_13 k_b3_14 k_b3_15 k_b3_16 k_b3_17
  have s26 : ∀ o, ops[26]? = some o → StepI Tryz.prog ops (p_rrn b3 b4 a3 a4 c3 c4 u0 i7 iz e6 e8 ez) (fun (_ : Array Bool) (_ : Act) (w : World) => Mod (fun _ => False) w0 w) aZ Q 26 o := rrn_s26 b3 b4 a3 a4 c3 c4 u0 i7 iz e6 e8 ez E ha0 H26
  have s27 : ∀ o, ops[27]? = some o → StepI Tryz.prog ops (p_rrn b3 b4 a3 a4 c3 c4 u0 i7 iz e6 e8 ez) (fun (_ : Array Bool) (_ : Act) (w : World) => Mod (fun _ => False) w0 w) aZ Q 27 o := rrn_s27 b3 b4 a3 a4 c3 c4 u0 i7 iz e6 e8 ez E hds ha0 bS13 k_b4_0 k_b4_1 k_b4_2 k_b4_3 k_b4_4 k_b4_5 k_b4_6 k_b4_7 k_b4_8 k_b4_9 k_b4_10 k_b4_11 k_b4_12 k_b4_13 k_b4_14 k_b4_15 k_b4_16 k_b4_17
  have s28 : ∀ o, ops[28]? = some o → StepI Tryz.prog ops (p_rrn b3 b4 a3 a4 c3 c4 u0 i7 iz e6 e8 ez) (fun (_ : Array Bool) (_ : Act) (w : World) => Mod (fun _ => False) w0 w) aZ Q 28 o := rrn_s28 b3 b4 a3 a4 c3 c4 u0 i7 iz e6 e8 ez E ha0 H28
  have s29 : ∀ o, ops[29]? = some o → StepI Tryz.prog ops (p_rrn b3 b4 a3 a4 c3 c4 u0 i7 iz e6 e8 ez) (fun (_ : Array Bool) (_ : Act) (w : World) => Mod (fun _ => False) w0 w) aZ Q 29 o := rrn_s29 b3 b4 a3 a4 c3 c4 u0 i7 iz e6 e8 ez E ha0 hO3 hO4
  have s30 : ∀ o, ops[30]? = some o → StepI Tryz.prog ops (p_rrn b3 b4 a3 a4 c3 c4 u0 i7 iz e6 e8 ez) (fun (_ : Array Bool) (_ : Act) (w : World) => Mod (fun _ => False) w0 w) aZ Q 30 o := rrn_s30 b3 b4 a3 a4 c3 c4 u0 i7 iz e6 e8 ez E ha0 H30
  have s31 : ∀ o, ops[31]? = some o → StepI Tryz.prog ops (p_rrn b3 b4 a3 a4 c3 c4 u0 i7 iz e6 e8 ez) (fun (_ : Array Bool) (_ : Act) (w : World) => Mod (fun _ => False) w0 w) aZ Q 31 o := rrn_s31 b3 b4 a3 a4 c3 c4 u0 i7 iz e6 e8 ez E
  have s32 : ∀ o, ops[32]? = some o → StepI Tryz.prog ops (p_rrn b3 b4 a3 a4 c3 c4 u0 i7 iz e6 e8 ez) (fun (_ : Array Bool) (_ : Act) (w : World) => Mod (fun _ => False) w0 w) aZ Q 32 o := rrn_s32 b3 b4 a3 a4 c3 c4 u0 i7 iz e6 e8 ez E
  have s33 : ∀ o, ops[33]? = some o → StepI Tryz.prog ops (p_rrn b3 b4 a3 a4 c3 c4 u0 i7 iz e6 e8 ez) (fun (_ : Array Bool) (_ : Act) (w : World) => Mod (fun _ => False) w0 w) aZ Q 33 o := rrn_s33 b3 b4 a3 a4 c3 c4 u0 i7 iz e6 e8 ez E ha0 H33
  have s34 : ∀ o, ops[34]? = some o → StepI Tryz.prog ops (p_rrn b3 b4 a3 a4 c3 c4 u0 i7 iz e6 e8 ez) (fun (_ : Array Bool) (_ : Act) (w : World) => Mod (fun _ => False) w0 w) aZ Q 34 o := rrn_s34 b3 b4 a3 a4 c3 c4 u0 i7 iz e6 e8 ez E ha0
  have s35 : ∀ o, ops[35]? = some o → StepI Tryz.prog ops (p_rrn b3 b4 a3 a4 c3 c4 u0 i7 iz e6 e8 ez) (fun (_ : Array Bool) (_ : Act) (w : World) => Mod (fun _ => False) w0 w) aZ Q 35 o := rrn_s35 b3 b4 a3 a4 c3 c4 u0 i7 iz e6 e8 ez E ha0 H35
  have s36 : ∀ o, ops[36]? = some o → StepI Tryz.prog ops (p_rrn b3 b4 a3 a4 c3 c4 u0 i7 iz e6 e8 ez) (fun (_ : Array Bool) (_ : Act) (w : World) => Mod (fun _ => False) w0 w) aZ Q 36 o := rrn_s36 b3 b4 a3 a4 c3 c4 u0 i7 iz e6 e8 ez E
  have s37 : ∀ o, ops[37]? = some o → StepI Tryz.prog ops (p_rrn b3 b4 a3 a4 c3 c4 u0 i7 iz e6 e8 ez) (fun (_ : Array Bool) (_ : Act) (w : World) => Mod (fun _ => False) w0 w) aZ Q 37 o := rrn_s37 b3 b4 a3 a4 c3 c4 u0 i7 iz e6 e8 ez E
  have s38 : ∀ o, ops[38]? = some o → StepI Tryz.prog ops (p_rrn b3 b4 a3 a4 c3 c4 u0 i7 iz e6 e8 ez) (fun (_ : Array Bool) (_ : Act) (w : World) => Mod (fun _ => False) w0 w) aZ Q 38 o := rrn_s38 b3 b4 a3 a4 c3 c4 u0 i7 iz e6 e8 ez E ha0 H38
  have s39 : ∀ o, ops[39]? = some o → StepI Tryz.prog ops (p_rrn b3 b4 a3 a4 c3 c4 u0 i7 iz e6 e8 ez) (fun (_ : Array Bool) (_ : Act) (w : World) => Mod (fun _ => False) w0 w) aZ Q 39 o := rrn_s39 b3 b4 a3 a4 c3 c4 u0 i7 iz e6 e8 ez E
  have s40 : ∀ o, ops[40]? = some o → StepI Tryz.prog ops (p_rrn b3 b4 a3 a4 c3 c4 u0 i7 iz e6 e8 ez) (fun (_ : Array Bool) (_ : Act) (w : World) => Mod (fun _ => False) w0 w) aZ Q 40 o := rrn_s40 b3 b4 a3 a4 c3 c4 u0 i7 iz e6 e8 ez E
  have s41 : ∀ o, ops[41]? = some o → StepI Tryz.prog ops (p_rrn b3 b4 a3 a4 c3 c4 u0 i7 iz e6 e8 ez) (fun (_ : Array Bool) (_ : Act) (w : World) => Mod (fun _ => False) w0 w) aZ Q 41 o := rrn_s41 b3 b4 a3 a4 c3 c4 u0 i7 iz e6 e8 ez E ha0 H41
  have s42 : ∀ o, ops[42]? = some o → StepI Tryz.prog ops (p_rrn b3 b4 a3 a4 c3 c4 u0 i7 iz e6 e8 ez) (fun (_ : Array Bool) (_ : Act) (w : World) => Mod (fun _ => False) w0 w) aZ Q 42 o := rrn_s42 b3 b4 a3 a4 c3 c4 u0 i7 iz e6 e8 ez E ha0
  have s43 : ∀ o, ops[43]? = some o → StepI Tryz.prog ops (p_rrn b3 b4 a3 a4 c3 c4 u0 i7 iz e6 e8 ez) (fun (_ : Array Bool) (_ : Act) (w : World) => Mod (fun _ => False) w0 w) aZ Q 43 o := rrn_s43 b3 b4 a3 a4 c3 c4 u0 i7 iz e6 e8 ez E ha0
  have s44 : ∀ o, ops[44]? = some o → StepI Tryz.prog ops (p_rrn b3 b4 a3 a4 c3 c4 u0 i7 iz e6 e8 ez) (fun (_ : Array Bool) (_ : Act) (w : World) => Mod (fun _ => False) w0 w) aZ Q 44 o := rrn_s44 b3 b4 a3 a4 c3 c4 u0 i7 iz e6 e8 ez E ha0
  have s45 : ∀ o, ops[45]? = some o → StepI Tryz.prog ops (p_rrn b3 b4 a3 a4 c3 c4 u0 i7 iz e6 e8 ez) (fun (_ : Array Bool) (_ : Act) (w : World) => Mod (fun _ => False) w0 w) aZ Q 45 o := rrn_s45 b3 b4 a3 a4 c3 c4 u0 i7 iz e6 e8 ez E ha0 H45
  have s46 : ∀ o, ops[46]? = some o → StepI Tryz.prog ops (p_rrn b3 b4 a3 a4 c3 c4 u0 i7 iz e6 e8 ez) (fun (_ : Array Bool) (_ : Act) (w : World) => Mod (fun _ => False) w0 w) aZ Q 46 o := rrn_s46 b3 b4 a3 a4 c3 c4 u0 i7 iz e6 e8 ez E
  have s47 : ∀ o, ops[47]? = some o → StepI Tryz.prog ops (p_rrn b3 b4 a3 a4 c3 c4 u0 i7 iz e6 e8 ez) (fun (_ : Array Bool) (_ : Act) (w : World) => Mod (fun _ => False) w0 w) aZ Q 47 o := rrn_s47 b3 b4 a3 a4 c3 c4 u0 i7 iz e6 e8 ez E
  refine region_freeI (Post := (p_rrn b3 b4 a3 a4 c3 c4 u0 i7 iz e6 e8 ez)) (Inv := (fun (_ : Array Bool) (_ : Act) (w : World) => Mod (fun _ => False) w0 w)) mixed (low_of hlow) (fun i o ho => by rw [ha0]; exact dst_of (by rw [hds]; decide) i o ho) (inj_of hnd) (Mod.refl _ _).drew ?_ ?_
  · intro i o ho
    have hi : i < 48 := by
      rw [← hN]
      rcases Nat.lt_or_ge i ops.size with h | h
      · exact h
      · rw [Array.getElem?_eq_none h] at ho; cases ho
    clear hend
    by_cases e0 : i = 0
    · subst e0; exact s0 o ho
    by_cases e1 : i = 1
    · subst e1; exact s1 o ho
    by_cases e2 : i = 2
    · subst e2; exact s2 o ho
    by_cases e3 : i = 3
    · subst e3; exact s3 o ho
    by_cases e4 : i = 4
    · subst e4; exact s4 o ho
    by_cases e5 : i = 5
    · subst e5; exact s5 o ho
    by_cases e6 : i = 6
    · subst e6; exact s6 o ho
    by_cases e7 : i = 7
    · subst e7; exact s7 o ho
    by_cases e8 : i = 8
    · subst e8; exact s8 o ho
    by_cases e9 : i = 9
    · subst e9; exact s9 o ho
    by_cases e10 : i = 10
    · subst e10; exact s10 o ho
    by_cases e11 : i = 11
    · subst e11; exact s11 o ho
    by_cases e12 : i = 12
    · subst e12; exact s12 o ho
    by_cases e13 : i = 13
    · subst e13; exact s13 o ho
    by_cases e14 : i = 14
    · subst e14; exact s14 o ho
    by_cases e15 : i = 15
    · subst e15; exact s15 o ho
    by_cases e16 : i = 16
    · subst e16; exact s16 o ho
    by_cases e17 : i = 17
    · subst e17; exact s17 o ho
    by_cases e18 : i = 18
    · subst e18; exact s18 o ho
    by_cases e19 : i = 19
    · subst e19; exact s19 o ho
    by_cases e20 : i = 20
    · subst e20; exact s20 o ho
    by_cases e21 : i = 21
    · subst e21; exact s21 o ho
    by_cases e22 : i = 22
    · subst e22; exact s22 o ho
    by_cases e23 : i = 23
    · subst e23; exact s23 o ho
    by_cases e24 : i = 24
    · subst e24; exact s24 o ho
    by_cases e25 : i = 25
    · subst e25; exact s25 o ho
    by_cases e26 : i = 26
    · subst e26; exact s26 o ho
    by_cases e27 : i = 27
    · subst e27; exact s27 o ho
    by_cases e28 : i = 28
    · subst e28; exact s28 o ho
    by_cases e29 : i = 29
    · subst e29; exact s29 o ho
    by_cases e30 : i = 30
    · subst e30; exact s30 o ho
    by_cases e31 : i = 31
    · subst e31; exact s31 o ho
    by_cases e32 : i = 32
    · subst e32; exact s32 o ho
    by_cases e33 : i = 33
    · subst e33; exact s33 o ho
    by_cases e34 : i = 34
    · subst e34; exact s34 o ho
    by_cases e35 : i = 35
    · subst e35; exact s35 o ho
    by_cases e36 : i = 36
    · subst e36; exact s36 o ho
    by_cases e37 : i = 37
    · subst e37; exact s37 o ho
    by_cases e38 : i = 38
    · subst e38; exact s38 o ho
    by_cases e39 : i = 39
    · subst e39; exact s39 o ho
    by_cases e40 : i = 40
    · subst e40; exact s40 o ho
    by_cases e41 : i = 41
    · subst e41; exact s41 o ho
    by_cases e42 : i = 42
    · subst e42; exact s42 o ho
    by_cases e43 : i = 43
    · subst e43; exact s43 o ho
    by_cases e44 : i = 44
    · subst e44; exact s44 o ho
    by_cases e45 : i = 45
    · subst e45; exact s45 o ho
    by_cases e46 : i = 46
    · subst e46; exact s46 o ho
    by_cases e47 : i = 47
    · subst e47; exact s47 o ho
    omega
  · intro y w listed hsz hdf hls hall hinv hPO hRE
    have e : y = puts aZ [(61, .bool u0), (62, y.tmps.getD 62 undef), (63, .bool (u0 && true)), (64, .bool (u0 && true)), (65, y.tmps.getD 65 undef), (66, y.tmps.getD 66 undef), (67, .bool ((u0 && true) && (e6 == 1))), (68, .bool ((u0 && true) && (e6 == 1))), (69, y.tmps.getD 69 undef), (70, y.tmps.getD 70 undef), (71, .bool (((u0 && true) && (e6 == 1)) && (e8 == 1))), (72, .bool (((u0 && true) && (e6 == 1)) && (e8 == 1))), (73, y.tmps.getD 73 undef), (74, y.tmps.getD 74 undef), (75, .bool ((((u0 && true) && (e6 == 1)) && (e8 == 1)) && (!i7))), (76, .bool ((((u0 && true) && (e6 == 1)) && (e8 == 1)) && (!i7))), (77, y.tmps.getD 77 undef), (78, y.tmps.getD 78 undef), (79, .bool (((((u0 && true) && (e6 == 1)) && (e8 == 1)) && (!i7)) && (ez == 2))), (80, .bool (((((u0 && true) && (e6 == 1)) && (e8 == 1)) && (!i7)) && (ez == 2))), (81, y.tmps.getD 81 undef), (82, y.tmps.getD 82 undef), (83, .bool ((((((u0 && true) && (e6 == 1)) && (e8 == 1)) && (!i7)) && (ez == 2)) && (!iz))), (84, .bool ((((((u0 && true) && (e6 == 1)) && (e8 == 1)) && (!i7)) && (ez == 2)) && (!iz))), (85, y.tmps.getD 85 undef), (86, y.tmps.getD 86 undef), (87, y.tmps.getD 87 undef), (88, y.tmps.getD 88 undef), (89, y.tmps.getD 89 undef), (90, y.tmps.getD 90 undef), (91, y.tmps.getD 91 undef), (92, .bool (((((((u0 && true) && (e6 == 1)) && (e8 == 1)) && (!i7)) && (ez == 2)) && (!iz)) && true)), (93, .bool (((((((u0 && true) && (e6 == 1)) && (e8 == 1)) && (!i7)) && (ez == 2)) && (!iz)) && true)), (94, y.tmps.getD 94 undef), (95, y.tmps.getD 95 undef), (96, y.tmps.getD 96 undef), (97, .bool ((((((((u0 && true) && (e6 == 1)) && (e8 == 1)) && (!i7)) && (ez == 2)) && (!iz)) && true) && true)), (98, .bool ((((((((u0 && true) && (e6 == 1)) && (e8 == 1)) && (!i7)) && (ez == 2)) && (!iz)) && true) && true)), (99, y.tmps.getD 99 undef), (100, .bool (((((((((u0 && true) && (e6 == 1)) && (e8 == 1)) && (!i7)) && (ez == 2)) && (!iz)) && true) && true) && true)), (101, .bool (((((((((u0 && true) && (e6 == 1)) && (e8 == 1)) && (!i7)) && (ez == 2)) && (!iz)) && true) && true) && true)), (102, y.tmps.getD 102 undef), (103, y.tmps.getD 103 undef), (104, y.tmps.getD 104 undef), (105, y.tmps.getD 105 undef), (106, y.tmps.getD 106 undef), (107, .bool ((((((((((u0 && true) && (e6 == 1)) && (e8 == 1)) && (!i7)) && (ez == 2)) && (!iz)) && true) && true) && true) && true)), (0, .bool ((((((((((u0 && true) && (e6 == 1)) && (e8 == 1)) && (!i7)) && (ez == 2)) && (!iz)) && true) && true) && true) && true))] := by
      refine eq_puts hsz hdf (nodup_of (D := [some 61, some 62, some 63, some 64, some 65, some 66, some 67, some 68, some 69, some 70, some 71, some 72, some 73, some 74, some 75, some 76, some 77, some 78, some 79, some 80, some 81, some 82, some 83, some 84, some 85, some 86, some 87, some 88, some 89, some 90, some 91, some 92, some 93, some 94, some 95, some 96, some 97, some 98, some 99, some 100, some 101, some 102, some 103, some 104, some 105, some 106, some 107, some 0]) rfl (by decide)) (by rw [ha0]; simp) ?_ ?_
      · intro q hq
        simp only [List.mem_cons, List.not_mem_nil, or_false] at hq
        rcases hq with rfl | rfl | rfl | rfl | rfl | rfl | rfl | rfl | rfl | rfl | rfl | rfl | rfl | rfl | rfl | rfl | rfl | rfl | rfl | rfl | rfl | rfl | rfl | rfl | rfl | rfl | rfl | rfl | rfl | rfl | rfl | rfl | rfl | rfl | rfl | rfl | rfl | rfl | rfl | rfl | rfl | rfl | rfl | rfl | rfl | rfl | rfl | rfl
        · obtain ⟨o, h1, h2, _⟩ := E.e0.ex
          exact hPO 0 o _ h1 h2
        · rfl
        · obtain ⟨o, h1, h2, _⟩ := E.e2.ex
          exact hPO 2 o _ h1 h2
        · obtain ⟨o, h1, h2, _⟩ := E.e3.ex
          exact hPO 3 o _ h1 h2
        · rfl
        · rfl
        · obtain ⟨o, h1, h2, _⟩ := E.e6.ex
          exact hPO 6 o _ h1 h2
        · obtain ⟨o, h1, h2, _⟩ := E.e7.ex
          exact hPO 7 o _ h1 h2
        · rfl
        · rfl
        · obtain ⟨o, h1, h2, _⟩ := E.e10.ex
          exact hPO 10 o _ h1 h2
        · obtain ⟨o, h1, h2, _⟩ := E.e11.ex
          exact hPO 11 o _ h1 h2
        · rfl
        · rfl
        · obtain ⟨o, h1, h2, _⟩ := E.e14.ex
          exact hPO 14 o _ h1 h2
        · obtain ⟨o, h1, h2, _⟩ := E.e15.ex
          exact hPO 15 o _ h1 h2
        · rfl
        · rfl
        · obtain ⟨o, h1, h2, _⟩ := E.e18.ex
          exact hPO 18 o _ h1 h2
        · obtain ⟨o, h1, h2, _⟩ := E.e19.ex
          exact hPO 19 o _ h1 h2
        · rfl
        · rfl
        · obtain ⟨o, h1, h2, _⟩ := E.e22.ex
          exact hPO 22 o _ h1 h2
        · obtain ⟨o, h1, h2, _⟩ := E.e23.ex
          exact hPO 23 o _ h1 h2
        · rfl
        · rfl
        · rfl
        · rfl
        · rfl
        · rfl
        · rfl
        · obtain ⟨o, h1, h2, _⟩ := E.e31.ex
          exact hPO 31 o _ h1 h2
        · obtain ⟨o, h1, h2, _⟩ := E.e32.ex
          exact hPO 32 o _ h1 h2
        · rfl
        · rfl
        · rfl
        · obtain ⟨o, h1, h2, _⟩ := E.e36.ex
          exact hPO 36 o _ h1 h2
        · obtain ⟨o, h1, h2, _⟩ := E.e37.ex
          exact hPO 37 o _ h1 h2
        · rfl
        · obtain ⟨o, h1, h2, _⟩ := E.e39.ex
          exact hPO 39 o _ h1 h2
        · obtain ⟨o, h1, h2, _⟩ := E.e40.ex
          exact hPO 40 o _ h1 h2
        · rfl
        · rfl
        · rfl
        · rfl
        · rfl
        · obtain ⟨o, h1, h2, _⟩ := E.e46.ex
          exact hPO 46 o _ h1 h2
        · obtain ⟨o, h1, h2, _⟩ := E.e47.ex
          exact hPO 47 o _ h1 h2
      · intro t ht
        exact hRE t (not_of (by rw [hds]; exact not_cont rfl ht))
    rw [e]
    exact hend (fun d => y.tmps.getD d undef) w hinv
end Go.Proofs.YthiijonmnebjgaaGreat
namespace Go.Proofs.YthiijonmnebjgaaGreat
open Go.RowKit
/-- A window that is none, whatever is laid behind it. -/
def Nw (w : World) (q : Option Addr) : Prop := ∀ W, Mod (fun _ => False) w W → Calls Tryz.prog 37 #[.pointer q] W fun e w' => e = .returned (.bool true) ∧ w' = W
theorem Nw.nil (w : World) : Nw w none := fun W _ => isNone_nil W
theorem Nw.keep {w w' : World} {q : Option Addr} (h : Nw w q) (hm : Mod (fun _ => False) w w') : Nw w' q := fun W hW => h W (hm.and hW)
theorem See_none {w : World} {q : Option Addr} (h : Nw w q) (k : Int) : Calls Tryz.prog 48 #[.pointer q, .int .i64 k] w fun e w' => e = .returned (.int .i64 1) ∧ w' = w := by
  have HN := h w (Mod.refl _ w)
  clear h
  go_enter Tryz.func48, Tryz.ntmps48
  go_wp2_with (go_at_call 37; refine HN.mono ?_; rintro e w' ⟨rfl, rfl⟩)
  go_ret
  exact ⟨rfl, rfl⟩
theorem rNone_nil (w : World) : Calls Tryz.prog 36 #[.pointer none] w fun e w' => e = .returned (.bool true) ∧ w' = w := by
  go_enter Tryz.func36, Tryz.ntmps36
  go_wp2
  go_ret
  exact ⟨rfl, rfl⟩
theorem rNone_zero {w : World} {q : Nat} (h : w.cell? ⟨q, 0, none⟩ = some (.bool false)) : Calls Tryz.prog 36 #[.pointer (some ⟨q, 0, none⟩)] w fun e w' => e = .returned (.bool true) ∧ w' = w := by
  go_enter Tryz.func36, Tryz.ntmps36
  go_wp2
  go_ret
  exact ⟨rfl, rfl⟩
/-- A Regain that is none. -/
def Nr (w : World) (q : Option Addr) : Prop := ∀ W, Mod (fun _ => False) w W → Calls Tryz.prog 36 #[.pointer q] W fun e w' => e = .returned (.bool true) ∧ w' = W
theorem Nr.keep {w w' : World} {q : Option Addr} (h : Nr w q) (hm : Mod (fun _ => False) w w') : Nr w' q := fun W hW => h W (hm.and hW)
theorem Next_none {w : World} {q : Option Addr} (h : Nr w q) : Calls Tryz.prog 12 #[.pointer q] w fun e w' => e = .returned (.tuple #[mvl m0 (.slice none 0 0), .int .i64 1]) ∧ Mod (fun _ => False) w w' := by
  have hA := (Mod.refl (fun _ => False) w).alloc (.cells #[.int .i64 0, .int .i64 0, .int .i64 0, .int .i64 0, .int .i64 0, .int .i64 0, .int .i64 0, .bool false, .int .i64 0, .int .i64 0, .int .i64 0, .int .i64 0, .slice none 0 0] 43)
  have hB := Bk.new w #[.int .i64 0, .int .i64 0, .int .i64 0, .int .i64 0, .int .i64 0, .int .i64 0, .int .i64 0, .bool false, .int .i64 0, .int .i64 0, .int .i64 0, .int .i64 0, .slice none 0 0] 43
  have HN := h _ hA
  have HA : Hid (Mod _ _ _) := hA
  clear hA h
  go_enter Tryz.func12, Tryz.ntmps12
  go_wp2_with (first | (go_at_call 36; refine HN.mono ?_; rintro e w' ⟨rfl, rfl⟩) | (refine wpList_store_row infoM rfl rfl _ _ rfl w.heap.size #[.int .i64 0, .int .i64 0, .int .i64 0, .int .i64 0, .int .i64 0, .int .i64 0, .int .i64 0, .bool false, .int .i64 0, .int .i64 0, .int .i64 0, .int .i64 0, .slice none 0 0] rfl rfl hB rfl rfl rfl ?_; intro wF hBF hMF))
  refine bodyPost_ret (resT2 infoM Tryz.underlying43 rfl rfl rfl rfl hBF rfl) rfl ?_
  exact ⟨rfl, HA.out.trans hMF (V := fun _ => False) (fun _ _ h => h) (fun i hi h => by omega)⟩
theorem Left_none {w : World} {q : Option Addr} (h : Nr w q) : Calls Tryz.prog 9 #[.pointer q] w fun e w' => e = .returned (.int .i64 0) ∧ w' = w := by
  have HN := h _ (Mod.refl _ _)
  clear h
  go_enter Tryz.func9, Tryz.ntmps9
  go_wp2_with (go_at_call 36; refine HN.mono ?_; rintro e w' ⟨rfl, rfl⟩)
  go_ret
  exact ⟨rfl, rfl⟩
theorem noWin_nil (w : World) : Calls Tryz.prog 31 #[.pointer none] w fun e w' => e = .returned (.bool true) ∧ w' = w := by
  have HS := See_none (Nw.nil w) (-1)
  go_enter Tryz.func31, Tryz.ntmps31
  go_wp2_with (fail)
  refine HS.mono ?_
  rintro e w' ⟨rfl, rfl⟩
  go_wp2
  go_ret
  exact ⟨rfl, rfl⟩
theorem New_nil (low : Int) (w : World) : Calls Tryz.prog 7 #[.pointer none, .int .i64 low] w fun e w' => e = .returned (.tuple #[.pointer none, .int .i64 1]) ∧ w' = w := by
  have HN := noWin_nil w
  go_enter Tryz.func7, Tryz.ntmps7
  go_wp2_with (go_at_call 31; refine HN.mono ?_; rintro e w' ⟨rfl, rfl⟩)
  go_ret2
  exact ⟨rfl, rfl⟩
theorem Take_nil (oq oR : Int) (m : Ms) (v : Value) (w : World) (hs : Sl w v m.body) : Calls Tryz.prog 17 #[.pointer none, .agg #[.int .i64 oq, .int .i64 oR], mvl m v] w fun e w' => e = .returned (.tuple #[.bool false, .int .i64 1]) ∧ Mod (fun _ => False) w w' := by
  obtain ⟨ao, cap, rfl⟩ := hs.shape
  have HM : Hid (Mod (fun _ => False) w ((w.alloc (.cells #[.int .i64 oq, .int .i64 oR] 38)).alloc (.cells #[.int .i64 m.kind, .int .i64 m.origin, .int .i64 m.life, .int .i64 m.id, .int .i64 m.part, .int .i64 m.parts, .int .i64 m.groups, .bool m.safe, .int .i64 m.st, .int .i64 m.rs, .int .i64 m.rr, .int .i64 m.sq, .slice ao m.body.length cap] 43))) := ((Mod.refl (fun _ => False) w).alloc _).alloc _
  unfold mvl
  clear hs
  go_enter Tryz.func17, Tryz.ntmps17
  go_wp2_with (go_at_call 31; refine (noWin_nil _).mono ?_; rintro e w' ⟨rfl, rfl⟩)
  go_ret2
  exact ⟨rfl, HM.out⟩
def mwant : Ms := ⟨3, 1, 0, 0, 0, 0, 0, false, 0, 0, 0, 0, []⟩
set_option maxRecDepth 100000 in
set_option maxHeartbeats 20000000 in
theorem names_walk (w : World) : Calls Tryz.prog 5 #[] w fun e w' => e = .returned (.bool true) ∧ Mod (fun _ => False) w w' := by
  go_enter Tryz.func5, Tryz.ntmps5
  go_wp2_with (fail)
  go_loopw [1, 2] (fun r i wr => ∃ (k : Nat) (qa : Option Addr), i = .int .i64 (k : Int) ∧ k ≤ 2 ∧ r = .pointer qa ∧ Hid (Nr wr qa) ∧ Hid (Mod (fun _ => False) w wr)) (fun _ i _ => 2 - (intOf i).toNat)
  case atStart => exact ⟨0, none, rfl, by omega, rfl, fun W _ => rNone_nil W, Mod.refl _ _⟩
  case round =>
    obtain ⟨k, qa, rfl, hk, rfl, HNR, HM⟩ := hrel
    by_cases hk2 : k < 2
    · have hk2' : (k : Int) < 2 := by omega
      have hk0 : (0 : Int) ≤ (k : Int) := by omega
      have HK2 : Hid (k < 2) := hk2
      have HN := Next_none HNR.out
      unfold mvl m0 at HN
      go_wp2_with (fail)
      refine HN.mono ?_
      rintro e w1 ⟨rfl, hm1⟩
      have HN1 : Hid (Nr w1 qa) := HNR.out.keep hm1
      have HM1 : Hid (Mod (fun _ => False) w w1) := HM.out.and hm1
      clear HN hm1
      go_upto_region 6 with (refine wpList_store_row infoM rfl rfl _ _ rfl w1.heap.size #[.int .i64 0, .int .i64 0, .int .i64 0, .int .i64 0, .int .i64 0, .int .i64 0, .int .i64 0, .bool false, .int .i64 0, .int .i64 0, .int .i64 0, .int .i64 0, .slice none 0 0] rfl rfl (Bk.new w1 _ _) rfl rfl rfl ?_; intro w2 hB2 hm2)
      obtain ⟨xb, exb⟩ : ∃ xb, xb = w1.heap.size := ⟨_, rfl⟩
      rw [← exb] at hB2 ⊢
      have hM12 : Mod (fun _ => False) w1 w2 := ((Mod.refl (fun _ => False) w1).alloc _).trans hm2 (V := fun _ => False) (fun _ _ h => h) (fun i hi e => by omega)
      have x0 : w2.cell? ⟨xb, 0, none⟩ = some (.int .i64 0) := hB2.cellv (j := 0) rfl
      have HL := Left_none (HN1.out.keep hM12)
      have HREL : Hid (Nr (w2.alloc (.cells #[.bool false, .slice none 0 0] 60)) (some ⟨w2.heap.size, 0, none⟩) ∧ Mod (fun _ => False) w (w2.alloc (.cells #[.bool false, .slice none 0 0] 60))) := by
        have hB := Bk.new w2 #[.bool false, .slice none 0 0] 60
        exact ⟨fun W hW => rNone_zero ((hB.mod hW (fun h => h)).cellv (j := 0) rfl), (HM1.out.and hM12).alloc _⟩
      clear hB2 hm2 hM12 exb
      go_wp2_with (go_at_call 9; refine HL.mono ?_; rintro e w' ⟨rfl, e1⟩; replace e1 := e1.symm; subst e1)
      go_roundw
      case rel => exact ⟨k + 1, _, by go_num, HK2.out, rfl, HREL.out.1, HREL.out.2⟩
      case measure =>
        have := HK2.out
        simp [intOf]
        omega
    · have hk2' : ¬ (k : Int) < 2 := by omega
      clear hk hk2
      go_wp2_with (go_at_call 7; refine (New_nil 0 _).mono ?_; rintro e w' ⟨rfl, e1⟩; replace e1 := e1.symm; subst e1)
      refine (old_any _).mono ?_
      rintro e w1 ⟨rfl, hm1⟩
      have HT0 := Take_nil 2 1 m0 (.slice none 0 0) w1 ((Own.nil w1).sl (by simp))
      unfold mvl m0 at HT0
      have HM1 : Hid (Mod (fun _ => False) w w1) := HM.out.and hm1
      clear hm1 HNR
      go_wp2_with (fail)
      refine HT0.mono ?_
      rintro e w2 ⟨rfl, hm2⟩
      have HM2 : Hid (Mod (fun _ => False) w w2) := HM1.out.and hm2
      clear HT0 hm2
      go_wp2_with (fail)
      refine (wNew w2).mono ?_
      rintro e w3 ⟨p, X, rfl, hw3, hX3, hm3⟩
      have HW3 : Hid (Wn w3 p X (fun _ => none) 0 0 0 ∧ (∀ i, X i → w2.heap.size ≤ i) ∧ Mod (fun _ => False) w2 w3) := ⟨hw3, hX3, hm3⟩
      clear hw3 hX3 hm3
      go_wp2_with (fail)
      refine (old_any w3).mono ?_
      rintro e w4 ⟨rfl, hm4⟩
      have HT1 := Take_w (HW3.out.1.keep hm4) 2 1 mwant (.slice none 0 0) ((Own.nil w4).sl (by simp)) (by decide)
      rw [show tkB (fun _ => none) mwant 2 1 = false from rfl, show tkE mwant 2 1 = 2 from rfl] at HT1
      unfold mvl mwant at HT1
      have HM4 : Hid (Mod (fun _ => False) w3 w4) := hm4
      clear hm4
      go_wp2_with (fail)
      refine HT1.mono ?_
      rintro e w5 ⟨X5, a5, rfl, -, -, hm5, -⟩
      have HM5 : Hid (Mod (fun _ => False) w w5) := ((HM2.out.and HW3.out.2.2).and HM4.out).trans hm5 (V := fun _ => False) (fun _ _ h => h) (fun i hi h => by have := HW3.out.2.1 i h; have := HM2.out.size; omega)
      clear HT1 hm5
      go_wp2_with (fail)
      refine (one_any 3 _ (by decide)).mono ?_
      rintro e w6 ⟨v3, rfl, ho3, hg3, hm6⟩
      obtain ⟨a3, c3, rfl⟩ := ho3.shape
      simp only [List.length_singleton] at ho3 hg3 ⊢
      unfold dv on20
      have HO6 : Hid (Own w6 (.slice a3 1 c3) [3]) := ho3
      have HM6 : Hid (Mod (fun _ => False) w w6) := HM5.out.and hm6
      clear ho3 hg3 hm6
      go_upto_region 14 with (refine wpList_store_row info18 rfl rfl _ _ rfl w6.heap.size #[.int .i64 (onR 2 1 3).q, .int .i64 (onR 2 1 3).r, .int .i64 (onR 2 1 3).n, .int .i64 (onR 2 1 3).s, .int .i64 (onR 2 1 3).t, .int .i64 (onR 2 1 3).m.kind, .int .i64 (onR 2 1 3).m.origin, .int .i64 (onR 2 1 3).m.life, .int .i64 (onR 2 1 3).m.id, .int .i64 (onR 2 1 3).m.part, .int .i64 (onR 2 1 3).m.parts, .int .i64 (onR 2 1 3).m.groups, .bool (onR 2 1 3).m.safe, .int .i64 (onR 2 1 3).m.st, .int .i64 (onR 2 1 3).m.rs, .int .i64 (onR 2 1 3).m.rr, .int .i64 (onR 2 1 3).m.sq, .slice a3 1 c3] rfl rfl (Bk.new w6 _ _) rfl rfl rfl ?_; intro w7 hB7 hm7)
      obtain ⟨b3, eb3⟩ : ∃ b3, b3 = w6.heap.size := ⟨_, rfl⟩
      rw [← eb3] at hB7 ⊢
      have hM67 : Mod (fun _ => False) w6 w7 := ((Mod.refl (fun _ => False) w6).alloc _).trans hm7 (V := fun _ => False) (fun _ _ h => h) (fun i hi e => by omega)
      have t6 : w7.cell? ⟨b3, 6, none⟩ = some (.int .i64 (onR 2 1 3).m.origin) := hB7.cellv (j := 6) rfl
      have f6 := hB7.frz 6
      have hB8 := hB7.set 6 (.int .i64 0)
      simp only [List.setIfInBounds_toArray, List.set_cons_succ, List.set_cons_zero] at hB8
      have hm8 := (Mod.refl (fun i => i = b3) w7).setCell ⟨b3, 6, none⟩ (.int .i64 0) (.inl rfl)
      have hs6 := HM6.out.size
      have HB8 : Hid (Bk (w7.setCell ⟨b3, 6, none⟩ (.int .i64 0)) b3 45 #[.int .i64 (onR 2 1 3).q, .int .i64 (onR 2 1 3).r, .int .i64 (onR 2 1 3).n, .int .i64 (onR 2 1 3).s, .int .i64 (onR 2 1 3).t, .int .i64 (onR 2 1 3).m.kind, .int .i64 0, .int .i64 (onR 2 1 3).m.life, .int .i64 (onR 2 1 3).m.id, .int .i64 (onR 2 1 3).m.part, .int .i64 (onR 2 1 3).m.parts, .int .i64 (onR 2 1 3).m.groups, .bool (onR 2 1 3).m.safe, .int .i64 (onR 2 1 3).m.st, .int .i64 (onR 2 1 3).m.rs, .int .i64 (onR 2 1 3).m.rr, .int .i64 (onR 2 1 3).m.sq, .slice a3 1 c3]) := hB8
      have HM8 : Hid (Mod (fun _ => False) w (w7.setCell ⟨b3, 6, none⟩ (.int .i64 0))) := (HM6.out.and hM67).trans hm8 (V := fun _ => False) (fun _ _ h => h) (fun i hi e => by omega)
      have HO8 : Hid (Own (w7.setCell ⟨b3, 6, none⟩ (.int .i64 0)) (.slice a3 1 c3) [3]) := (HO6.out.mod hM67 (fun _ _ h => h)).mod hm8 (fun g hg e => hB7.ne_ow (by decide) (HO6.out.mod hM67 (fun _ _ h => h)) (e ▸ hg))
      clear hB7 hm7 hM67 hB8 hm8 hs6 eb3 HO6
      go_upto_region 15 with (fail)
      generalize w7.setCell ⟨b3, 6, none⟩ (.int .i64 0) = w8 at *
      clear t6 f6
      go_wp2_with (fail)
      refine (one_any 4 _ (by decide)).mono ?_
      rintro e w9 ⟨v4, rfl, ho4, hg4, hm9⟩
      obtain ⟨a4, c4, rfl⟩ := ho4.shape
      simp only [List.length_singleton] at ho4 hg4 ⊢
      unfold dv on20
      have HO9 : Hid (Own w9 (.slice a4 1 c4) [4]) := ho4
      have HM9 : Hid (Mod (fun _ => False) w8 w9) := hm9
      clear ho4 hg4 hm9
      go_upto_region 16 with (refine wpList_store_row info18 rfl rfl _ _ rfl w9.heap.size #[.int .i64 (onR 2 1 4).q, .int .i64 (onR 2 1 4).r, .int .i64 (onR 2 1 4).n, .int .i64 (onR 2 1 4).s, .int .i64 (onR 2 1 4).t, .int .i64 (onR 2 1 4).m.kind, .int .i64 (onR 2 1 4).m.origin, .int .i64 (onR 2 1 4).m.life, .int .i64 (onR 2 1 4).m.id, .int .i64 (onR 2 1 4).m.part, .int .i64 (onR 2 1 4).m.parts, .int .i64 (onR 2 1 4).m.groups, .bool (onR 2 1 4).m.safe, .int .i64 (onR 2 1 4).m.st, .int .i64 (onR 2 1 4).m.rs, .int .i64 (onR 2 1 4).m.rr, .int .i64 (onR 2 1 4).m.sq, .slice a4 1 c4] rfl rfl (Bk.new w9 _ _) rfl rfl rfl ?_; intro wa hBa hma)
      obtain ⟨b4, eb4⟩ : ∃ b4, b4 = w9.heap.size := ⟨_, rfl⟩
      rw [← eb4] at hBa ⊢
      have hM9a : Mod (fun _ => False) w9 wa := ((Mod.refl (fun _ => False) w9).alloc _).trans hma (V := fun _ => False) (fun _ _ h => h) (fun i hi e => by omega)
      have t5 : wa.cell? ⟨b4, 5, none⟩ = some (.int .i64 (onR 2 1 4).m.kind) := hBa.cellv (j := 5) rfl
      have f5 := hBa.frz 5
      have hBb := hBa.set 5 (.int .i64 5)
      simp only [List.setIfInBounds_toArray, List.set_cons_succ, List.set_cons_zero] at hBb
      have hmb := (Mod.refl (fun i => i = b4) wa).setCell ⟨b4, 5, none⟩ (.int .i64 5) (.inl rfl)
      have hM8a := HM9.out.and hM9a
      have hs8 := HM9.out.size
      have hs0 := HM8.out.size
      have HB4 : Hid (Bk (wa.setCell ⟨b4, 5, none⟩ (.int .i64 5)) b4 45 #[.int .i64 (onR 2 1 4).q, .int .i64 (onR 2 1 4).r, .int .i64 (onR 2 1 4).n, .int .i64 (onR 2 1 4).s, .int .i64 (onR 2 1 4).t, .int .i64 5, .int .i64 (onR 2 1 4).m.origin, .int .i64 (onR 2 1 4).m.life, .int .i64 (onR 2 1 4).m.id, .int .i64 (onR 2 1 4).m.part, .int .i64 (onR 2 1 4).m.parts, .int .i64 (onR 2 1 4).m.groups, .bool (onR 2 1 4).m.safe, .int .i64 (onR 2 1 4).m.st, .int .i64 (onR 2 1 4).m.rs, .int .i64 (onR 2 1 4).m.rr, .int .i64 (onR 2 1 4).m.sq, .slice a4 1 c4]) := hBb
      have HB3 : Hid (Bk (wa.setCell ⟨b4, 5, none⟩ (.int .i64 5)) b3 45 #[.int .i64 (onR 2 1 3).q, .int .i64 (onR 2 1 3).r, .int .i64 (onR 2 1 3).n, .int .i64 (onR 2 1 3).s, .int .i64 (onR 2 1 3).t, .int .i64 (onR 2 1 3).m.kind, .int .i64 0, .int .i64 (onR 2 1 3).m.life, .int .i64 (onR 2 1 3).m.id, .int .i64 (onR 2 1 3).m.part, .int .i64 (onR 2 1 3).m.parts, .int .i64 (onR 2 1 3).m.groups, .bool (onR 2 1 3).m.safe, .int .i64 (onR 2 1 3).m.st, .int .i64 (onR 2 1 3).m.rs, .int .i64 (onR 2 1 3).m.rr, .int .i64 (onR 2 1 3).m.sq, .slice a3 1 c3]) := (HB8.out.mod hM8a (fun h => h)).mod hmb (fun e => by have := HB8.out.lt; omega)
      have HMB : Hid (Mod (fun _ => False) w (wa.setCell ⟨b4, 5, none⟩ (.int .i64 5))) := (HM8.out.and hM8a).trans hmb (V := fun _ => False) (fun _ _ h => h) (fun i hi e => by omega)
      have hne : ∀ u lb, Own wa u lb → Own (wa.setCell ⟨b4, 5, none⟩ (.int .i64 5)) u lb := fun u lb hu => hu.mod hmb (fun g hg e => hBa.ne_ow (by decide) hu (e ▸ hg))
      have HO3 : Hid (Own (wa.setCell ⟨b4, 5, none⟩ (.int .i64 5)) (.slice a3 1 c3) [3]) := hne _ _ (HO8.out.mod hM8a (fun _ _ h => h))
      have HO4 : Hid (Own (wa.setCell ⟨b4, 5, none⟩ (.int .i64 5)) (.slice a4 1 c4) [4]) := hne _ _ (HO9.out.mod hM9a (fun _ _ h => h))
      clear hBa hma hM9a hBb hmb hM8a hs8 hs0 hne eb4 HO8 HO9 HB8 HM9
      go_upto_region 17 with (fail)
      generalize wa.setCell ⟨b4, 5, none⟩ (.int .i64 5) = wb at *
      clear t5 f5
      refine rrn b3 b4 a3 a4 c3 c4 true false false 1 1 2 ⟨⟨⟨_, rfl, rfl, rfl, rfl, by decide +kernel⟩⟩, ⟨⟨_, rfl, rfl, rfl, rfl, by decide +kernel⟩⟩, ⟨⟨_, rfl, rfl, rfl, rfl, by decide +kernel⟩⟩, ⟨⟨_, rfl, rfl, rfl, rfl, by decide +kernel⟩⟩, ⟨⟨_, rfl, rfl, rfl, rfl, by decide +kernel⟩⟩, ⟨⟨_, rfl, rfl, rfl, rfl, by decide +kernel⟩⟩, ⟨⟨_, rfl, rfl, rfl, rfl, by decide +kernel⟩⟩, ⟨⟨_, rfl, rfl, rfl, rfl, by decide +kernel⟩⟩, ⟨⟨_, rfl, rfl, rfl, rfl, by decide +kernel⟩⟩, ⟨⟨_, rfl, rfl, rfl, rfl, by decide +kernel⟩⟩, ⟨⟨_, rfl, rfl, rfl, rfl, by decide +kernel⟩⟩, ⟨⟨_, rfl, rfl, rfl, rfl, by decide +kernel⟩⟩, ⟨⟨_, rfl, rfl, rfl, rfl, by decide +kernel⟩⟩, ⟨⟨_, rfl, rfl, rfl, rfl, by decide +kernel⟩⟩, ⟨⟨_, rfl, rfl, rfl, rfl, by decide +kernel⟩⟩, ⟨⟨_, rfl, rfl, rfl, rfl, by decide +kernel⟩⟩, ⟨⟨_, rfl, rfl, rfl, rfl, by decide +kernel⟩⟩, ⟨⟨_, rfl, rfl, rfl, rfl, by decide +kernel⟩⟩, ⟨⟨_, rfl, rfl, rfl, rfl, by decide +kernel⟩⟩, ⟨⟨_, rfl, rfl, rfl, rfl, by decide +kernel⟩⟩, ⟨⟨_, rfl, rfl, rfl, rfl, by decide +kernel⟩⟩, ⟨⟨_, rfl, rfl, rfl, rfl, by decide +kernel⟩⟩, ⟨⟨_, rfl, rfl, rfl, rfl, by decide +kernel⟩⟩, ⟨⟨_, rfl, rfl, rfl, rfl, by decide +kernel⟩⟩, ⟨⟨_, rfl, rfl, rfl, rfl, by decide +kernel⟩⟩, ⟨⟨_, rfl, rfl, rfl, rfl, by decide +kernel⟩⟩, ⟨⟨_, rfl, rfl, rfl, rfl, by decide +kernel⟩⟩, ⟨⟨_, rfl, rfl, rfl, rfl, by decide +kernel⟩⟩, ⟨⟨_, rfl, rfl, rfl, rfl, by decide +kernel⟩⟩, ⟨⟨_, rfl, rfl, rfl, rfl, by decide +kernel⟩⟩, ⟨⟨_, rfl, rfl, rfl, rfl, by decide +kernel⟩⟩, ⟨⟨_, rfl, rfl, rfl, rfl, by decide +kernel⟩⟩, ⟨⟨_, rfl, rfl, rfl, rfl, by decide +kernel⟩⟩, ⟨⟨_, rfl, rfl, rfl, rfl, by decide +kernel⟩⟩, ⟨⟨_, rfl, rfl, rfl, rfl, by decide +kernel⟩⟩, ⟨⟨_, rfl, rfl, rfl, rfl, by decide +kernel⟩⟩, ⟨⟨_, rfl, rfl, rfl, rfl, by decide +kernel⟩⟩, ⟨⟨_, rfl, rfl, rfl, rfl, by decide +kernel⟩⟩, ⟨⟨_, rfl, rfl, rfl, rfl, by decide +kernel⟩⟩, ⟨⟨_, rfl, rfl, rfl, rfl, by decide +kernel⟩⟩, ⟨⟨_, rfl, rfl, rfl, rfl, by decide +kernel⟩⟩, ⟨⟨_, rfl, rfl, rfl, rfl, by decide +kernel⟩⟩, ⟨⟨_, rfl, rfl, rfl, rfl, by decide +kernel⟩⟩, ⟨⟨_, rfl, rfl, rfl, rfl, by decide +kernel⟩⟩, ⟨⟨_, rfl, rfl, rfl, rfl, by decide +kernel⟩⟩, ⟨⟨_, rfl, rfl, rfl, rfl, by decide +kernel⟩⟩, ⟨⟨_, rfl, rfl, rfl, rfl, by decide +kernel⟩⟩, ⟨⟨_, rfl, rfl, rfl, rfl, by decide +kernel⟩⟩⟩ rfl (by decide +kernel) rfl (by decide +kernel) rfl rfl rfl rfl rfl rfl rfl rfl (HB3.out.cellv rfl) (HB3.out.cellv rfl) (HB3.out.cellv rfl) (HB3.out.cellv rfl) (HB3.out.cellv rfl) (HB3.out.cellv rfl) (HB3.out.cellv rfl) (HB3.out.cellv rfl) (HB3.out.cellv rfl) (HB3.out.cellv rfl) (HB3.out.cellv rfl) (HB3.out.cellv rfl) (HB3.out.cellv rfl) (HB3.out.cellv rfl) (HB3.out.cellv rfl) (HB3.out.cellv rfl) (HB3.out.cellv rfl) (HB3.out.cellv rfl) (HB4.out.cellv rfl) (HB4.out.cellv rfl) (HB4.out.cellv rfl) (HB4.out.cellv rfl) (HB4.out.cellv rfl) (HB4.out.cellv rfl) (HB4.out.cellv rfl) (HB4.out.cellv rfl) (HB4.out.cellv rfl) (HB4.out.cellv rfl) (HB4.out.cellv rfl) (HB4.out.cellv rfl) (HB4.out.cellv rfl) (HB4.out.cellv rfl) (HB4.out.cellv rfl) (HB4.out.cellv rfl) (HB4.out.cellv rfl) (HB4.out.cellv rfl) rfl HO3.out HO4.out (fun W _ => awake_any W) (fun W _ => oneA 1 W (by decide)) (fun W _ => oneA 2 W (by decide)) (fun W _ => oneA 9 W (by decide)) (fun W vs es _ h => sends_walk vs 0 es W h) (fun W _ => oneA 1 W (by decide)) (fun W vs es _ h => sends_walk vs 4611686018427387904 es W h) (fun W _ => sends_walk _ (-1) [] W (Dts.nil0 W)) (fun W _ => old_any W) (fun W vs es _ h => takes_walk _ vs 2 1 [] es W (Dts.nil0 _) h) ?_
      intro f wz hmz
      have HFIN : Hid (Mod (fun _ => False) w wz) := HMB.out.and hmz
      clear hmz
      simp only [puts, Act.put, List.setIfInBounds_toArray, List.set_cons_succ, List.set_cons_zero]
      go_wp2
      go_ret
      exact ⟨rfl, HFIN.out⟩
namespace regainNames
open Go.ChangeShapes Go.WideShapes Go.ChangeAt Go.RowKit
set_option maxRecDepth 100000 in
theorem lifted (os : Os) (started : os.Started) (H : Type) (enc : TypeId × Value → H) :
    ReturnsInHanded {} Tryz.checked os 5 .any (Rows.regainNamesSpec.pre6 enc Tryz.prog Tryz.f5 Rows.regainNamesRow.domain false) (Rows.regainNamesSpec.post enc Tryz.prog Tryz.f5 false true false false) := by
  refine returnsInHanded_of_change_sized (C := Tryz.checked) own started (by kernel_rfl) Tryz.func5
    (ChangeSpec.witness6 (enc := enc) (C := Tryz.checked) false ⟨#[], #[], []⟩ 8 (by kernel_rfl) (by kernel_rfl) (by kernel_rfl) (by kernel_rfl)) ?_
  intro W base args ds gs before hval0 hW hcnd hsz0 _
  have hval : ∀ (j : Nat) t v, Tryz.f5.params[j]? = some t → args[j]? = some v → Value.okWide Tryz.prog W .any base t v := hval0
  have hsz : (DataW.weightsEach Tryz.prog (Tryz.f5.params.toList ++ Rows.regainNamesSpec.plain.varTypes Tryz.prog) (ds ++ gs)).all (· ≤ reachBytes) = true := hsz0
  have hW' := hW
  obtain ⟨p, q, hA0, hV, rfl, hfz, hnd⟩ := hW
  have hA : DataW.TrodAll enc Tryz.prog W 0 (fun _ => true) true Tryz.f5.params.toList args.toList ds p := hA0
  rw [Tryz.params5] at hA hval hsz
  obtain ⟨hargs, rfl, rfl⟩ := trodAll_nil hA
  obtain rfl : args = #[] := by cases args; simp_all
  obtain ⟨rfl, rfl⟩ := trodVars_none hV
  clear hA0 hval0
  refine (names_walk W).mono fun e W' ⟨he, hm⟩ => ?_
  subst he
  have bel : Below W.heap.size W W' := hm.below _ (Nat.le_refl _) (fun _ h => h.elim)
  exact ⟨_, rfl, _, _, _, [], _, [], hW', trodAll_mk1 (shut_bool Tryz.underlying4 _), trodAll_mk0, rfl, bel.frame _, fun h => by cases h⟩

theorem over : Rows.regainNamesRow.holds Tryz.pinned (OpenSpec.ofChange Rows.regainNamesSpec) :=
  OpenClaim.holds_of_wide 5 Tryz.f5 rfl rfl rfl rfl rfl rfl rfl ⟨rfl, rfl, rfl, rfl, rfl⟩ rfl rfl rfl rfl rfl (by kernel_rfl) Tryz.func5 (by kernel_rfl)
    (of_decide_eq_true (by kernel_rfl)) (by unfold Func.isWrapper; first | (rw [if_pos (by decide +kernel)]; kernel_rfl) | (rw [if_neg (by decide +kernel)]; exact ⟨rfl, rfl⟩))
    (fun os started H enc _ => lifted os started H enc)
end regainNames
theorem regainNames_holds : Rows.RegainNamesSaid := regainNames.over
end Go.Proofs.YthiijonmnebjgaaGreat
