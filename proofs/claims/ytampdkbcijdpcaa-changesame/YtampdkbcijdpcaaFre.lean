/- A statement that draws its order, walked once: if each operation, whenever those that it waits for are done, leaves in its slot what is said of it, and memory as is said of those that are done, then behind the statement all is as said, in whatever order. Conditions: each operation waits for earlier ones alone, and no two have one slot. -/
import Derived.Test.YtampdkbcijdpcaaMem
import Derived.RegionTactic
namespace Go.Proofs.Ytampdkbcijdpcaa
open Go.RowKit
/-- What an operation waits for. -/
def waits (o : Oper) (j : Nat) : Bool := o.after.any fun e => Region.binds .any e && e.on == j
/-- What holds when those in 'listed' are done. -/
structure Dn (ops : Array Oper) (Post : Nat → Value → Prop) (Inv : Array Bool → World → Prop) (a0 : Act) (listed : Array Bool) (a : Act) (w : World) : Prop where
  lsize : listed.size = ops.size
  size : a.tmps.size = a0.tmps.size
  defers : a.defers = a0.defers
  inv : Inv listed w
  done : ∀ (i : Nat) (o : Oper) (d : Tmp), ops[i]? = some o → listed.getD i false = true → o.dst = some d → Post i (a.tmps.getD d undef)
  rest : ∀ t, (∀ (i : Nat) (o : Oper), ops[i]? = some o → o.dst ≠ some t) → a.tmps.getD t undef = a0.tmps.getD t undef
  down : ∀ (i : Nat) (o : Oper), ops[i]? = some o → listed.getD i false = true → ∀ j, waits o j = true → listed.getD j false = true
/-- One operation. -/
def Step (P : Program) (ops : Array Oper) (Post : Nat → Value → Prop) (Inv : Array Bool → World → Prop) (a0 : Act) (Q : Exit → Act → World → Prop) (i : Nat) (o : Oper) : Prop :=
  ∀ a w listed, a.tmps.size = a0.tmps.size → listed.size = ops.size → listed.getD i false = false → (∀ j, waits o j = true → listed.getD j false = true) →
    (∀ (i : Nat) (o : Oper), ops[i]? = some o → listed.getD i false = true → ∀ j, waits o j = true → listed.getD j false = true) →
    (∀ (j : Nat) (oj : Oper) (d : Tmp), waits o j = true → ops[j]? = some oj → oj.dst = some d → Post j (a.tmps.getD d undef)) →
    (∀ t, (∀ (i : Nat) (o : Oper), ops[i]? = some o → o.dst ≠ some t) → a.tmps.getD t undef = a0.tmps.getD t undef) → Inv listed w →
    ∀ K : Act → World → Prop, (∀ v w', Post i v → Inv (listed.setIfInBounds i true) w' → K (a.put o.dst v) w') →
      (Region.wanted o (yielded ops a.tmps) = true ∧ Oper.wp P o a w K Q) ∨ (Region.wanted o (yielded ops a.tmps) = false ∧ K (a.put o.dst undef) w)
def cnt (listed : Array Bool) : Nat → Nat
  | 0 => 0
  | n + 1 => cnt listed n + if listed.getD n false = true then 0 else 1
theorem cnt_zero {listed : Array Bool} : ∀ {n : Nat}, cnt listed n = 0 → ∀ i, i < n → listed.getD i false = true := by
  intro n
  induction n with
  | zero => intro _ i hi; omega
  | succ n ih =>
    intro h i hi
    simp only [cnt] at h
    by_cases e : i = n
    · subst e
      by_cases hl : listed.getD i false = true
      · exact hl
      · rw [if_neg hl] at h; omega
    · exact ih (by omega) i (by omega)
theorem getD_set {listed : Array Bool} {i j : Nat} (hi : i < listed.size) : (listed.setIfInBounds i true).getD j false = if i = j then true else listed.getD j false := by
  simp only [Array.getD_eq_getD_getElem?, Array.getElem?_setIfInBounds]
  by_cases h : i = j
  · subst h; simp [hi]
  · simp [h]
theorem cnt_set {listed : Array Bool} {i : Nat} (hi : i < listed.size) (h0 : listed.getD i false = false) : ∀ n, cnt (listed.setIfInBounds i true) n + (if i < n then 1 else 0) = cnt listed n := by
  intro n
  induction n with
  | zero => simp [cnt]
  | succ n ih =>
    simp only [cnt]
    rw [getD_set hi]
    by_cases e : i = n
    · subst e
      rw [if_neg (Nat.lt_irrefl i)] at ih
      simp [h0]
      omega
    · have hlt : i < n + 1 ↔ i < n := by omega
      simp only [e, hlt, if_false]
      omega
theorem least {listed : Array Bool} : ∀ n : Nat, cnt listed n ≠ 0 → ∃ i, i < n ∧ listed.getD i false = false ∧ ∀ j, j < i → listed.getD j false = true := by
  intro n
  induction n with
  | zero => intro h; exact absurd rfl h
  | succ n ih =>
    intro h
    by_cases h0 : cnt listed n = 0
    · refine ⟨n, by omega, ?_, cnt_zero h0⟩
      simp only [cnt, h0] at h
      by_cases hl : listed.getD n false = true
      · rw [if_pos hl] at h; exact absurd rfl h
      · simpa using hl
    · obtain ⟨i, h1, h2⟩ := ih h0
      exact ⟨i, by omega, h2⟩
section
variable {P : Program} {ops : Array Oper} {Post : Nat → Value → Prop} {Inv : Array Bool → World → Prop} {a0 : Act} {Q : Exit → Act → World → Prop}
theorem put_size (a : Act) (d : Tmp) (v : Value) : (a.put (some d) v).tmps.size = a.tmps.size := by simp [Act.put]
theorem put_same {a : Act} {d : Tmp} (h : d < a.tmps.size) (v : Value) : (a.put (some d) v).tmps.getD d undef = v := by
  simp [Act.put, h]
theorem put_other {a : Act} {d t : Tmp} (h : d ≠ t) (v : Value) : (a.put (some d) v).tmps.getD t undef = a.tmps.getD t undef := by
  simp [Act.put, h]
theorem put_none (a : Act) (v : Value) : a.put none v = a := rfl
theorem Dn.step (hinj : ∀ (i j : Nat) (oi oj : Oper) (d : Tmp), ops[i]? = some oi → ops[j]? = some oj → oi.dst = some d → oj.dst = some d → i = j)
    {listed : Array Bool} {a : Act} {w w' : World} (h : Dn ops Post Inv a0 listed a w) {i : Nat} {o : Oper} (ho : ops[i]? = some o) (hlt : ∀ d, o.dst = some d → d < a0.tmps.size) (hwt : ∀ j, waits o j = true → listed.getD j false = true)
    {v : Value} (hp : Post i v) (hon : Inv (listed.setIfInBounds i true) w') : Dn ops Post Inv a0 (listed.setIfInBounds i true) (a.put o.dst v) w' := by
  have hi : i < listed.size := by
    rw [h.lsize]
    rcases Nat.lt_or_ge i ops.size with h | h
    · exact h
    · rw [Array.getElem?_eq_none h] at ho; cases ho
  have hdown : ∀ (k : Nat) (ok : Oper), ops[k]? = some ok → (listed.setIfInBounds i true).getD k false = true → ∀ j, waits ok j = true → (listed.setIfInBounds i true).getD j false = true := by
    intro k ok hk hl j hj
    rw [getD_set hi] at hl ⊢
    by_cases e2 : i = j
    · rw [if_pos e2]
    · rw [if_neg e2]
      by_cases e : i = k
      · subst e
        rw [ho] at hk
        cases hk
        exact hwt j hj
      · rw [if_neg e] at hl
        exact h.down k ok hk hl j hj
  cases hd : o.dst with
  | none =>
    refine ⟨by simpa using h.lsize, h.size, h.defers, hon, fun j oj dj hj hl hdj => ?_, h.rest, hdown⟩
    rw [getD_set hi] at hl
    by_cases e : i = j
    · subst e
      rw [ho] at hj
      cases hj
      rw [hd] at hdj
      cases hdj
    · rw [if_neg e] at hl
      exact h.done j oj dj hj hl hdj
  | some d =>
    refine ⟨by simpa using h.lsize, by rw [put_size]; exact h.size, h.defers, hon, fun j oj dj hj hl hdj => ?_, fun t ht => ?_, hdown⟩
    · rw [getD_set hi] at hl
      by_cases e : i = j
      · subst e
        rw [ho] at hj
        cases hj
        rw [hd] at hdj
        cases hdj
        rw [put_same (by rw [h.size]; exact hlt _ hd)]
        exact hp
      · rw [if_neg e] at hl
        rw [put_other (by rintro rfl; exact e (hinj i j o oj d ho hj hd hdj))]
        exact h.done j oj dj hj hl hdj
    · rw [put_other (by rintro rfl; exact ht i o ho hd)]
      exact h.rest t ht
theorem free_any (hlow : ∀ (i : Nat) (o : Oper), ops[i]? = some o → ∀ j, waits o j = true → j < i) (hdst : ∀ (i : Nat) (o : Oper), ops[i]? = some o → ∀ d, o.dst = some d → d < a0.tmps.size)
    (hinj : ∀ (i j : Nat) (oi oj : Oper) (d : Tmp), ops[i]? = some oi → ops[j]? = some oj → oi.dst = some d → oj.dst = some d → i = j)
    (hstep : ∀ (i : Nat) (o : Oper), ops[i]? = some o → Step P ops Post Inv a0 Q i o)
    (hend : ∀ a w listed, a.tmps.size = a0.tmps.size → a.defers = a0.defers → listed.size = ops.size → (∀ i, i < ops.size → listed.getD i false = true) → Inv listed w → (∀ (i : Nat) (o : Oper) (d : Tmp), ops[i]? = some o → o.dst = some d → Post i (a.tmps.getD d undef)) →
      (∀ t, (∀ (i : Nat) (o : Oper), ops[i]? = some o → o.dst ≠ some t) → a.tmps.getD t undef = a0.tmps.getD t undef) → Q .normal a w) :
    ∀ fuel listed a w, Dn ops Post Inv a0 listed a w → cnt listed ops.size = fuel → wpAny P .any ops Q fuel listed a w := by
  have hlt : ∀ {i : Nat} {o : Oper}, ops[i]? = some o → i < ops.size := fun {i o} ho => by
    rcases Nat.lt_or_ge i ops.size with h | h
    · exact h
    · rw [Array.getElem?_eq_none h] at ho; cases ho
  have hall : ∀ {listed a w}, Dn ops Post Inv a0 listed a w → cnt listed ops.size = 0 → Q .normal a w := fun {listed a w} h h0 =>
    hend a w listed h.size h.defers h.lsize (cnt_zero h0) h.inv (fun i o d ho hd => h.done i o d ho (cnt_zero h0 i (hlt ho)) hd) h.rest
  intro fuel
  induction fuel with
  | zero =>
    intro listed a w h h0
    refine ⟨?_, hall h h0⟩
    unfold Region.ready
    rw [List.filter_eq_nil_iff]
    intro i hi
    have hi' : i < ops.size := List.mem_range.1 hi
    have := cnt_zero h0 i hi'
    have hls : i < listed.size := by rw [h.lsize]; exact hi'
    simp [hls] at this ⊢
    simp [this]
  | succ fuel ih =>
    intro listed a w h h0
    refine ⟨fun hr => ?_, fun i hi => ?_⟩
    · exfalso
      obtain ⟨i, hi, hf, hlow'⟩ := least (listed := listed) ops.size (by omega)
      have hmem : i ∈ Region.ready .any ops listed := by
        unfold Region.ready
        rw [List.mem_filter]
        refine ⟨List.mem_range.2 hi, ?_⟩
        have hls : i < listed.size := by rw [h.lsize]; exact hi
        have ho : ops[i]? = some ops[i] := by simp [hi]
        rw [ho]
        simp only [Array.getD_eq_getD_getElem?, hls, Array.getElem?_eq_getElem, Option.getD_some] at hf ⊢
        simp only [hf, Bool.not_false, Bool.true_and, Option.map_some, Option.getD_some]
        rw [Array.all_eq_true]
        intro k hk
        by_cases hb : Region.binds .any (ops[i].after[k]) = true
        · have hw : waits ops[i] (ops[i].after[k]).on = true := by
            unfold waits
            rw [Array.any_eq_true]
            exact ⟨k, hk, by simp [hb]⟩
          have := hlow' _ (hlow i _ ho _ hw)
          simp only [Array.getD_eq_getD_getElem?] at this
          simp [this]
        · simp [hb]
      rw [hr] at hmem
      cases hmem
    · unfold Region.ready at hi
      rw [List.mem_filter] at hi
      obtain ⟨hi1, hi2⟩ := hi
      have hi' : i < ops.size := List.mem_range.1 hi1
      have hls : i < listed.size := by rw [h.lsize]; exact hi'
      have ho : ops[i]? = some ops[i] := by simp [hi']
      rw [ho] at hi2
      simp only [Array.getD_eq_getD_getElem?, hls, Array.getElem?_eq_getElem, Option.getD_some, Option.map_some, Bool.and_eq_true, Array.all_eq_true] at hi2
      obtain ⟨hf, hdeps⟩ := hi2
      have hf' : listed.getD i false = false := by simpa [hls] using hf
      have hwt : ∀ j, waits ops[i] j = true → listed.getD j false = true := by
        intro j hw
        unfold waits at hw
        rw [Array.any_eq_true] at hw
        obtain ⟨k, hk, hb⟩ := hw
        simp only [Bool.and_eq_true, beq_iff_eq] at hb
        have := hdeps k hk
        rw [hb.1, hb.2] at this
        simpa using this
      refine wpOp_step ho fun K' hK => ?_
      have S := hstep i _ ho a w listed h.size h.lsize hf' hwt h.down (fun j oj dj hw hj hdj => h.done j oj dj hj (hwt j hw) hdj) h.rest h.inv K' (fun v w' hp hon => hK _ _ (ih _ _ _ (h.step hinj ho (hdst i _ ho) hwt hp hon) ?_))
      · rcases S with S | S
        · rw [if_pos S.1]; exact S.2
        · rw [if_neg (by rw [S.1]; decide)]; exact S.2
      · have := cnt_set hls hf' ops.size
        rw [if_pos hi'] at this
        omega
theorem cnt_replicate (N : Nat) : ∀ n, n ≤ N → cnt (Array.replicate N false) n = n := by
  intro n
  induction n with
  | zero => intro _; rfl
  | succ n ih =>
    intro h
    simp only [cnt]
    rw [ih (by omega)]
    simp [show n < N by omega]
/-- A statement that draws its order, walked once. -/
theorem region_free {id : Nat} {w0 : World} (hm : P.follows .mixedOrders = true) (hlow : ∀ (i : Nat) (o : Oper), ops[i]? = some o → ∀ j, waits o j = true → j < i) (hdst : ∀ (i : Nat) (o : Oper), ops[i]? = some o → ∀ d, o.dst = some d → d < a0.tmps.size)
    (hinj : ∀ (i j : Nat) (oi oj : Oper) (d : Tmp), ops[i]? = some oi → ops[j]? = some oj → oi.dst = some d → oj.dst = some d → i = j)
    (hinv : Inv (Array.replicate ops.size false) w0.drew) (hstep : ∀ (i : Nat) (o : Oper), ops[i]? = some o → Step P ops Post Inv a0 Q i o)
    (hend : ∀ a w listed, a.tmps.size = a0.tmps.size → a.defers = a0.defers → listed.size = ops.size → (∀ i, i < ops.size → listed.getD i false = true) → Inv listed w → (∀ (i : Nat) (o : Oper) (d : Tmp), ops[i]? = some o → o.dst = some d → Post i (a.tmps.getD d undef)) →
      (∀ t, (∀ (i : Nat) (o : Oper), ops[i]? = some o → o.dst ≠ some t) → a.tmps.getD t undef = a0.tmps.getD t undef) → Q .normal a w) :
    (Code.region id ops true).wp P Q a0 w0 := by
  refine wp_region_any hm ?_
  have hrep : ∀ i, (Array.replicate ops.size false).getD i false = false := by
    intro i
    simp only [Array.getD_eq_getD_getElem?, Array.getElem?_replicate]
    split <;> rfl
  refine free_any hlow hdst hinj hstep hend _ _ _ _ ⟨by simp, rfl, rfl, hinv, fun i o d ho hl hd => ?_, fun t _ => rfl, fun i o ho hl => ?_⟩ (cnt_replicate _ _ (Nat.le_refl _))
  · rw [hrep] at hl; cases hl
  · rw [hrep] at hl; cases hl
end
theorem slot_at {a : Act} {d : Tmp} (hlt : d < a.tmps.size) : a.tmps[d]? = some (a.tmps.getD d undef) := by
  rw [Array.getD_eq_getD_getElem?, Array.getElem?_eq_getElem hlt]; rfl
theorem wanted_at {ops : Array Oper} {a : Act} {o oj : Oper} {j : Nat} {g : Bool} {d : Tmp} {b : Bool} (h : o.guard = some (j, g)) (hj : ops[j]? = some oj) (hd : oj.dst = some d) (hlt : d < a.tmps.size) (hv : a.tmps.getD d undef = .bool b) : Region.wanted o (yielded ops a.tmps) = (b == g) := by
  have e := slot_at hlt
  rw [hv] at e
  simp [Region.wanted, h, yielded, hj, hd, e]
theorem wanted_undef {ops : Array Oper} {a : Act} {o oj : Oper} {j : Nat} {g : Bool} {d : Tmp} (h : o.guard = some (j, g)) (hj : ops[j]? = some oj) (hd : oj.dst = some d) (hlt : d < a.tmps.size) (hv : a.tmps.getD d undef = undef) : Region.wanted o (yielded ops a.tmps) = false := by
  have e := slot_at hlt
  rw [hv] at e
  simp [Region.wanted, h, yielded, hj, hd, e, undef]
theorem wanted_none {ops : Array Oper} {a : Act} {o : Oper} (h : o.guard = none) : Region.wanted o (yielded ops a.tmps) = true := by simp [Region.wanted, h]
section
variable {P : Program} {o : Oper} {a : Act} {w w' : World} {K : Act → World → Prop} {Q : Exit → Act → World → Prop}
theorem wp_value {v : Value} (h : (execOp a.eval o).run P w = .ok (.value v) w') (k : K (a.put o.dst v) w') : Oper.wp P o a w K Q := by
  unfold Oper.wp
  rw [h]
  exact k
theorem wp_skip (h : (execOp a.eval o).run P w = .ok .skip w') (k : K (a.put o.dst undef) w') : Oper.wp P o a w K Q := by
  unfold Oper.wp
  rw [h]
  exact k
theorem wp_enter {f : FuncId} {args : Array Value} {R : Ending → World → Prop} (h : (execOp a.eval o).run P w = .ok (.enter f args) w) (hc : Calls P f args w R) (k : ∀ e w', R e w' → ∃ v, e = .returned v ∧ K (a.put o.dst v) w') : Oper.wp P o a w K Q := by
  unfold Oper.wp
  rw [h, Oper.upon_enter]
  refine hc.mono ?_
  intro e w' he
  obtain ⟨v, rfl, hk⟩ := k e w' he
  exact hk
end
/-- What an operation of a statement is. -/
structure Is (ops : Array Oper) (i : Nat) (d : Option Tmp) (op : Op) (g : Option (Nat × Bool)) (ws : List Nat) : Prop where
  ex : ∃ o, ops[i]? = some o ∧ o.dst = d ∧ o.op = op ∧ o.guard = g ∧ ∀ j ∈ ws, waits o j = true
theorem Is.step {P : Program} {ops : Array Oper} {Post : Nat → Value → Prop} {Inv : Array Bool → World → Prop} {a0 : Act} {Q : Exit → Act → World → Prop} {i : Nat} {d : Option Tmp} {op : Op} {g : Option (Nat × Bool)} {ws : List Nat} (E : Is ops i d op g ws)
    (h : ∀ o, o.dst = d → o.op = op → o.guard = g → (∀ j ∈ ws, waits o j = true) → Step P ops Post Inv a0 Q i o) : ∀ o, ops[i]? = some o → Step P ops Post Inv a0 Q i o := by
  obtain ⟨o', h1, h2, h3, h4, h5⟩ := E.ex
  intro o ho
  rw [h1] at ho
  cases ho
  exact h o' h2 h3 h4 h5
theorem Is.post {ops : Array Oper} {Post : Nat → Value → Prop} {a : Act} {j : Nat} {d : Tmp} {op : Op} {g : Option (Nat × Bool)} {ws : List Nat} (E : Is ops j (some d) op g ws) {o : Oper}
    (D : ∀ (j : Nat) (oj : Oper) (d : Tmp), waits o j = true → ops[j]? = some oj → oj.dst = some d → Post j (a.tmps.getD d undef)) (hw : waits o j = true) : Post j (a.tmps.getD d undef) := by
  obtain ⟨o', h1, h2, _⟩ := E.ex
  exact D j o' d hw h1 h2
/-- One that is done has those behind it done. -/
theorem Is.down {ops : Array Oper} {listed : Array Bool} {i j : Nat} {d : Option Tmp} {op : Op} {g : Option (Nat × Bool)} {ws : List Nat} (E : Is ops i d op g ws)
    (hd : ∀ (i : Nat) (o : Oper), ops[i]? = some o → listed.getD i false = true → ∀ j, waits o j = true → listed.getD j false = true) (hj : j ∈ ws) (h : listed.getD j false = false) : listed.getD i false = false := by
  obtain ⟨o', h1, _, _, _, h5⟩ := E.ex
  cases hb : listed.getD i false with
  | false => rfl
  | true => rw [hd i o' h1 hb j (h5 j hj)] at h; cases h
def lowB (ops : Array Oper) : Bool := (List.range ops.size).all fun i => ((ops[i]?).map fun o => o.after.all fun e => !Region.binds .any e || decide (e.on < i)).getD true
theorem low_of {ops : Array Oper} (h : lowB ops = true) : ∀ (i : Nat) (o : Oper), ops[i]? = some o → ∀ j, waits o j = true → j < i := by
  intro i o ho j hw
  have hi : i < ops.size := by
    rcases Nat.lt_or_ge i ops.size with h | h
    · exact h
    · rw [Array.getElem?_eq_none h] at ho; cases ho
  unfold lowB at h
  rw [List.all_eq_true] at h
  have h1 := h i (List.mem_range.2 hi)
  rw [ho] at h1
  simp only [Option.map_some, Option.getD_some, Array.all_eq_true] at h1
  unfold waits at hw
  rw [Array.any_eq_true] at hw
  obtain ⟨k, hk, hb⟩ := hw
  have := h1 k hk
  simp only [Bool.and_eq_true, beq_iff_eq] at hb
  rw [hb.1, hb.2] at this
  simpa using this
def dsts (ops : Array Oper) : List (Option Tmp) := ops.toList.map (·.dst)
theorem dst_of {ops : Array Oper} {N : Nat} (h : ((dsts ops).all fun d => (d.map fun t => decide (t < N)).getD true) = true) : ∀ (i : Nat) (o : Oper), ops[i]? = some o → ∀ d, o.dst = some d → d < N := by
  intro i o ho d hd
  rw [List.all_eq_true] at h
  have hmem : o.dst ∈ dsts ops := List.mem_map.2 ⟨o, by rw [Array.mem_toList_iff]; exact Array.mem_of_getElem? ho, rfl⟩
  have h1 := h _ hmem
  rw [hd] at h1
  simpa using h1
def injB (ops : Array Oper) : Bool := (List.range ops.size).all fun i => (List.range ops.size).all fun j => decide (i = j) || ((ops[i]?.bind (·.dst)).isNone || !((ops[i]?.bind (·.dst)) == (ops[j]?.bind (·.dst))))
theorem inj_of {ops : Array Oper} (h : injB ops = true) : ∀ (i j : Nat) (oi oj : Oper) (d : Tmp), ops[i]? = some oi → ops[j]? = some oj → oi.dst = some d → oj.dst = some d → i = j := by
  intro i j oi oj d hi hj hdi hdj
  have hlt : ∀ {i : Nat} {o : Oper}, ops[i]? = some o → i < ops.size := fun {i o} ho => by
    rcases Nat.lt_or_ge i ops.size with h | h
    · exact h
    · rw [Array.getElem?_eq_none h] at ho; cases ho
  unfold injB at h
  rw [List.all_eq_true] at h
  have h1 := h i (List.mem_range.2 (hlt hi))
  rw [List.all_eq_true] at h1
  have h2 := h1 j (List.mem_range.2 (hlt hj))
  rw [hi, hj] at h2
  simp only [Option.bind_some, hdi, hdj] at h2
  simpa using h2
theorem not_of {ops : Array Oper} {t : Tmp} (h : (dsts ops).contains (some t) = false) : ∀ (i : Nat) (o : Oper), ops[i]? = some o → o.dst ≠ some t := by
  intro i o ho e
  have hmem : some t ∈ dsts ops := List.mem_map.2 ⟨o, by rw [Array.mem_toList_iff]; exact Array.mem_of_getElem? ho, e⟩
  have : (dsts ops).contains (some t) = true := by simpa using hmem
  rw [h] at this
  cases this
end Go.Proofs.Ytampdkbcijdpcaa
