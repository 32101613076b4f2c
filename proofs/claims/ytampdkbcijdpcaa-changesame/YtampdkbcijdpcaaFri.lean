/- A statement that draws its order, walked once, as in Fre; what is said of a slot may speak of memory, and what is said of memory may speak of the slots; each operation shows that what was said stays. Conditions: those of Fre. -/
import Derived.Test.YtampdkbcijdpcaaFrx
namespace Go.Proofs.Ytampdkbcijdpcaa
open Go.RowKit
/-- What holds when those in 'listed' are done. -/
structure DnI (ops : Array Oper) (Post : Nat → Value → World → Prop) (Inv : Array Bool → Act → World → Prop) (a0 : Act) (listed : Array Bool) (a : Act) (w : World) : Prop where
  lsize : listed.size = ops.size
  size : a.tmps.size = a0.tmps.size
  defers : a.defers = a0.defers
  inv : Inv listed a w
  done : ∀ (i : Nat) (o : Oper) (d : Tmp), ops[i]? = some o → listed.getD i false = true → o.dst = some d → Post i (a.tmps.getD d undef) w
  rest : ∀ t, (∀ (i : Nat) (o : Oper), ops[i]? = some o → o.dst ≠ some t) → a.tmps.getD t undef = a0.tmps.getD t undef
  down : ∀ (i : Nat) (o : Oper), ops[i]? = some o → listed.getD i false = true → ∀ j, waits o j = true → listed.getD j false = true
/-- One operation. -/
def StepI (P : Program) (ops : Array Oper) (Post : Nat → Value → World → Prop) (Inv : Array Bool → Act → World → Prop) (a0 : Act) (Q : Exit → Act → World → Prop) (i : Nat) (o : Oper) : Prop :=
  ∀ a w listed, a.tmps.size = a0.tmps.size → listed.size = ops.size → listed.getD i false = false → (∀ j, waits o j = true → listed.getD j false = true) →
    (∀ (i : Nat) (o : Oper), ops[i]? = some o → listed.getD i false = true → ∀ j, waits o j = true → listed.getD j false = true) →
    (∀ (j : Nat) (oj : Oper) (d : Tmp), listed.getD j false = true → ops[j]? = some oj → oj.dst = some d → Post j (a.tmps.getD d undef) w) →
    (∀ t, (∀ (i : Nat) (o : Oper), ops[i]? = some o → o.dst ≠ some t) → a.tmps.getD t undef = a0.tmps.getD t undef) → Inv listed a w →
    ∀ K : Act → World → Prop, (∀ v w', (∀ (j : Nat) (oj : Oper) (d : Tmp), ops[j]? = some oj → listed.getD j false = true → oj.dst = some d → Post j (a.tmps.getD d undef) w → Post j (a.tmps.getD d undef) w') → Post i v w' → Inv (listed.setIfInBounds i true) (a.put o.dst v) w' → K (a.put o.dst v) w') →
      (Region.wanted o (yielded ops a.tmps) = true ∧ Oper.wp P o a w K Q) ∨ (Region.wanted o (yielded ops a.tmps) = false ∧ K (a.put o.dst undef) w)
section
variable {P : Program} {ops : Array Oper} {Post : Nat → Value → World → Prop} {Inv : Array Bool → Act → World → Prop} {a0 : Act} {Q : Exit → Act → World → Prop}
theorem DnI.step (hinj : ∀ (i j : Nat) (oi oj : Oper) (d : Tmp), ops[i]? = some oi → ops[j]? = some oj → oi.dst = some d → oj.dst = some d → i = j)
    {listed : Array Bool} {a : Act} {w w' : World} (h : DnI ops Post Inv a0 listed a w) {i : Nat} {o : Oper} (ho : ops[i]? = some o) (hlt : ∀ d, o.dst = some d → d < a0.tmps.size) (hwt : ∀ j, waits o j = true → listed.getD j false = true)
    {v : Value} (hpres : (∀ (j : Nat) (oj : Oper) (d : Tmp), ops[j]? = some oj → listed.getD j false = true → oj.dst = some d → Post j (a.tmps.getD d undef) w → Post j (a.tmps.getD d undef) w')) (hp : Post i v w') (hon : Inv (listed.setIfInBounds i true) (a.put o.dst v) w') : DnI ops Post Inv a0 (listed.setIfInBounds i true) (a.put o.dst v) w' := by
  have hi : i < listed.size := by
    rw [h.lsize]
    rcases Nat.lt_or_ge i ops.size with h | h
    · exact h
    · rw [Array.getElem?_eq_none h] at ho; cases ho
  have hdown : ∀ (k : Nat) (ok : Oper), ops[k]? = some ok → (listed.setIfInBounds i true).getD k false = true → ∀ j, waits ok j = true → (listed.setIfInBounds i true).getD j false = true := by
    intro k ok hk hl j hj
    rw [getD_set hi] at hl ⊢
    by_cases e2 : i = j
    · rw [if_pos e2]
    · rw [if_neg e2]
      by_cases e : i = k
      · subst e
        rw [ho] at hk
        cases hk
        exact hwt j hj
      · rw [if_neg e] at hl
        exact h.down k ok hk hl j hj
  cases hd : o.dst with
  | none =>
    rw [hd] at hon
    refine ⟨by simpa using h.lsize, h.size, h.defers, hon, fun j oj dj hj hl hdj => ?_, h.rest, hdown⟩
    rw [getD_set hi] at hl
    by_cases e : i = j
    · subst e
      rw [ho] at hj
      cases hj
      rw [hd] at hdj
      cases hdj
    · rw [if_neg e] at hl
      exact hpres j oj dj hj hl hdj (h.done j oj dj hj hl hdj)
  | some d =>
    rw [hd] at hon
    refine ⟨by simpa using h.lsize, by rw [put_size]; exact h.size, h.defers, hon, fun j oj dj hj hl hdj => ?_, fun t ht => ?_, hdown⟩
    · rw [getD_set hi] at hl
      by_cases e : i = j
      · subst e
        rw [ho] at hj
        cases hj
        rw [hd] at hdj
        cases hdj
        rw [put_same (by rw [h.size]; exact hlt _ hd)]
        exact hp
      · rw [if_neg e] at hl
        rw [put_other (by rintro rfl; exact e (hinj i j o oj d ho hj hd hdj))]
        exact hpres j oj dj hj hl hdj (h.done j oj dj hj hl hdj)
    · rw [put_other (by rintro rfl; exact ht i o ho hd)]
      exact h.rest t ht
theorem free_anyI (hlow : ∀ (i : Nat) (o : Oper), ops[i]? = some o → ∀ j, waits o j = true → j < i) (hdst : ∀ (i : Nat) (o : Oper), ops[i]? = some o → ∀ d, o.dst = some d → d < a0.tmps.size)
    (hinj : ∀ (i j : Nat) (oi oj : Oper) (d : Tmp), ops[i]? = some oi → ops[j]? = some oj → oi.dst = some d → oj.dst = some d → i = j)
    (hstep : ∀ (i : Nat) (o : Oper), ops[i]? = some o → StepI P ops Post Inv a0 Q i o)
    (hend : ∀ a w listed, a.tmps.size = a0.tmps.size → a.defers = a0.defers → listed.size = ops.size → (∀ i, i < ops.size → listed.getD i false = true) → Inv listed a w → (∀ (i : Nat) (o : Oper) (d : Tmp), ops[i]? = some o → o.dst = some d → Post i (a.tmps.getD d undef) w) →
      (∀ t, (∀ (i : Nat) (o : Oper), ops[i]? = some o → o.dst ≠ some t) → a.tmps.getD t undef = a0.tmps.getD t undef) → Q .normal a w) :
    ∀ fuel listed a w, DnI ops Post Inv a0 listed a w → cnt listed ops.size = fuel → wpAny P .any ops Q fuel listed a w := by
  have hlt : ∀ {i : Nat} {o : Oper}, ops[i]? = some o → i < ops.size := fun {i o} ho => by
    rcases Nat.lt_or_ge i ops.size with h | h
    · exact h
    · rw [Array.getElem?_eq_none h] at ho; cases ho
  have hall : ∀ {listed a w}, DnI ops Post Inv a0 listed a w → cnt listed ops.size = 0 → Q .normal a w := fun {listed a w} h h0 =>
    hend a w listed h.size h.defers h.lsize (cnt_zero h0) h.inv (fun i o d ho hd => h.done i o d ho (cnt_zero h0 i (hlt ho)) hd) h.rest
  intro fuel
  induction fuel with
  | zero =>
    intro listed a w h h0
    refine ⟨?_, hall h h0⟩
    unfold Region.ready
    rw [List.filter_eq_nil_iff]
    intro i hi
    have hi' : i < ops.size := List.mem_range.1 hi
    have := cnt_zero h0 i hi'
    have hls : i < listed.size := by rw [h.lsize]; exact hi'
    simp [hls] at this ⊢
    simp [this]
  | succ fuel ih =>
    intro listed a w h h0
    refine ⟨fun hr => ?_, fun i hi => ?_⟩
    · exfalso
      obtain ⟨i, hi, hf, hlow'⟩ := least (listed := listed) ops.size (by omega)
      have hmem : i ∈ Region.ready .any ops listed := by
        unfold Region.ready
        rw [List.mem_filter]
        refine ⟨List.mem_range.2 hi, ?_⟩
        have hls : i < listed.size := by rw [h.lsize]; exact hi
        have ho : ops[i]? = some ops[i] := by simp [hi]
        rw [ho]
        simp only [Array.getD_eq_getD_getElem?, hls, Array.getElem?_eq_getElem, Option.getD_some] at hf ⊢
        simp only [hf, Bool.not_false, Bool.true_and, Option.map_some, Option.getD_some]
        rw [Array.all_eq_true]
        intro k hk
        by_cases hb : Region.binds .any (ops[i].after[k]) = true
        · have hw : waits ops[i] (ops[i].after[k]).on = true := by
            unfold waits
            rw [Array.any_eq_true]
            exact ⟨k, hk, by simp [hb]⟩
          have := hlow' _ (hlow i _ ho _ hw)
          simp only [Array.getD_eq_getD_getElem?] at this
          simp [this]
        · simp [hb]
      rw [hr] at hmem
      cases hmem
    · unfold Region.ready at hi
      rw [List.mem_filter] at hi
      obtain ⟨hi1, hi2⟩ := hi
      have hi' : i < ops.size := List.mem_range.1 hi1
      have hls : i < listed.size := by rw [h.lsize]; exact hi'
      have ho : ops[i]? = some ops[i] := by simp [hi']
      rw [ho] at hi2
      simp only [Array.getD_eq_getD_getElem?, hls, Array.getElem?_eq_getElem, Option.getD_some, Option.map_some, Bool.and_eq_true, Array.all_eq_true] at hi2
      obtain ⟨hf, hdeps⟩ := hi2
      have hf' : listed.getD i false = false := by simpa [hls] using hf
      have hwt : ∀ j, waits ops[i] j = true → listed.getD j false = true := by
        intro j hw
        unfold waits at hw
        rw [Array.any_eq_true] at hw
        obtain ⟨k, hk, hb⟩ := hw
        simp only [Bool.and_eq_true, beq_iff_eq] at hb
        have := hdeps k hk
        rw [hb.1, hb.2] at this
        simpa using this
      refine wpOp_step ho fun K' hK => ?_
      have S := hstep i _ ho a w listed h.size h.lsize hf' hwt h.down (fun j oj dj hl hj hdj => h.done j oj dj hj hl hdj) h.rest h.inv K' (fun v w' hmw hp hon => hK _ _ (ih _ _ _ (h.step hinj ho (hdst i _ ho) hwt hmw hp hon) ?_))
      · rcases S with S | S
        · rw [if_pos S.1]; exact S.2
        · rw [if_neg (by rw [S.1]; decide)]; exact S.2
      · have := cnt_set hls hf' ops.size
        rw [if_pos hi'] at this
        omega
/-- A statement that draws its order, walked once. -/
theorem region_freeI {id : Nat} {w0 : World} (hm : P.follows .mixedOrders = true) (hlow : ∀ (i : Nat) (o : Oper), ops[i]? = some o → ∀ j, waits o j = true → j < i) (hdst : ∀ (i : Nat) (o : Oper), ops[i]? = some o → ∀ d, o.dst = some d → d < a0.tmps.size)
    (hinj : ∀ (i j : Nat) (oi oj : Oper) (d : Tmp), ops[i]? = some oi → ops[j]? = some oj → oi.dst = some d → oj.dst = some d → i = j)
    (hinv : Inv (Array.replicate ops.size false) a0 w0.drew) (hstep : ∀ (i : Nat) (o : Oper), ops[i]? = some o → StepI P ops Post Inv a0 Q i o)
    (hend : ∀ a w listed, a.tmps.size = a0.tmps.size → a.defers = a0.defers → listed.size = ops.size → (∀ i, i < ops.size → listed.getD i false = true) → Inv listed a w → (∀ (i : Nat) (o : Oper) (d : Tmp), ops[i]? = some o → o.dst = some d → Post i (a.tmps.getD d undef) w) →
      (∀ t, (∀ (i : Nat) (o : Oper), ops[i]? = some o → o.dst ≠ some t) → a.tmps.getD t undef = a0.tmps.getD t undef) → Q .normal a w) :
    (Code.region id ops true).wp P Q a0 w0 := by
  refine wp_region_any hm ?_
  have hrep : ∀ i, (Array.replicate ops.size false).getD i false = false := by
    intro i
    simp only [Array.getD_eq_getD_getElem?, Array.getElem?_replicate]
    split <;> rfl
  refine free_anyI hlow hdst hinj hstep hend _ _ _ _ ⟨by simp, rfl, rfl, hinv, fun i o d ho hl hd => ?_, fun t _ => rfl, fun i o ho hl => ?_⟩ (cnt_replicate _ _ (Nat.le_refl _))
  · rw [hrep] at hl; cases hl
  · rw [hrep] at hl; cases hl
end
theorem Is.stepI {P : Program} {ops : Array Oper} {Post : Nat → Value → World → Prop} {Inv : Array Bool → Act → World → Prop} {a0 : Act} {Q : Exit → Act → World → Prop} {i : Nat} {d : Option Tmp} {op : Op} {g : Option (Nat × Bool)} {ws : List Nat} (E : Is ops i d op g ws)
    (h : ∀ o, o.dst = d → o.op = op → o.guard = g → (∀ j ∈ ws, waits o j = true) → StepI P ops Post Inv a0 Q i o) : ∀ o, ops[i]? = some o → StepI P ops Post Inv a0 Q i o := by
  obtain ⟨o', h1, h2, h3, h4, h5⟩ := E.ex
  intro o ho
  rw [h1] at ho
  cases ho
  exact h o' h2 h3 h4 h5
theorem Is.postI {ops : Array Oper} {Post : Nat → Value → World → Prop} {listed : Array Bool} {a : Act} {w : World} {j : Nat} {d : Tmp} {op : Op} {g : Option (Nat × Bool)} {ws : List Nat} (E : Is ops j (some d) op g ws)
    (D : ∀ (j : Nat) (oj : Oper) (d : Tmp), listed.getD j false = true → ops[j]? = some oj → oj.dst = some d → Post j (a.tmps.getD d undef) w) (hl : listed.getD j false = true) : Post j (a.tmps.getD d undef) w := by
  obtain ⟨o', h1, h2, _⟩ := E.ex
  exact D j o' d hl h1 h2
end Go.Proofs.Ytampdkbcijdpcaa
