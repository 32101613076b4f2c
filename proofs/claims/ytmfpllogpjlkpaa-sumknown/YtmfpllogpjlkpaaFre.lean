/- A statement that draws its order, walked once: if each operation, whenever those that it waits for are done, leaves what is said of it, and what is said of the others stays, then behind the statement all is as said, in whatever order. Conditions: each operation waits for earlier ones alone, and each has a slot of its own. -/
import Derived.Test.YtmfpllogpjlkpaaWo
import Derived.RegionTactic
namespace Go.Proofs.Ytmfpllogpjlkpaa
open Go.RowKit

/-- Memory goes on: blocks below B are as they were, cells that were there are as they were. -/
structure On (B : Nat) (w w' : World) : Prop where
  mod : Mod (fun k => B ≤ k) w w'
  cells : ∀ (b : Nat) C t f, w.heap[b]? = some (.cells C t f) → ∃ f', w'.heap[b]? = some (.cells C t f')
theorem On.refl (B : Nat) (w : World) : On B w w := ⟨Mod.refl _ _, fun _ _ _ f h => ⟨f, h⟩⟩
theorem On.trans {B : Nat} {a b c : World} (h : On B a b) (k : On B b c) : On B a c :=
  ⟨h.mod.trans k.mod (fun _ _ h => h) (fun _ _ h => h), fun q C t f hq => by
    obtain ⟨f1, h1⟩ := h.cells q C t f hq
    exact k.cells q C t f1 h1⟩
theorem On.of {B : Nat} {w w' : World} (h : Mod (fun _ => False) w w') : On B w w' :=
  ⟨h.none, fun b _ _ f hb => ⟨f, (h.block b (lt_of_block hb) (fun h => h)).trans hb⟩⟩
theorem On.cell {B : Nat} {w w' : World} (h : On B w w') {p : Addr} {v : Value} (hc : w.cell? p = some v) : w'.cell? p = some v := by
  unfold World.cell? at hc ⊢
  split at hc
  · rename_i C t f hb
    obtain ⟨f', h'⟩ := h.cells _ _ _ _ hb
    rw [h']
    exact hc
  · cases hc
theorem Sl.on {B : Nat} {w w' : World} {v : Value} {l : List Int} (h : Sl w v l) (k : On B w w') : Sl w' v l := by
  obtain ⟨ao, cap, rfl, h1, h2, h3, h4⟩ := h.form
  refine ⟨⟨ao, cap, rfl, h1, h2, h3, fun hl => ?_⟩, h.rng⟩
  obtain ⟨b, off, rfl, hc⟩ := h4 hl
  exact ⟨b, off, rfl, fun j hj => k.cell (hc j hj)⟩

/-- What an operation waits for. -/
def waits (o : Oper) (j : Nat) : Bool := o.after.any fun e => Region.binds .any e && e.on == j

/-- What holds when those in 'listed' are done. -/
structure Dn (ops : Array Oper) (Post : Nat → Value → World → Prop) (a0 : Act) (w0 : World) (listed : Array Bool) (a : Act) (w : World) : Prop where
  lsize : listed.size = ops.size
  size : a.tmps.size = a0.tmps.size
  defers : a.defers = a0.defers
  on : On w0.heap.size w0 w
  done : ∀ (i : Nat) (o : Oper) (d : Tmp), ops[i]? = some o → listed.getD i false = true → o.dst = some d → Post i (a.tmps.getD d undef) w
  rest : ∀ t, (∀ (i : Nat) (o : Oper), ops[i]? = some o → o.dst ≠ some t) → a.tmps.getD t undef = a0.tmps.getD t undef

/-- One operation. -/
def Step (P : Program) (ops : Array Oper) (Post : Nat → Value → World → Prop) (a0 : Act) (w0 : World) (Q : Exit → Act → World → Prop) (i : Nat) (o : Oper) : Prop :=
  ∀ a w, a.tmps.size = a0.tmps.size → (∀ (j : Nat) (oj : Oper) (d : Tmp), waits o j = true → ops[j]? = some oj → oj.dst = some d → Post j (a.tmps.getD d undef) w) →
    (∀ t, (∀ (i : Nat) (o : Oper), ops[i]? = some o → o.dst ≠ some t) → a.tmps.getD t undef = a0.tmps.getD t undef) → On w0.heap.size w0 w →
    ∀ K : Act → World → Prop, (∀ v w', Post i v w' → On w0.heap.size w w' → K (a.put o.dst v) w') →
      Region.wanted o (yielded ops a.tmps) = true ∧ Oper.wp P o a w K Q

def cnt (listed : Array Bool) : Nat → Nat
  | 0 => 0
  | n + 1 => cnt listed n + if listed.getD n false = true then 0 else 1
theorem cnt_zero {listed : Array Bool} : ∀ {n : Nat}, cnt listed n = 0 → ∀ i, i < n → listed.getD i false = true := by
  intro n
  induction n with
  | zero => intro _ i hi; omega
  | succ n ih =>
    intro h i hi
    simp only [cnt] at h
    by_cases e : i = n
    · subst e
      by_cases hl : listed.getD i false = true
      · exact hl
      · rw [if_neg hl] at h; omega
    · exact ih (by omega) i (by omega)
theorem getD_set {listed : Array Bool} {i j : Nat} (hi : i < listed.size) : (listed.setIfInBounds i true).getD j false = if i = j then true else listed.getD j false := by
  simp only [Array.getD_eq_getD_getElem?, Array.getElem?_setIfInBounds]
  by_cases h : i = j
  · subst h; simp [hi]
  · simp [h]
theorem cnt_set {listed : Array Bool} {i : Nat} (hi : i < listed.size) (h0 : listed.getD i false = false) : ∀ n, cnt (listed.setIfInBounds i true) n + (if i < n then 1 else 0) = cnt listed n := by
  intro n
  induction n with
  | zero => simp [cnt]
  | succ n ih =>
    simp only [cnt]
    rw [getD_set hi]
    by_cases e : i = n
    · subst e
      rw [if_neg (Nat.lt_irrefl i)] at ih
      simp [h0]
      omega
    · have hlt : i < n + 1 ↔ i < n := by omega
      simp only [e, hlt, if_false]
      omega
theorem least {listed : Array Bool} : ∀ n : Nat, cnt listed n ≠ 0 → ∃ i, i < n ∧ listed.getD i false = false ∧ ∀ j, j < i → listed.getD j false = true := by
  intro n
  induction n with
  | zero => intro h; exact absurd rfl h
  | succ n ih =>
    intro h
    by_cases h0 : cnt listed n = 0
    · refine ⟨n, by omega, ?_, cnt_zero h0⟩
      simp only [cnt, h0] at h
      by_cases hl : listed.getD n false = true
      · rw [if_pos hl] at h; exact absurd rfl h
      · simpa using hl
    · obtain ⟨i, h1, h2⟩ := ih h0
      exact ⟨i, by omega, h2⟩

section
variable {P : Program} {ops : Array Oper} {Post : Nat → Value → World → Prop} {a0 : Act} {w0 : World} {Q : Exit → Act → World → Prop}
theorem put_size (a : Act) (d : Tmp) (v : Value) : (a.put (some d) v).tmps.size = a.tmps.size := by simp [Act.put]
theorem put_same {a : Act} {d : Tmp} (h : d < a.tmps.size) (v : Value) : (a.put (some d) v).tmps.getD d undef = v := by
  simp [Act.put, h]
theorem put_other {a : Act} {d t : Tmp} (h : d ≠ t) (v : Value) : (a.put (some d) v).tmps.getD t undef = a.tmps.getD t undef := by
  simp [Act.put, h]
theorem Dn.step (hinj : ∀ (i j : Nat) (oi oj : Oper) (d : Tmp), ops[i]? = some oi → ops[j]? = some oj → oi.dst = some d → oj.dst = some d → i = j)
    (hmono : ∀ i v w w', Post i v w → On w0.heap.size w w' → Post i v w') {listed : Array Bool} {a : Act} {w w' : World} (h : Dn ops Post a0 w0 listed a w) {i : Nat} {o : Oper} {d : Tmp} (ho : ops[i]? = some o) (hd : o.dst = some d) (hlt : d < a0.tmps.size)
    {v : Value} (hp : Post i v w') (hon : On w0.heap.size w w') : Dn ops Post a0 w0 (listed.setIfInBounds i true) (a.put o.dst v) w' := by
  have hi : i < listed.size := by
    rw [h.lsize]
    rcases Nat.lt_or_ge i ops.size with h | h
    · exact h
    · rw [Array.getElem?_eq_none h] at ho; cases ho
  refine ⟨by simpa using h.lsize, by rw [hd, put_size]; exact h.size, by rw [hd]; exact h.defers, h.on.trans hon, fun j oj dj hj hl hdj => ?_, fun t ht => ?_⟩
  · rw [getD_set hi] at hl
    by_cases e : i = j
    · subst e
      rw [ho] at hj
      cases hj
      rw [hd] at hdj
      cases hdj
      rw [hd, put_same (by rw [h.size]; exact hlt)]
      exact hp
    · rw [if_neg e] at hl
      rw [hd, put_other (by rintro rfl; exact e (hinj i j o oj d ho hj hd hdj))]
      exact hmono _ _ _ _ (h.done j oj dj hj hl hdj) hon
  · rw [hd, put_other (by rintro rfl; exact ht i o ho hd)]
    exact h.rest t ht
theorem free_any (hlow : ∀ (i : Nat) (o : Oper), ops[i]? = some o → ∀ j, waits o j = true → j < i) (hdst : ∀ (i : Nat) (o : Oper), ops[i]? = some o → ∃ d, o.dst = some d ∧ d < a0.tmps.size)
    (hinj : ∀ (i j : Nat) (oi oj : Oper) (d : Tmp), ops[i]? = some oi → ops[j]? = some oj → oi.dst = some d → oj.dst = some d → i = j)
    (hmono : ∀ i v w w', Post i v w → On w0.heap.size w w' → Post i v w') (hstep : ∀ (i : Nat) (o : Oper), ops[i]? = some o → Step P ops Post a0 w0 Q i o)
    (hend : ∀ a w, a.tmps.size = a0.tmps.size → a.defers = a0.defers → On w0.heap.size w0 w → (∀ (i : Nat) (o : Oper) (d : Tmp), ops[i]? = some o → o.dst = some d → Post i (a.tmps.getD d undef) w) →
      (∀ t, (∀ (i : Nat) (o : Oper), ops[i]? = some o → o.dst ≠ some t) → a.tmps.getD t undef = a0.tmps.getD t undef) → Q .normal a w) :
    ∀ fuel listed a w, Dn ops Post a0 w0 listed a w → cnt listed ops.size = fuel → wpAny P .any ops Q fuel listed a w := by
  have hlt : ∀ {i : Nat} {o : Oper}, ops[i]? = some o → i < ops.size := fun {i o} ho => by
    rcases Nat.lt_or_ge i ops.size with h | h
    · exact h
    · rw [Array.getElem?_eq_none h] at ho; cases ho
  have hall : ∀ {listed a w}, Dn ops Post a0 w0 listed a w → cnt listed ops.size = 0 → Q .normal a w := fun {listed a w} h h0 =>
    hend a w h.size h.defers h.on (fun i o d ho hd => h.done i o d ho (cnt_zero h0 i (hlt ho)) hd) h.rest
  intro fuel
  induction fuel with
  | zero =>
    intro listed a w h h0
    refine ⟨?_, hall h h0⟩
    unfold Region.ready
    rw [List.filter_eq_nil_iff]
    intro i hi
    have hi' : i < ops.size := List.mem_range.1 hi
    have := cnt_zero h0 i hi'
    have hls : i < listed.size := by rw [h.lsize]; exact hi'
    simp [hls] at this ⊢
    simp [this]
  | succ fuel ih =>
    intro listed a w h h0
    refine ⟨fun hr => ?_, fun i hi => ?_⟩
    · exfalso
      obtain ⟨i, hi, hf, hlow'⟩ := least (listed := listed) ops.size (by omega)
      have hmem : i ∈ Region.ready .any ops listed := by
        unfold Region.ready
        rw [List.mem_filter]
        refine ⟨List.mem_range.2 hi, ?_⟩
        have hls : i < listed.size := by rw [h.lsize]; exact hi
        have ho : ops[i]? = some ops[i] := by simp [hi]
        rw [ho]
        simp only [Array.getD_eq_getD_getElem?, hls, Array.getElem?_eq_getElem, Option.getD_some] at hf ⊢
        simp only [hf, Bool.not_false, Bool.true_and, Option.map_some, Option.getD_some]
        rw [Array.all_eq_true]
        intro k hk
        by_cases hb : Region.binds .any (ops[i].after[k]) = true
        · have hw : waits ops[i] (ops[i].after[k]).on = true := by
            unfold waits
            rw [Array.any_eq_true]
            exact ⟨k, hk, by simp [hb]⟩
          have := hlow' _ (hlow i _ ho _ hw)
          simp only [Array.getD_eq_getD_getElem?] at this
          simp [this]
        · simp [hb]
      rw [hr] at hmem
      cases hmem
    · unfold Region.ready at hi
      rw [List.mem_filter] at hi
      obtain ⟨hi1, hi2⟩ := hi
      have hi' : i < ops.size := List.mem_range.1 hi1
      have hls : i < listed.size := by rw [h.lsize]; exact hi'
      have ho : ops[i]? = some ops[i] := by simp [hi']
      rw [ho] at hi2
      simp only [Array.getD_eq_getD_getElem?, hls, Array.getElem?_eq_getElem, Option.getD_some, Option.map_some, Bool.and_eq_true, Array.all_eq_true] at hi2
      obtain ⟨hf, hdeps⟩ := hi2
      have hf' : listed.getD i false = false := by simpa [hls] using hf
      obtain ⟨d, hd, hdlt⟩ := hdst i _ ho
      refine wpOp_step ho fun K' hK => ?_
      have S := hstep i _ ho a w h.size (fun j oj dj hw hj hdj => ?_) h.rest h.on K' (fun v w' hp hon => hK _ _ (ih _ _ _ (h.step hinj hmono ho hd hdlt hp hon) ?_))
      · rw [if_pos S.1]; exact S.2
      · unfold waits at hw
        rw [Array.any_eq_true] at hw
        obtain ⟨k, hk, hb⟩ := hw
        simp only [Bool.and_eq_true, beq_iff_eq] at hb
        have := hdeps k hk
        rw [hb.1, hb.2] at this
        exact h.done j oj dj hj (by simpa using this) hdj
      · have := cnt_set hls hf' ops.size
        rw [if_pos hi'] at this
        omega
theorem cnt_replicate (N : Nat) : ∀ n, n ≤ N → cnt (Array.replicate N false) n = n := by
  intro n
  induction n with
  | zero => intro _; rfl
  | succ n ih =>
    intro h
    simp only [cnt]
    rw [ih (by omega)]
    simp [show n < N by omega]
/-- A statement that draws its order, walked once. -/
theorem region_free {id : Nat} (hm : P.follows .mixedOrders = true) (hlow : ∀ (i : Nat) (o : Oper), ops[i]? = some o → ∀ j, waits o j = true → j < i) (hdst : ∀ (i : Nat) (o : Oper), ops[i]? = some o → ∃ d, o.dst = some d ∧ d < a0.tmps.size)
    (hinj : ∀ (i j : Nat) (oi oj : Oper) (d : Tmp), ops[i]? = some oi → ops[j]? = some oj → oi.dst = some d → oj.dst = some d → i = j)
    (hmono : ∀ i v w w', Post i v w → On w0.heap.size w w' → Post i v w') (hstep : ∀ (i : Nat) (o : Oper), ops[i]? = some o → Step P ops Post a0 w0 Q i o)
    (hend : ∀ a w, a.tmps.size = a0.tmps.size → a.defers = a0.defers → On w0.heap.size w0 w → (∀ (i : Nat) (o : Oper) (d : Tmp), ops[i]? = some o → o.dst = some d → Post i (a.tmps.getD d undef) w) →
      (∀ t, (∀ (i : Nat) (o : Oper), ops[i]? = some o → o.dst ≠ some t) → a.tmps.getD t undef = a0.tmps.getD t undef) → Q .normal a w) :
    (Code.region id ops true).wp P Q a0 w0 := by
  refine wp_region_any hm ?_
  refine free_any hlow hdst hinj hmono hstep hend _ _ _ _ ⟨by simp, rfl, rfl, On.of ⟨rfl, rfl, rfl, Nat.le_refl _, fun _ _ _ => rfl⟩, fun i o d ho hl hd => ?_, fun t _ => rfl⟩ (cnt_replicate _ _ (Nat.le_refl _))
  have hi : i < ops.size := by
    rcases Nat.lt_or_ge i ops.size with h | h
    · exact h
    · rw [Array.getElem?_eq_none h] at ho; cases ho
  simp [hi] at hl
end
end Go.Proofs.Ytmfpllogpjlkpaa
