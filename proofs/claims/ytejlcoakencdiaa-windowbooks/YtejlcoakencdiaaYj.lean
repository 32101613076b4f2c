/- A window and a book of it, for WindowBooks. No conditions. -/
import Derived.Test.YtejlcoakencdiaaYo
import Derived.Deep.RegionLaw
namespace Go.Proofs.Ytejlcoakencdiaa
open Go.RowKit Go.Maps
theorem step_c1 {ops : Array Oper} {o : Oper} {a : Act} {w : World} {K : Act → World → Prop} {Q : Exit → Act → World → Prop} {E : Prop} {f : FuncId} {ts : Array TypeId} (hcf : ∀ args w, (callFunc f args).run Try.prog w = .ok (.enter f args) w) (hw : Region.wanted o (yielded ops a.tmps) = true) (x : Operand)
    (ho : o.op = .call { callee := .value (.func f), args := #[x], argTypes := ts }) (hf : a.eval (.func f) = .func (.func f) #[] #[]) (v : Value) (hx : a.eval x = v) (R : Value → World → Prop)
    (HB : Calls Try.prog f #[v] w fun e w' => ∃ r, e = .returned r ∧ R r w') (h : ∀ r w', R r w' → K (a.put o.dst r) w') :
    if Region.wanted o (yielded ops a.tmps) = true then Oper.wp Try.prog o a w K Q else E := by
  rw [if_pos hw]
  refine wp_enter (by rw [exec_call1 a.eval hcf hf ho, hx]) HB ?_
  rintro e w' ⟨r, rfl, hr⟩
  exact ⟨_, rfl, h r w' hr⟩
theorem step_c2 {ops : Array Oper} {o : Oper} {a : Act} {w : World} {K : Act → World → Prop} {Q : Exit → Act → World → Prop} {E : Prop} {f : FuncId} {ts : Array TypeId} (hcf : ∀ args w, (callFunc f args).run Try.prog w = .ok (.enter f args) w) (hw : Region.wanted o (yielded ops a.tmps) = true) (x y : Operand)
    (ho : o.op = .call { callee := .value (.func f), args := #[x, y], argTypes := ts }) (hf : a.eval (.func f) = .func (.func f) #[] #[]) (v u : Value) (hx : a.eval x = v) (hy : a.eval y = u) (R : Value → World → Prop)
    (HB : Calls Try.prog f #[v, u] w fun e w' => ∃ r, e = .returned r ∧ R r w') (h : ∀ r w', R r w' → K (a.put o.dst r) w') :
    if Region.wanted o (yielded ops a.tmps) = true then Oper.wp Try.prog o a w K Q else E := by
  rw [if_pos hw]
  refine wp_enter (by rw [exec_call2 a.eval hcf hf ho, hx, hy]) HB ?_
  rintro e w' ⟨r, rfl, hr⟩
  exact ⟨_, rfl, h r w' hr⟩
theorem EqI_st {u v : Value} {w : World} {a b : List Int} (hu : Cr.Sl w u a) (hv : Cr.Sl w v b) (h : a = b) : Calls Try.prog 22 #[u, v] w fun e w' => ∃ r, e = .returned r ∧ r = .bool true ∧ Mod (fun _ => False) w w' := by
  refine (Cr.EqInts_at true hu hv (decide_eq_true h)).mono ?_
  rintro e w' ⟨rfl, hm⟩
  exact ⟨_, rfl, rfl, hm⟩
theorem Ab_st {w : World} {p : Nat} {X : Nat → Prop} {J : Int → Option Dt} {a h : Int} {n : Nat} (hw : Wn w p X J a h n) (hn : n ≤ 1000000) : Calls Try.prog 17 #[.pointer (some ⟨p, 0, none⟩), .int .i64 0] w fun e w' => ∃ r, e = .returned r ∧ ∃ ds zs, Rd18 w' w.heap.size r ds ∧ Ks J 0 zs ∧ ds.map (·.1.n) = zs ∧ ds.length ≤ 1000000 ∧ Mod (fun _ => False) w w' := by
  refine (Above_w hw hn 0).mono ?_
  rintro e w' ⟨v, ds, zs, rfl, h1, h2, h3, h4, h5⟩
  have hz := h2.nums hw.wp
  rw [← h3, List.map_map] at hz
  exact ⟨v, rfl, ds, zs, h1, h2, hz, by have := congrArg List.length hz; simp at this; omega, h5⟩
theorem numbersOf_st (v : Value) (ds : List (Dt × Value)) (w : World) (hR : RG w 35 18 v ds.length (fd ds)) (hl : ds.length ≤ 1000000) : Calls Try.prog 30 #[v] w fun e w' => ∃ r, e = .returned r ∧ Hid (Cr.Own w' r (ds.map (·.1.n))) ∧ Mod (fun _ => False) w w' := by
  refine (numbersOf_any v ds w hR hl).mono ?_
  rintro e w' ⟨u, rfl, h1, h2, -⟩
  exact ⟨u, rfl, h1, h2⟩
/-- Numbers from 1 to t that are there. -/
def thr (J : Int → Option Dt) : Nat → List Int
  | 0 => []
  | t + 1 => if (J ((t : Int) + 1)).isSome = true then thr J t ++ [(t : Int) + 1] else thr J t
theorem thr_mem {J : Int → Option Dt} : ∀ t : Nat, ∀ x, x ∈ thr J t ↔ (1 ≤ x ∧ x ≤ (t : Int) ∧ (J x).isSome = true)
  | 0, x => by simp [thr]; intros; omega
  | t + 1, x => by
    rw [thr]
    split
    · rename_i h
      rw [List.mem_append, thr_mem t x]
      simp only [List.mem_singleton]
      constructor
      · rintro (⟨a, b, c⟩ | rfl)
        · exact ⟨a, by omega, c⟩
        · exact ⟨by omega, by omega, h⟩
      · rintro ⟨a, b, c⟩
        by_cases e : x = (t : Int) + 1
        · exact .inr e
        · exact .inl ⟨a, by omega, c⟩
    · rename_i h
      rw [thr_mem t x]
      constructor
      · rintro ⟨a, b, c⟩
        exact ⟨a, by omega, c⟩
      · rintro ⟨a, b, c⟩
        by_cases e : x = (t : Int) + 1
        · rw [e] at c; exact absurd c h
        · exact ⟨a, by omega, c⟩
theorem thr_up {J : Int → Option Dt} : ∀ t : Nat, (thr J t).Pairwise (· < ·)
  | 0 => List.Pairwise.nil
  | t + 1 => by
    rw [thr]
    split
    · refine List.pairwise_append.2 ⟨thr_up t, by simp, fun a ha b hb => ?_⟩
      have := (thr_mem t a).1 ha
      simp at hb
      omega
    · exact thr_up t
theorem thr_len {J : Int → Option Dt} : ∀ t : Nat, (thr J t).length ≤ t
  | 0 => Nat.le_refl _
  | t + 1 => by
    rw [thr]
    have := thr_len (J := J) t
    split
    · simp; omega
    · omega
theorem fil_len {J : Int → Option Dt} : ∀ t : Nat, (fil J t).length ≤ t
  | 0 => Nat.le_refl _
  | t + 1 => by
    rw [fil]
    have := fil_len (J := J) t
    split
    · omega
    · simp; omega
theorem thr_ks {J : Int → Option Dt} {a h : Int} (hp : Wp J a h) : Ks J 0 (thr J h.toNat) := ⟨thr_up _, fun x => by
  rw [thr_mem]
  have h0 := hp.high.1
  constructor
  · rintro ⟨q1, q2, q3⟩
    exact ⟨by omega, q3⟩
  · rintro ⟨q1, q2⟩
    have := hp.high.2.2 x q2
    exact ⟨by omega, by omega, q2⟩⟩
theorem fil_mem {J : Int → Option Dt} {x : Int} : ∀ t : Nat, 1 ≤ x → x ≤ (t : Int) → (J x).isSome = false → x ∈ fil J t
  | 0, h1, h2, _ => by omega
  | t + 1, h1, h2, h3 => by
    rw [fil]
    by_cases e : x = (t : Int) + 1
    · rw [e] at h3
      rw [if_neg (by simp [h3])]
      simp [e]
    · have := fil_mem t h1 (by omega) h3
      split
      · exact this
      · exact List.mem_append_left _ this
theorem aru_gaps {J : Int → Option Dt} {a h : Int} (hp : Wp J a h) : (a == h) = ((fil J h.toNat).length == 0) := by
  obtain ⟨a0, a1⟩ := hp.a_le
  by_cases e : a = h
  · rw [fil_all h.toNat fun k q1 q2 => hp.aru.2.1 k q1 (by omega)]
    simp [e]
  · have := fil_mem (J := J) (x := a + 1) h.toNat (by omega) (by omega) (by rw [hp.aru.2.2]; rfl)
    have hl := List.length_pos_of_mem this
    have e2 : (a == h) = false := by simp [e]
    rw [e2]
    symm
    simp only [beq_eq_false_iff_ne, ne_eq]
    omega
theorem Cr.Sl.take {w : World} {ao : Option Addr} {cap : Nat} {l : List Int} (h : Cr.Sl w (.slice ao l.length cap) l) (m : Nat) (hm : m ≤ l.length) : Cr.Sl w (.slice ao m cap) (l.take m) := by
  obtain ⟨a1, c1, e, h1, h2, h3, h4⟩ := h
  cases e
  have hl : (l.take m).length = m := by simp; omega
  refine ⟨ao, cap, by rw [hl], by omega, h2, h3, fun hne => ?_⟩
  obtain ⟨b, off, rfl, hc⟩ := h4 (by rintro rfl; simp at hne)
  refine ⟨b, off, rfl, fun j hj => ?_⟩
  rw [hl] at hj
  rw [hc j (by omega)]
  simp [List.getD, hj]
/-- The book's cells. -/
def bcl (J : Int → Option Dt) : Array Value := ((List.range 62).map fun i : Nat => Value.bool (J (i : Int)).isSome).toArray
theorem bcl_get (J : Int → Option Dt) (i : Nat) (h : i < 62) : (bcl J)[i]? = some (.bool (J (i : Int)).isSome) := by simp [bcl, h]
theorem bcl_set (J : Int → Option Dt) (k : Nat) (h : k < 62) : (bcl J).setIfInBounds k (.bool true) = bcl (pO J (k : Int)) := by
  apply Array.ext
  · simp [bcl]
  · intro i h1 h2
    have hi : i < 62 := by simpa [bcl] using h1
    by_cases e : i = k
    · subst e
      have := (pO_some J (i : Int) (i : Int)).2 (.inr rfl)
      simp [bcl, this]
    · have : ((pO J (k : Int)) (i : Int)).isSome = (J (i : Int)).isSome := by
        have := pO_some J (k : Int) (i : Int)
        have e' : ¬ (i : Int) = (k : Int) := by omega
        cases h1 : ((pO J (k : Int)) (i : Int)).isSome <;> cases h2 : (J (i : Int)).isSome <;> simp_all
      rw [Array.getElem_setIfInBounds_ne (by simpa [bcl] using h1) (by omega)]
      simp [bcl, this]
/-- A window and the book of it. -/
structure Bo (w0 w : World) (p bk : Nat) (J : Int → Option Dt) (a h : Int) (n : Nat) : Prop where
  ex : ∃ X, Wn w p X J a h n ∧ (∀ i, X i → w0.heap.size ≤ i) ∧ ¬ X bk
  row : Bk w bk 59 (bcl J)
  nw : w0.heap.size ≤ bk
  mod : Mod (fun _ => False) w0 w
  h60 : 0 ≤ h ∧ h ≤ 60
  isOn : ∀ k d, J k = some d → d = on k
theorem Bo.keep {w0 w w' : World} {p bk : Nat} {J : Int → Option Dt} {a h : Int} {n : Nat} (hb : Bo w0 w p bk J a h n) (hm : Mod (fun _ => False) w w') : Bo w0 w' p bk J a h n := by
  obtain ⟨X, h1, h2, h3⟩ := hb.ex
  exact ⟨⟨X, h1.keep hm, h2, h3⟩, hb.row.mod hm (fun h => h), hb.nw, hb.mod.and hm, hb.h60, hb.isOn⟩
theorem pO_on {J : Int → Option Dt} (h : ∀ k d, J k = some d → d = on k) (z : Int) : ∀ k d, (pO J z) k = some d → d = on k := fun k d hd => by
  unfold pO at hd
  split at hd
  · exact h k d hd
  · by_cases e : k = z
    · rw [e, upd_same] at hd
      cases hd
      rw [e]
    · rw [upd_other J _ e] at hd
      exact h k d hd
/-- Behind Put: the window is on, the book is not yet. -/
structure Bp (w0 w : World) (p bk : Nat) (J : Int → Option Dt) (k a h : Int) (n : Nat) : Prop where
  ex : ∃ X, Wn w p X (pO J k) a (max h k) (n + 1) ∧ (∀ i, X i → w0.heap.size ≤ i) ∧ ¬ X bk
  row : Bk w bk 59 (bcl J)
  mod : Mod (fun _ => False) w0 w
theorem Bo.put {w0 w : World} {p bk : Nat} {J : Int → Option Dt} {a h : Int} {n : Nat} (hb : Bo w0 w p bk J a h n) (k : Int) (hk : 1 ≤ k ∧ k ≤ 9007199254740991) (hN : n < 1000000000000) :
    Calls Try.prog 12 #[.pointer (some ⟨p, 0, none⟩), dv (on k) (.slice none 0 0)] w fun e w' => ∃ a', e = .returned (.tuple #[.bool !(J k).isSome, .int .i64 0]) ∧ Bp w0 w' p bk J k a' h n ∧ a ≤ a' := by
  obtain ⟨X, h1, h2, h3⟩ := hb.ex
  refine (Put_on h1 k hk hN).mono ?_
  rintro e w' ⟨X', a', rfl, g1, g2, g3, g4⟩
  refine ⟨a', rfl, ⟨⟨X', g1, fun i hx => ?_, fun hx => ?_⟩, hb.row.mod g3 h3, hb.mod.trans g3 (fun _ _ h => h) (fun i hi hx => by have := h2 i hx; omega)⟩, g2⟩
  · rcases g4 i hx with hx | hx
    · exact h2 i hx
    · have := hb.mod.size; omega
  · rcases g4 bk hx with hx | hx
    · exact h3 hx
    · have := hb.row.lt; omega
theorem Bp.book {w0 w : World} {p bk k : Nat} {J : Int → Option Dt} {a h : Int} {n : Nat} (hb : Bp w0 w p bk J (k : Int) a h n) (hk : 1 ≤ k ∧ k ≤ 60) (hn : w0.heap.size ≤ bk) (h60 : 0 ≤ h ∧ h ≤ 60) (hon : ∀ k d, J k = some d → d = on k) : Bo w0 (w.setCell ⟨bk, k, none⟩ (.bool true)) p bk (pO J (k : Int)) a (max h (k : Int)) (n + 1) := by
  obtain ⟨X, h1, h2, h3⟩ := hb.ex
  have hm := (Mod.refl (fun i => i = bk) w).setCell ⟨bk, k, none⟩ (.bool true) (.inl rfl)
  refine ⟨⟨X, h1.mod hm (fun i hi e => h3 (e ▸ hi)), h2, h3⟩, ?_, hn, hb.mod.trans hm (fun _ _ h => h) (fun i hi e => by omega), by omega, pO_on hon _⟩
  rw [← bcl_set J k (by omega)]
  exact hb.row.set k (.bool true)
theorem Bo.see {w0 w : World} {p bk : Nat} {J : Int → Option Dt} {a h : Int} {n : Nat} (hb : Bo w0 w p bk J a h n) (k : Int) (hk : 1 ≤ k ∧ k ≤ 60) :
    Calls Try.prog 9 #[.pointer (some ⟨p, 0, none⟩), .int .i64 k] w fun e w' => e = .returned (.int .i64 0) ∧ Bo w0 w' p bk J a (max h k) (n + 1) := by
  obtain ⟨X, h1, h2, h3⟩ := hb.ex
  refine (See_ok h1 k (by omega)).mono ?_
  rintro e w' ⟨rfl, g1, g2⟩
  have := hb.h60
  exact ⟨rfl, ⟨X, g1.le (by omega), h2, h3⟩, hb.row.mod g2 h3, hb.nw, hb.mod.trans g2 (fun _ _ h => h) (fun i hi hx => by have := h2 i hx; omega), by omega, hb.isOn⟩
/-- Behind both ways. -/
structure Bif (w0 w : World) (p bk : Nat) (a h : Int) (n : Nat) : Prop where
  ex : ∃ J' a', Bo w0 w p bk J' a' h n ∧ a ≤ a'
end Go.Proofs.Ytejlcoakencdiaa
