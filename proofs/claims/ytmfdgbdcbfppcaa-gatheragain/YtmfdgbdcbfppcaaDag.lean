/- GatherAgain: a join heard again changes nothing; the order of unlike senders' last joins makes no difference; of any node and joins brought to what may be. No conditions. -/
import Derived.Test.YtmfdgbdcbfppcaaDj
namespace Go.Proofs.Ytmfdgbdcbfppcaa
open Go.RowKit
/-- The last joins as a gathering of node n would have them; of those that P tells. -/
def tg (n : Int) (F : Nat → J3) (k : Int) : Option Jo := if 1 ≤ k ∧ k ≤ 8 ∧ 0 < (F k.toNat).s ∧ k ≠ n then some ⟨(F k.toNat).p, (F k.toNat).c⟩ else none
def Js (n : Int) (F : Nat → J3) (P : Int → Bool) (k : Int) : Option Jo := if P k then tg n F k else none
/-- An array of last joins. -/
def Vf (F : Nat → J3) : Prop := ∀ i, i < 9 → F i = z3 ∨ (1 ≤ i ∧ (F i).s = i ∧ mb (F i).s (F i).p (F i).c = true ∧ I64 (F i).p)
/-- g is the greatest counter. -/
structure Tp (J : Int → Option Jo) (g : Int) : Prop where
  le : ∀ k j, J k = some j → j.c ≤ g
  pos : 0 ≤ g
  is : g = 0 ∨ ∃ k j, J k = some j ∧ j.c = g
theorem Tp.uniq {J : Int → Option Jo} {g g' : Int} (h : Tp J g) (h' : Tp J g') : g = g' := by
  have l1 : g ≤ g' := by
    rcases h.is with e | ⟨k, j, hj, e⟩
    · have := h'.pos; omega
    · have := h'.le k j hj; omega
  have l2 : g' ≤ g := by
    rcases h'.is with e | ⟨k, j, hj, e⟩
    · have := h.pos; omega
    · have := h.le k j hj; omega
  omega
theorem Tp.emp : Tp (fun _ => none) 0 := ⟨by simp, by omega, .inl rfl⟩
theorem Tp.put {J : Int → Option Jo} {g s p c : Int} (h : Tp J g) (hJ : J s = none) (hc : 0 ≤ c) : Tp (upd J s (some ⟨p, c⟩)) (max g c) := by
  refine ⟨fun k j hj => ?_, by have := h.pos; omega, ?_⟩
  · by_cases e : k = s
    · subst e; rw [upd_same] at hj; cases hj; show c ≤ _; omega
    · rw [upd_other _ _ e] at hj; have := h.le k j hj; omega
  · by_cases hgc : g ≤ c
    · right
      exact ⟨s, ⟨p, c⟩, upd_same _ _ _, by show c = _; omega⟩
    · rcases h.is with e | ⟨k, j, hj, e⟩
      · have := h.pos; omega
      · right
        have hks : k ≠ s := by rintro rfl; rw [hJ] at hj; cases hj
        exact ⟨k, j, by rw [upd_other _ _ hks]; exact hj, by omega⟩
theorem Js_empty (n : Int) (F : Nat → J3) (P : Int → Bool) (h : ∀ k, 1 ≤ k → k ≤ 8 → P k = false) : Js n F P = fun _ => none := by
  funext k
  unfold Js tg
  by_cases hk : 1 ≤ k ∧ k ≤ 8
  · rw [h k hk.1 hk.2]; rfl
  · split
    · rw [if_neg (by rintro ⟨a, b, _⟩; exact hk ⟨a, b⟩)]
    · rfl
theorem Js_ext (n : Int) (F : Nat → J3) (P Q : Int → Bool) (h : ∀ k, 1 ≤ k → k ≤ 8 → P k = Q k) : Js n F P = Js n F Q := by
  funext k
  unfold Js tg
  by_cases hk : 1 ≤ k ∧ k ≤ 8
  · rw [h k hk.1 hk.2]
  · rw [if_neg (show ¬ (1 ≤ k ∧ k ≤ 8 ∧ 0 < (F k.toNat).s ∧ k ≠ n) by rintro ⟨a, b, _⟩; exact hk ⟨a, b⟩)]
    split <;> split <;> rfl
/-- One more that is not there. -/
theorem Js_skip (n : Int) (F : Nat → J3) (P : Int → Bool) (i : Nat) (hz : F i = z3) : Js n F (fun k => P k || decide (k = i)) = Js n F P := by
  funext k
  unfold Js tg
  by_cases e : k = i
  · subst e
    rw [if_neg (show ¬ (1 ≤ (i : Int) ∧ (i : Int) ≤ 8 ∧ 0 < (F (i : Int).toNat).s ∧ (i : Int) ≠ n) by rw [Int.toNat_natCast, hz]; simp [z3])]
    split <;> split <;> rfl
  · simp [e]
/-- One more. -/
theorem Js_step {n : Int} {F : Nat → J3} {P : Int → Bool} {i : Nat} (hi : 1 ≤ i ∧ i ≤ 8) (hs : (F i).s = i) (hmb : mb (i : Int) (F i).p (F i).c = true) : hJ n (Js n F P) i (F i).p (F i).c = Js n F (fun k => P k || decide (k = i)) := by
  unfold hJ
  rw [hmb, Bool.true_and]
  funext k
  by_cases hn : (i : Int) = n
  · rw [if_neg (by simp [hn])]
    unfold Js tg
    by_cases e : k = i
    · have : ¬ (1 ≤ k ∧ k ≤ 8 ∧ 0 < (F k.toNat).s ∧ k ≠ n) := by rintro ⟨_, _, _, h⟩; exact h (e.trans hn)
      rw [if_neg this]
      split <;> split <;> rfl
    · simp [e]
  · rw [if_pos (by simp [hn])]
    by_cases e : k = i
    · subst e
      rw [upd_same]
      unfold Js tg
      simp only [decide_true, Bool.or_true, if_true, Int.toNat_natCast]
      rw [if_pos ⟨by omega, by omega, by rw [hs]; omega, hn⟩]
    · rw [upd_other _ _ e]
      unfold Js
      simp [e]
theorem Tp.step {n g : Int} {F : Nat → J3} {P : Int → Bool} {i : Nat} (h : Tp (Js n F P) g) (hi : 1 ≤ i ∧ i ≤ 8) (hs : (F i).s = i) (hmb : mb (i : Int) (F i).p (F i).c = true) (hP : P i = false) : Tp (Js n F (fun k => P k || decide (k = i))) (hG n g i (F i).p (F i).c) := by
  rw [← Js_step (n := n) (P := P) hi hs hmb]
  unfold hJ hG
  split
  · exact h.put (by unfold Js; rw [hP]; rfl) (mb_true hmb).2.2.1
  · exact h
theorem hv_range {n : Int} {J : Int → Option Jo} {s q k : Int} (h : mb s q k = true) : 0 ≤ hv n J s q k ∧ hv n J s q k ≤ 3 := by
  unfold hv
  rw [show h3 s q k = 0 by simp [h3, h]]
  split <;> split <;> omega
theorem again_hv {n : Int} {F : Nat → J3} {P : Int → Bool} {i : Nat} (hi : 1 ≤ i ∧ i ≤ 8) (hs : (F i).s = i) (hmb : mb (i : Int) (F i).p (F i).c = true) : hv n (Js n F (fun k => P k || decide (k = i))) i (F i).p (F i).c = 0 := by
  unfold hv h1 h2
  rw [show h3 (i : Int) (F i).p (F i).c = 0 by simp [h3, hmb], hmb]
  by_cases hn : (i : Int) = n
  · simp [hn]
  · have : Js n F (fun k => P k || decide (k = i)) i = some ⟨(F i).p, (F i).c⟩ := by
      unfold Js tg
      simp only [decide_true, Bool.or_true, if_true, Int.toNat_natCast]
      rw [if_pos ⟨by omega, by omega, by rw [hs]; omega, hn⟩]
    rw [this]
    simp [ch]
theorem again_hJ {n : Int} {F : Nat → J3} {P : Int → Bool} {i : Nat} (hi : 1 ≤ i ∧ i ≤ 8) (hs : (F i).s = i) (hmb : mb (i : Int) (F i).p (F i).c = true) : hJ n (Js n F (fun k => P k || decide (k = i))) i (F i).p (F i).c = Js n F (fun k => P k || decide (k = i)) := by
  rw [Js_step hi hs hmb]
  exact Js_ext n F _ _ fun k _ _ => by cases P k <;> simp
theorem again_hG {n g : Int} {F : Nat → J3} {P : Int → Bool} {i : Nat} (h : Tp (Js n F (fun k => P k || decide (k = i))) g) (hi : 1 ≤ i ∧ i ≤ 8) (hs : (F i).s = i) (hmb : mb (i : Int) (F i).p (F i).c = true) : hG n g i (F i).p (F i).c = g := by
  unfold hG
  by_cases hn : (i : Int) = n
  · simp [hn]
  · have : Js n F (fun k => P k || decide (k = i)) i = some ⟨(F i).p, (F i).c⟩ := by
      unfold Js tg
      simp only [decide_true, Bool.or_true, if_true, Int.toNat_natCast]
      rw [if_pos ⟨by omega, by omega, by rw [hs]; omega, hn⟩]
    have hl := h.le _ _ this
    have hl' : (F i).c ≤ g := hl
    rw [hmb]
    simp [hn]
    omega
/-- Two gatherings and the array, apart. -/
structure As (w0 w : World) (pa : Nat) (Xa : Nat → Prop) (pb : Nat) (Xb : Nat → Prop) (q : Nat) (n ga gb : Int) (Ja Jb : Int → Option Jo) (F : Nat → J3) : Prop where
  a : Ga w pa Xa n 0 ga Ja
  b : Ga w pb Xb n 0 gb Jb
  arr : Aj w q 44 9 F
  new : ∀ i, Xa i ∨ Xb i → w0.heap.size ≤ i
  ab : ∀ i, Xa i → ¬ Xb i
  aq : ¬ Xa q
  bq : ¬ Xb q
  mod : Mod (fun _ => False) w0 w
section
variable {w0 w : World} {pa : Nat} {Xa : Nat → Prop} {pb : Nat} {Xb : Nat → Prop} {q : Nat} {n ga gb : Int} {Ja Jb : Int → Option Jo} {F : Nat → J3}
theorem As.keep {w' : World} (h : As w0 w pa Xa pb Xb q n ga gb Ja Jb F) (hm : Mod (fun _ => False) w w') : As w0 w' pa Xa pb Xb q n ga gb Ja Jb F :=
  ⟨h.a.keep hm, h.b.keep hm, h.arr.mod hm (fun h => h), h.new, h.ab, h.aq, h.bq, h.mod.and hm⟩
theorem as_ha (h : As w0 w pa Xa pb Xb q n ga gb Ja Jb F) (s p c : Int) (hp : I64 p) : Calls Try.prog 23 #[.pointer (some ⟨pa, 0, none⟩), jv s p c] w fun e w' => e = .returned (.int .i64 (hv n Ja s p c)) ∧ As w0 w' pa Xa pb Xb q n (hG n ga s p c) gb (hJ n Ja s p c) Jb F := by
  refine hears_post (h3_two s p c) (R := fun w' => As w0 w' pa Xa pb Xb q n (hG n ga s p c) gb (hJ n Ja s p c) Jb F) fun W hm => ?_
  have hk := h.keep hm
  refine (Hear_any hk.a s p c hp).mono ?_
  rintro e w' ⟨rfl, hg, hm2⟩
  exact ⟨rfl, hg, hk.b.mod hm2 (fun i hi hx => h.ab i hx hi), hk.arr.mod hm2 h.aq, h.new, h.ab, h.aq, h.bq, hk.mod.trans hm2 (V := fun _ => False) (fun _ _ h => h) (fun i hi hx => by have := h.new i (.inl hx); omega)⟩
theorem as_hb (h : As w0 w pa Xa pb Xb q n ga gb Ja Jb F) (s p c : Int) (hp : I64 p) : Calls Try.prog 23 #[.pointer (some ⟨pb, 0, none⟩), jv s p c] w fun e w' => e = .returned (.int .i64 (hv n Jb s p c)) ∧ As w0 w' pa Xa pb Xb q n ga (hG n gb s p c) Ja (hJ n Jb s p c) F := by
  refine hears_post (h3_two s p c) (R := fun w' => As w0 w' pa Xa pb Xb q n ga (hG n gb s p c) Ja (hJ n Jb s p c) F) fun W hm => ?_
  have hk := h.keep hm
  refine (Hear_any hk.b s p c hp).mono ?_
  rintro e w' ⟨rfl, hg, hm2⟩
  exact ⟨rfl, hk.a.mod hm2 (fun i hi hx => h.ab i hi hx), hg, hk.arr.mod hm2 h.bq, h.new, h.ab, h.aq, h.bq, hk.mod.trans hm2 (V := fun _ => False) (fun _ _ h => h) (fun i hi hx => by have := h.new i (.inr hx); omega)⟩
end
/-- .. ahead of the next ones, ma and 9 - mb. -/
structure Sg (w0 w : World) (pa : Nat) (Xa : Nat → Prop) (pb : Nat) (Xb : Nat → Prop) (q : Nat) (n : Int) (ma m : Nat) (ga gb : Int) (F : Nat → J3) : Prop where
  pr : As w0 w pa Xa pb Xb q n ga gb (Js n F (fun k => decide (k < (ma : Int)))) (Js n F (fun k => decide (9 - (m : Int) < k))) F
  ta : Tp (Js n F (fun k => decide (k < (ma : Int)))) ga
  tb : Tp (Js n F (fun k => decide (9 - (m : Int) < k))) gb
theorem Js_pa (n : Int) (F : Nat → J3) (m : Nat) : Js n F (fun k => decide (k < ((m + 1 : Nat) : Int))) = Js n F (fun k => decide (k < (m : Int)) || decide (k = (m : Int))) := Js_ext _ _ _ _ fun k _ _ => by
  by_cases h1 : k < (m : Int) <;> by_cases h2 : k = (m : Int) <;> simp [h1, h2] <;> omega
theorem Js_pb (n : Int) (F : Nat → J3) (m m2 : Nat) (h : m2 + m = 9) : Js n F (fun k => decide (9 - ((m + 1 : Nat) : Int) < k)) = Js n F (fun k => decide (9 - (m : Int) < k) || decide (k = (m2 : Int))) := Js_ext _ _ _ _ fun k _ _ => by
  by_cases h1 : 9 - (m : Int) < k <;> by_cases h2 : k = (m2 : Int) <;> simp [h1, h2] <;> omega
section
variable {w0 w : World} {pa : Nat} {Xa : Nat → Prop} {pb : Nat} {Xb : Nat → Prop} {q : Nat} {n ga gb : Int} {F : Nat → J3} {ma m : Nat}
theorem Sg.keep {w' : World} (h : Sg w0 w pa Xa pb Xb q n ma m ga gb F) (hm : Mod (fun _ => False) w w') : Sg w0 w' pa Xa pb Xb q n ma m ga gb F := ⟨h.pr.keep hm, h.ta, h.tb⟩
theorem Sg.skip_a (h : Sg w0 w pa Xa pb Xb q n ma m ga gb F) (hz : F ma = z3) : Sg w0 w pa Xa pb Xb q n (ma + 1) m ga gb F := by
  have e := (Js_pa n F ma).trans (Js_skip n F _ ma hz)
  exact ⟨by rw [e]; exact h.pr, by rw [e]; exact h.ta, h.tb⟩
theorem Sg.skip_b (h : Sg w0 w pa Xa pb Xb q n ma m ga gb F) {m2 : Nat} (h9 : m2 + m = 9) (hz : F m2 = z3) : Sg w0 w pa Xa pb Xb q n ma (m + 1) ga gb F := by
  have e := (Js_pb n F m m2 h9).trans (Js_skip n F _ m2 hz)
  exact ⟨by rw [e]; exact h.pr, h.ta, by rw [e]; exact h.tb⟩
theorem sg_ha (h : Sg w0 w pa Xa pb Xb q n ma m ga gb F) (hi : 1 ≤ ma ∧ ma ≤ 8) (hs : (F ma).s = ma) (hmb : mb (ma : Int) (F ma).p (F ma).c = true) (hp : I64 (F ma).p) : Calls Try.prog 23 #[.pointer (some ⟨pa, 0, none⟩), jv ma (F ma).p (F ma).c] w fun e w' => ∃ r ga', e = .returned (.int .i64 r) ∧ r < 10 ∧ Sg w0 w' pa Xa pb Xb q n (ma + 1) m ga' gb F := by
  refine (as_ha h.pr ma (F ma).p (F ma).c hp).mono ?_
  rintro e w' ⟨rfl, h'⟩
  have e1 := Js_step (n := n) (P := fun k => decide (k < (ma : Int))) hi hs hmb
  have e2 := Js_pa n F ma
  have ht := h.ta.step hi hs hmb (by simp)
  rw [e1, ← e2] at h'
  rw [← e2] at ht
  exact ⟨_, _, rfl, by have := (hv_range (n := n) (J := Js n F (fun k => decide (k < (ma : Int)))) hmb).2; omega, h', ht, h.tb⟩
theorem sg_hb (h : Sg w0 w pa Xa pb Xb q n ma m ga gb F) {m2 : Nat} (h9 : m2 + m = 9) (hi : 1 ≤ m2 ∧ m2 ≤ 8) (hs : (F m2).s = m2) (hmb : mb (m2 : Int) (F m2).p (F m2).c = true) (hp : I64 (F m2).p) : Calls Try.prog 23 #[.pointer (some ⟨pb, 0, none⟩), jv m2 (F m2).p (F m2).c] w fun e w' => ∃ r gb', e = .returned (.int .i64 r) ∧ r < 10 ∧ Sg w0 w' pa Xa pb Xb q n ma (m + 1) ga gb' F := by
  refine (as_hb h.pr m2 (F m2).p (F m2).c hp).mono ?_
  rintro e w' ⟨rfl, h'⟩
  have e1 := Js_step (n := n) (P := fun k => decide (9 - (m : Int) < k)) hi hs hmb
  have e2 := Js_pb n F m m2 h9
  have ht := h.tb.step hi hs hmb (by simp; omega)
  rw [e1, ← e2] at h'
  rw [← e2] at ht
  exact ⟨_, _, rfl, by have := (hv_range (n := n) (J := Js n F (fun k => decide (9 - (m : Int) < k))) hmb).2; omega, h', h.ta, ht⟩
theorem sg_again (h : Sg w0 w pa Xa pb Xb q n (ma + 1) m ga gb F) (hi : 1 ≤ ma ∧ ma ≤ 8) (hs : (F ma).s = ma) (hmb : mb (ma : Int) (F ma).p (F ma).c = true) (hp : I64 (F ma).p) : Calls Try.prog 23 #[.pointer (some ⟨pa, 0, none⟩), jv ma (F ma).p (F ma).c] w fun e w' => e = .returned (.int .i64 0) ∧ Sg w0 w' pa Xa pb Xb q n (ma + 1) m ga gb F := by
  refine (as_ha h.pr ma (F ma).p (F ma).c hp).mono ?_
  rintro e w' ⟨rfl, h'⟩
  have e2 := Js_pa n F ma
  have hta := h.ta
  rw [e2] at hta
  have e3 := again_hv (n := n) (P := fun k => decide (k < (ma : Int))) hi hs hmb
  have e4 := again_hJ (n := n) (P := fun k => decide (k < (ma : Int))) hi hs hmb
  have e5 := again_hG hta hi hs hmb
  rw [e2, e4, e5, ← e2] at h'
  rw [e2, e3]
  exact ⟨rfl, h', h.ta, h.tb⟩
end
set_option maxRecDepth 100000 in
set_option maxHeartbeats 20000000 in
theorem again_walk (a0 : Int) (ha : I64 a0) (v : Value) (B : List J3) (w : World) (hs : Ji w v B) : Calls Try.prog 6 #[.int .i64 a0, v] w fun e w' => e = .returned (.bool true) ∧ Mod (fun _ => False) w w' := by
  have HS : Hid (Ji w v B) := hs
  obtain ⟨ao, cap, rfl, hlen⟩ := hs.shape
  have HLEN : Hid (B.length ≤ 9223372036854775807) := (show _ ≤ _ by have := hlen; unfold maxLen at this; omega)
  have HBR : Hid (∀ W, Calls Try.prog 19 #[.int .i64 a0, .int .i64 8] W fun e w' => e = .returned (.int .i64 (br a0 8)) ∧ w' = W) := fun W => bring a0 8 W (by decide) (by decide) ha
  have hb8 : 0 ≤ br a0 8 ∧ br a0 8 < 8 := ⟨(br_rng a0 8 (by decide)).1, (br_rng a0 8 (by decide)).2.1⟩
  generalize br a0 8 = b8 at *
  clear hs ha
  go_enter Try.func6, Try.ntmps6
  go_wp2_with (fail)
  refine (works_any w).mono ?_
  rintro e w1 ⟨rfl, hm1⟩
  have HM1 : Hid (Mod (fun _ => False) w w1) := hm1
  clear hm1
  go_wp2_with (fail)
  refine (HBR.out _).mono ?_
  rintro e w1 ⟨rfl, rfl⟩
  clear HBR
  have hn1 : 1 ≤ 1 + b8 := by omega
  have hn8 : 1 + b8 ≤ 8 := by omega
  have HOK : Hid (okN (1 + b8) 0 = true) := (show _ = _ by simp [okN]; omega)
  go_wp2_with (fail)
  have HF0 : Hid (Aj (w1.alloc (.cells #[.int .i64 0, .int .i64 0, .int .i64 0, .int .i64 0, .int .i64 0, .int .i64 0, .int .i64 0, .int .i64 0, .int .i64 0, .int .i64 0, .int .i64 0, .int .i64 0, .int .i64 0, .int .i64 0, .int .i64 0, .int .i64 0, .int .i64 0, .int .i64 0, .int .i64 0, .int .i64 0, .int .i64 0, .int .i64 0, .int .i64 0, .int .i64 0, .int .i64 0, .int .i64 0, .int .i64 0] 44)) w1.heap.size 44 9 (fun _ => z3)) := Aj.new _ _ _ _ rfl
  have HM2 : Hid (Mod (fun _ => False) w (w1.alloc (.cells #[.int .i64 0, .int .i64 0, .int .i64 0, .int .i64 0, .int .i64 0, .int .i64 0, .int .i64 0, .int .i64 0, .int .i64 0, .int .i64 0, .int .i64 0, .int .i64 0, .int .i64 0, .int .i64 0, .int .i64 0, .int .i64 0, .int .i64 0, .int .i64 0, .int .i64 0, .int .i64 0, .int .i64 0, .int .i64 0, .int .i64 0, .int .i64 0, .int .i64 0, .int .i64 0, .int .i64 0] 44))) := HM1.out.alloc _
  have HQ : Hid (w.heap.size ≤ w1.heap.size) := HM1.out.size
  generalize w1.heap.size = q at *
  generalize w1.alloc (.cells #[.int .i64 0, .int .i64 0, .int .i64 0, .int .i64 0, .int .i64 0, .int .i64 0, .int .i64 0, .int .i64 0, .int .i64 0, .int .i64 0, .int .i64 0, .int .i64 0, .int .i64 0, .int .i64 0, .int .i64 0, .int .i64 0, .int .i64 0, .int .i64 0, .int .i64 0, .int .i64 0, .int .i64 0, .int .i64 0, .int .i64 0, .int .i64 0, .int .i64 0, .int .i64 0, .int .i64 0] 44) = w2 at *
  clear HM1
  go_loopw [6] (fun i wr => ∃ (k : Nat) (F : Nat → J3), i = .int .i64 (k : Int) ∧ k ≤ B.length ∧ Hid (Aj wr q 44 9 F ∧ Vf F) ∧ Hid (Mod (fun _ => False) w wr)) (fun i _ => B.length - (intOf i).toNat)
  case atStart => exact ⟨0, fun _ => z3, rfl, Nat.zero_le _, ⟨HF0.out, fun _ _ => .inl rfl⟩, HM2⟩
  case round =>
    clear HF0 HM2
    obtain ⟨k, F, rfl, hk, hF, hM⟩ := hrel
    by_cases hkB : k < B.length
    · have hki : (k : Int) < (B.length : Int) := by omega
      obtain ⟨x, hx⟩ : ∃ x, B[k]? = some x := ⟨_, List.getElem?_eq_getElem hkB⟩
      obtain ⟨b, off, eao, hc⟩ := HS.out.at hx
      have hxi := HS.out.i64 hx
      subst eao
      obtain ⟨d0, d1, d2⟩ := hc wr hM.out
      have CM := may_w x.s x.p x.c hxi.1 hxi.2.2 wr
      have hmr := ms_rng x.s
      have HQI : Hid (I64 (mq x.s x.p : Int)) := mq_i64 x.s x.p
      have HMB : Hid (mb (ms x.s) (mq x.s x.p) (mk x.c) = true) := mb_may x.s x.p x.c
      obtain ⟨m, em⟩ : ∃ m : Nat, ms x.s = m := ⟨(ms x.s).toNat, by omega⟩
      rw [em] at CM hmr HMB
      have hm8 : m < 9 := by omega
      have hm9 : (m : Int) < 9 := by omega
      have HM1' : Hid (1 ≤ m) := (show _ ≤ _ by omega)
      generalize (mq x.s x.p : Int) = p at *
      generalize mk x.c = kk at *
      unfold jv at CM
      have HK : Hid (k < B.length) := hkB
      have hk63 : k < 9223372036854775807 := by have := HLEN.out; omega
      clear hc hxi hx hmr em
      go_wp2_with (fail)
      refine CM.mono ?_
      rintro e w3 ⟨rfl, hm3⟩
      have hA3 := hm3.alloc (.cells #[.int .i64 (m : Int), .int .i64 p, .int .i64 kk] 34)
      have HA4 : Hid (Aj _ q 44 9 F) := hF.out.1.mod hA3 (fun h => h)
      have HM4 : Hid (Mod (fun _ => False) w _) := hM.out.and hA3
      have y0 := HA4.out.cell0 hm8
      have y1 := HA4.out.cell1 hm8
      have y2 := HA4.out.cell2 hm8
      have g0 := HA4.out.frz (m * 3)
      have g1 := HA4.out.frz (m * 3 + 1)
      have g2 := HA4.out.frz (m * 3 + 2)
      have HS5 : Hid _ := HA4.out.store hm8 ⟨(m : Int), p, kk⟩
      have HM5 : Hid _ := HM4.out.trans (Aj.stored q m ⟨(m : Int), p, kk⟩ _) (V := fun _ => False) (fun _ _ h => h) (fun i hi h => by have := HQ.out; omega)
      have HV5 : Hid (Vf (fun j => if j = m then ⟨(m : Int), p, kk⟩ else F j)) := (show Vf _ from fun i hi => by
        by_cases e : i = m
        · right
          subst e
          simp only [if_true]
          exact ⟨HM1'.out, by trivial, HMB.out, HQI.out⟩
        · simp only [if_neg e]
          exact hF.out.2 i hi)
      clear CM hF hM d0 d1 d2 hm3 hA3 HA4 HM4 HMB HQI
      go_wp2_with (fail)
      go_roundw
      case rel => exact ⟨k + 1, _, by go_num, HK.out, ⟨HS5.out, HV5.out⟩, HM5⟩
      case measure => have := HK.out; simp [intOf]; omega
    · have hki : ¬ (k : Int) < (B.length : Int) := by omega
      go_wp2_with (fail)
      refine (New_ok (1 + b8) 0 HOK.out wr).mono ?_
      rintro e w3 ⟨pa, Xa, rfl, ga, na, hm3⟩
      go_wp2_with (fail)
      refine (New_ok (1 + b8) 0 HOK.out w3).mono ?_
      rintro e w4 ⟨pb, Xb, rfl, gb, nb, hm4⟩
      have HAS : Hid (As w w4 pa Xa pb Xb q (1 + b8) 0 0 (fun _ => none) (fun _ => none) F) := ⟨ga.keep hm4, gb, (hF.out.1.mod hm3 (fun h => h)).mod hm4 (fun h => h), by
        have := hM.out.size; have := hm3.size
        rintro i (hi | hi)
        · have := na i hi; omega
        · have := nb i hi; omega, fun i hi hx => by have := ga.lt i hi; have := nb i hx; omega, fun hi => by have := na q hi; have := hF.out.1.lt; omega, fun hi => by have := nb q hi; have := hF.out.1.lt; have := hm3.size; omega, (hM.out.and hm3).and hm4⟩
      have HV : Hid (Vf F) := hF.out.2
      clear ga gb na nb hm3 hm4 hF hM
      go_wp2_with (fail)
      go_loopw [12] (fun i wr => ∃ (m : Nat) (ga gb : Int), i = .int .i64 (m : Int) ∧ 1 ≤ m ∧ m ≤ 9 ∧ Hid (Sg w wr pa Xa pb Xb q (1 + b8) m m ga gb F)) (fun i _ => 9 - (intOf i).toNat)
      case atStart =>
        refine ⟨1, 0, 0, rfl, by omega, by omega, (show Sg _ _ _ _ _ _ _ _ _ _ _ _ _ from ?_)⟩
        have e1 : Js (1 + b8) F (fun k => decide (k < ((1 : Nat) : Int))) = fun _ => none := Js_empty _ _ _ fun k h1 _ => by simp; omega
        have e2 : Js (1 + b8) F (fun k => decide (9 - ((1 : Nat) : Int) < k)) = fun _ => none := Js_empty _ _ _ fun k _ h8 => by simp; omega
        exact ⟨by rw [e1, e2]; exact HAS.out, by rw [e1]; exact Tp.emp, by rw [e2]; exact Tp.emp⟩
      case round =>
        clear HAS
        obtain ⟨m, ga, gb, rfl, hm1, hm9, HH⟩ := hrel
        by_cases hm : m < 9
        · have hmi : (m : Int) ≤ 8 := by omega
          have hmi9 : (m : Int) < 9 := by omega
          have hm0 : (0 : Int) < (m : Int) := by omega
          obtain ⟨m2, em2⟩ : ∃ m2 : Nat, m2 = 9 - m := ⟨_, rfl⟩
          have hm2 : 9 - (m : Int) = (m2 : Int) := by omega
          have hm29 : (m2 : Int) < 9 := by omega
          have hm20 : (0 : Int) < (m2 : Int) := by omega
          have hN29 : m2 < 9 := by omega
          have hN9 : m < 9 := hm
          have HI : Hid ((1 ≤ m ∧ m ≤ 8) ∧ (1 ≤ m2 ∧ m2 ≤ 8) ∧ m2 + m = 9) := (show _ ∧ _ by omega)
          have HG : Hid (Sg w wr pa Xa pb Xb q (1 + b8) m m ga gb F) := HH
          have hvx : F m = z3 ∨ (1 ≤ m ∧ (F m).s = m ∧ mb (m : Int) (F m).p (F m).c = true ∧ I64 (F m).p) := by
            rcases HV.out m hN9 with h | ⟨h1, h2, h3, h4⟩
            · exact .inl h
            · rw [h2] at h3; exact .inr ⟨h1, h2, h3, h4⟩
          have hvy : F m2 = z3 ∨ (1 ≤ m2 ∧ (F m2).s = m2 ∧ mb (m2 : Int) (F m2).p (F m2).c = true ∧ I64 (F m2).p) := by
            rcases HV.out m2 hN29 with h | ⟨h1, h2, h3, h4⟩
            · exact .inl h
            · rw [h2] at h3; exact .inr ⟨h1, h2, h3, h4⟩
          clear HH em2 hm
          rcases hvx with hx | hx
          · have HXZ : Hid (F m = z3) := hx
            clear hx
            rcases hvy with hy | hy
            · have HYZ : Hid (F m2 = z3) := hy
              clear hy
              have c0 := HG.out.pr.arr.cell0 hN9
              have c1 := HG.out.pr.arr.cell1 hN9
              have c2 := HG.out.pr.arr.cell2 hN9
              have e0 := HG.out.pr.arr.cell0 hN29
              have e1 := HG.out.pr.arr.cell1 hN29
              have e2 := HG.out.pr.arr.cell2 hN29
              rw [HXZ.out] at c0
              rw [HYZ.out] at e0
              simp only [z3] at c0
              simp only [z3] at e0
              have H5 : Hid (Sg w wr pa Xa pb Xb q (1 + b8) (m + 1) m ga gb F) := HG.out.skip_a HXZ.out
              clear HG
              have H6 : Hid (Sg w wr pa Xa pb Xb q (1 + b8) (m + 1) (m + 1) ga gb F) := H5.out.skip_b HI.out.2.2 HYZ.out
              clear H5
              have H7 := H6
              clear H6
              go_wp2_with (fail)
              go_roundw
              case rel => exact ⟨m + 1, ga, gb, by go_num, by omega, by omega, H7⟩
              case measure => simp [intOf]; omega
            · have HYV : Hid (1 ≤ m2 ∧ (F m2).s = m2 ∧ mb (m2 : Int) (F m2).p (F m2).c = true ∧ I64 (F m2).p) := hy
              clear hy
              have c0 := HG.out.pr.arr.cell0 hN9
              have c1 := HG.out.pr.arr.cell1 hN9
              have c2 := HG.out.pr.arr.cell2 hN9
              have e0 := HG.out.pr.arr.cell0 hN29
              have e1 := HG.out.pr.arr.cell1 hN29
              have e2 := HG.out.pr.arr.cell2 hN29
              rw [HXZ.out] at c0
              rw [HYV.out.2.1] at e0
              simp only [z3] at c0
              have H5 : Hid (Sg w wr pa Xa pb Xb q (1 + b8) (m + 1) m ga gb F) := HG.out.skip_a HXZ.out
              clear HG
              have CB := sg_hb H5.out HI.out.2.2 HI.out.2.1 HYV.out.2.1 HYV.out.2.2.1 HYV.out.2.2.2
              unfold jv at CB
              go_wp2_with (fail)
              refine CB.mono ?_
              rintro e w6 ⟨r2, gb1, rfl, hr2, h6⟩
              have H6 : Hid (Sg w w6 pa Xa pb Xb q (1 + b8) (m + 1) (m + 1) ga gb1 F) := h6
              clear CB h6 H5
              clear c0 c1 c2 e0 e1 e2
              have c0 := H6.out.pr.arr.cell0 hN9
              have c1 := H6.out.pr.arr.cell1 hN9
              have c2 := H6.out.pr.arr.cell2 hN9
              have e0 := H6.out.pr.arr.cell0 hN29
              have e1 := H6.out.pr.arr.cell1 hN29
              have e2 := H6.out.pr.arr.cell2 hN29
              rw [HXZ.out] at c0
              rw [HYV.out.2.1] at e0
              simp only [z3] at c0
              have H7 := H6
              clear H6
              go_wp2_with (fail)
              go_roundw
              case rel => exact ⟨m + 1, ga, gb1, by go_num, by omega, by omega, H7⟩
              case measure => simp [intOf]; omega
          · have HXV : Hid (1 ≤ m ∧ (F m).s = m ∧ mb (m : Int) (F m).p (F m).c = true ∧ I64 (F m).p) := hx
            clear hx
            rcases hvy with hy | hy
            · have HYZ : Hid (F m2 = z3) := hy
              clear hy
              have c0 := HG.out.pr.arr.cell0 hN9
              have c1 := HG.out.pr.arr.cell1 hN9
              have c2 := HG.out.pr.arr.cell2 hN9
              have e0 := HG.out.pr.arr.cell0 hN29
              have e1 := HG.out.pr.arr.cell1 hN29
              have e2 := HG.out.pr.arr.cell2 hN29
              rw [HXV.out.2.1] at c0
              rw [HYZ.out] at e0
              simp only [z3] at e0
              have CA := sg_ha HG.out HI.out.1 HXV.out.2.1 HXV.out.2.2.1 HXV.out.2.2.2
              unfold jv at CA
              go_wp2_with (fail)
              refine CA.mono ?_
              rintro e w5 ⟨r1, ga1, rfl, hr1, h5⟩
              have H5 : Hid (Sg w w5 pa Xa pb Xb q (1 + b8) (m + 1) m ga1 gb F) := h5
              clear CA h5 HG
              clear c0 c1 c2 e0 e1 e2
              have c0 := H5.out.pr.arr.cell0 hN9
              have c1 := H5.out.pr.arr.cell1 hN9
              have c2 := H5.out.pr.arr.cell2 hN9
              have e0 := H5.out.pr.arr.cell0 hN29
              have e1 := H5.out.pr.arr.cell1 hN29
              have e2 := H5.out.pr.arr.cell2 hN29
              rw [HXV.out.2.1] at c0
              rw [HYZ.out] at e0
              simp only [z3] at e0
              have H6 : Hid (Sg w w5 pa Xa pb Xb q (1 + b8) (m + 1) (m + 1) ga1 gb F) := H5.out.skip_b HI.out.2.2 HYZ.out
              clear H5
              have CC := sg_again H6.out HI.out.1 HXV.out.2.1 HXV.out.2.2.1 HXV.out.2.2.2
              unfold jv at CC
              go_wp2_with (fail)
              refine CC.mono ?_
              rintro e w7 ⟨rfl, h7⟩
              have H7 : Hid (Sg w w7 pa Xa pb Xb q (1 + b8) (m + 1) (m + 1) ga1 gb F) := h7
              clear CC h7 H6 c0 c1 c2 e0 e1 e2
              go_wp2_with (fail)
              go_roundw
              case rel => exact ⟨m + 1, ga1, gb, by go_num, by omega, by omega, H7⟩
              case measure => simp [intOf]; omega
            · have HYV : Hid (1 ≤ m2 ∧ (F m2).s = m2 ∧ mb (m2 : Int) (F m2).p (F m2).c = true ∧ I64 (F m2).p) := hy
              clear hy
              have c0 := HG.out.pr.arr.cell0 hN9
              have c1 := HG.out.pr.arr.cell1 hN9
              have c2 := HG.out.pr.arr.cell2 hN9
              have e0 := HG.out.pr.arr.cell0 hN29
              have e1 := HG.out.pr.arr.cell1 hN29
              have e2 := HG.out.pr.arr.cell2 hN29
              rw [HXV.out.2.1] at c0
              rw [HYV.out.2.1] at e0
              have CA := sg_ha HG.out HI.out.1 HXV.out.2.1 HXV.out.2.2.1 HXV.out.2.2.2
              unfold jv at CA
              go_wp2_with (fail)
              refine CA.mono ?_
              rintro e w5 ⟨r1, ga1, rfl, hr1, h5⟩
              have H5 : Hid (Sg w w5 pa Xa pb Xb q (1 + b8) (m + 1) m ga1 gb F) := h5
              clear CA h5 HG
              clear c0 c1 c2 e0 e1 e2
              have c0 := H5.out.pr.arr.cell0 hN9
              have c1 := H5.out.pr.arr.cell1 hN9
              have c2 := H5.out.pr.arr.cell2 hN9
              have e0 := H5.out.pr.arr.cell0 hN29
              have e1 := H5.out.pr.arr.cell1 hN29
              have e2 := H5.out.pr.arr.cell2 hN29
              rw [HXV.out.2.1] at c0
              rw [HYV.out.2.1] at e0
              have CB := sg_hb H5.out HI.out.2.2 HI.out.2.1 HYV.out.2.1 HYV.out.2.2.1 HYV.out.2.2.2
              unfold jv at CB
              go_wp2_with (fail)
              refine CB.mono ?_
              rintro e w6 ⟨r2, gb1, rfl, hr2, h6⟩
              have H6 : Hid (Sg w w6 pa Xa pb Xb q (1 + b8) (m + 1) (m + 1) ga1 gb1 F) := h6
              clear CB h6 H5
              clear c0 c1 c2 e0 e1 e2
              have c0 := H6.out.pr.arr.cell0 hN9
              have c1 := H6.out.pr.arr.cell1 hN9
              have c2 := H6.out.pr.arr.cell2 hN9
              have e0 := H6.out.pr.arr.cell0 hN29
              have e1 := H6.out.pr.arr.cell1 hN29
              have e2 := H6.out.pr.arr.cell2 hN29
              rw [HXV.out.2.1] at c0
              rw [HYV.out.2.1] at e0
              have CC := sg_again H6.out HI.out.1 HXV.out.2.1 HXV.out.2.2.1 HXV.out.2.2.2
              unfold jv at CC
              go_wp2_with (fail)
              refine CC.mono ?_
              rintro e w7 ⟨rfl, h7⟩
              have H7 : Hid (Sg w w7 pa Xa pb Xb q (1 + b8) (m + 1) (m + 1) ga1 gb1 F) := h7
              clear CC h7 H6 c0 c1 c2 e0 e1 e2
              go_wp2_with (fail)
              go_roundw
              case rel => exact ⟨m + 1, ga1, gb1, by go_num, by omega, by omega, H7⟩
              case measure => simp [intOf]; omega
        · obtain rfl : m = 9 := by omega
          have hJ : Js (1 + b8) F (fun k => decide (9 - ((9 : Nat) : Int) < k)) = Js (1 + b8) F (fun k => decide (k < ((9 : Nat) : Int))) := Js_ext _ _ _ _ fun k h1 h8 => by simp; omega
          have hgg : gb = ga := by
            have htb := HH.out.tb
            rw [hJ] at htb
            exact htb.uniq HH.out.ta
          have H8 : Hid (As w wr pa Xa pb Xb q (1 + b8) ga ga (Js (1 + b8) F (fun k => decide (k < ((9 : Nat) : Int)))) (Js (1 + b8) F (fun k => decide (k < ((9 : Nat) : Int)))) F) := (show As _ _ _ _ _ _ _ _ _ _ _ _ _ by have := HH.out.pr; rw [hJ, hgg] at this; exact this)
          clear HH hJ hgg
          generalize Js (1 + b8) F (fun k => decide (k < ((9 : Nat) : Int))) = J at *
          obtain ⟨R, eR⟩ : ∃ R : Int, R = (hr (1 + b8) J : Nat) := ⟨_, rfl⟩
          obtain ⟨A, eA⟩ : ∃ A : Bool, A = ag J (hr (1 + b8) J) := ⟨_, rfl⟩
          have HR : Hid (R = (hr (1 + b8) J : Nat) ∧ A = ag J (hr (1 + b8) J)) := ⟨eR, eA⟩
          have ER := eqJ (1 + b8) R 0 (1 + b8) R 0 true (by simp)
          clear eR eA
          have C1 := Own_w H8.out.a
          rw [← HR.out.1] at C1
          unfold jv at C1
          go_wp2_with (fail)
          refine C1.mono ?_
          rintro e w5 ⟨rfl, hm5⟩
          have H9 : Hid (As w w5 pa Xa pb Xb q (1 + b8) ga ga J J F) := H8.out.keep hm5
          clear C1 hm5 H8
          have C1 := Own_w H9.out.b
          rw [← HR.out.1] at C1
          unfold jv at C1
          go_wp2_with (fail)
          refine C1.mono ?_
          rintro e w6 ⟨rfl, hm6⟩
          have H8 : Hid (As w w6 pa Xa pb Xb q (1 + b8) ga ga J J F) := H9.out.keep hm6
          clear C1 hm6 H9
          have C1 := Agreed_w H8.out.a
          rw [← HR.out.2] at C1
          go_wp2_with (fail)
          refine C1.mono ?_
          rintro e w7 ⟨rfl, hm7⟩
          have H9 : Hid (As w w7 pa Xa pb Xb q (1 + b8) ga ga J J F) := H8.out.keep hm7
          clear C1 hm7 H8
          have C1 := Agreed_w H9.out.b
          rw [← HR.out.2] at C1
          go_wp2_with (fail)
          refine C1.mono ?_
          rintro e w8 ⟨rfl, hm8⟩
          have H8 : Hid (As w w8 pa Xa pb Xb q (1 + b8) ga ga J J F) := H9.out.keep hm8
          clear C1 hm8 H9
          have C1 := Counter_w H8.out.a
          have C2 := Counter_w H8.out.b
          go_wp2_with (fail)
          refine C1.mono ?_
          rintro e w8 ⟨rfl, rfl⟩
          go_wp2_with (fail)
          refine C2.mono ?_
          rintro e w8 ⟨rfl, rfl⟩
          clear C1 C2
          go_wp2_with (fail)
          go_ret
          exact ⟨rfl, H8.out.mod⟩
namespace gatherAgain
open Go.ChangeShapes Go.WideShapes Go.ChangeAt Go.RowKit
set_option maxRecDepth 100000 in
theorem lifted (os : Os) (started : os.Started) (H : Type) (enc : TypeId × Value → H) :
    ReturnsInHanded {} Try.checked os 6 .any (Rows.gatherAgainSpec.pre6 enc Try.prog Try.f6 Rows.gatherAgainRow.domain false) (Rows.gatherAgainSpec.post enc Try.prog Try.f6 false true false false) := by
  refine returnsInHanded_of_change_sized (C := Try.checked) own started (by kernel_rfl) Try.func6
    (ChangeSpec.witness6 (enc := enc) (C := Try.checked) false ⟨#[], #[.int .i64 0, .slice none 0 0], []⟩ 8 (by kernel_rfl) (by kernel_rfl) (by kernel_rfl) (by kernel_rfl)) ?_
  intro W base args ds gs before hval0 hW hcnd hsz0 _
  have hval : ∀ (j : Nat) t v, Try.f6.params[j]? = some t → args[j]? = some v → Value.okWide Try.prog W .any base t v := hval0
  have hsz : (DataW.weightsEach Try.prog (Try.f6.params.toList ++ Rows.gatherAgainSpec.plain.varTypes Try.prog) (ds ++ gs)).all (· ≤ reachBytes) = true := hsz0
  have hW' := hW
  obtain ⟨p, q, hA0, hV, rfl, hfz, hnd⟩ := hW
  have hA : DataW.TrodAll enc Try.prog W 0 (fun _ => true) true Try.f6.params.toList args.toList ds p := hA0
  rw [Try.params6] at hA hval hsz
  obtain ⟨v0, vs0, d0, ds0, p0, q0, hargs, rfl, rfl, h0, r0⟩ := trodAll_cons hA
  obtain ⟨v1, vs1, d1, ds1, p1, q1, rfl, rfl, rfl, h1, r1⟩ := trodAll_cons r0
  obtain ⟨rfl, rfl, rfl⟩ := trodAll_nil r1
  obtain rfl : args = #[v0, v1] := by cases args; simp_all
  obtain ⟨rfl, rfl⟩ := trodVars_none hV
  obtain ⟨a0, rfl, rfl, rfl, w0⟩ := open_int Try.underlying3 (hval 0 3 v0 rfl rfl) h0
  have k1 := h1
  have lt1 : ∀ x ∈ p1, x.block < W.heap.size := by obtain ⟨m, hm⟩ := k1; exact DataW.trod_lt m _ _ _ hm
  obtain ⟨B1, hB1⟩ := open_joins h1 (okWide_slice Try.underlying22 (hval 1 22 v1 rfl rfl))
  clear hA0 hval0
  refine (again_walk a0 (i64_of_wf w0) v1 B1 W hB1).mono fun e W' ⟨he, hm⟩ => ?_
  subst he
  have bel : Below W.heap.size W W' := hm.below _ (Nat.le_refl _) (fun _ h => h.elim)
  exact ⟨_, rfl, _, _, _, [], _, [], hW', trodAll_mk1 (shut_bool Try.underlying4 _), (trodAll_cons_mk (shut_int Try.underlying3 w0) (trodAll_cons_mk (Below.trod laidOut (by kernel_rfl) (of_decide_eq_true (by kernel_rfl)) k1 bel lt1) trodAll_mk0)), rfl, bel.frame _, fun h => by cases h⟩

theorem over : Rows.gatherAgainRow.holds Try.pinned (OpenSpec.ofChange Rows.gatherAgainSpec) :=
  OpenClaim.holds_of_wide 6 Try.f6 rfl rfl rfl rfl rfl rfl rfl ⟨rfl, rfl, rfl, rfl, rfl⟩ rfl rfl rfl rfl rfl (by kernel_rfl) Try.func6 (by kernel_rfl)
    (of_decide_eq_true (by kernel_rfl)) (by unfold Func.isWrapper; first | (rw [if_pos (by decide +kernel)]; kernel_rfl) | (rw [if_neg (by decide +kernel)]; exact ⟨rfl, rfl⟩))
    (fun os started H enc _ => lifted os started H enc)
end gatherAgain
theorem gatherAgain_holds : Rows.GatherAgainSaid := gatherAgain.over
end Go.Proofs.Ytmfdgbdcbfppcaa
