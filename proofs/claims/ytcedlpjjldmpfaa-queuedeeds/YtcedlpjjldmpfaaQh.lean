/- Contract of the law's works. No conditions. -/
import Derived.Test.YtcedlpjjldmpfaaQg
namespace Go.Proofs.Ytcedlpjjldmpfaa
open Go.RowKit
theorem bd_ms {ds : List (Ms × Value)} {ms : List Ms} (h : ds.map (·.1) = ms) (hc : ∀ m ∈ ms, chk m = 0) : bd ds = false :=
  bd_none fun i d hd => hc d.1 (by rw [← h]; exact List.mem_map_of_mem (List.mem_of_getElem? hd))
/-- So many texts from a number on. -/
def tms (fr n : Nat) : List Ms := (List.range n).map fun i => tm (fr + i)
theorem tms_len (fr n : Nat) : (tms fr n).length = n := by simp [tms]
theorem tms_chk (fr n : Nat) (h : fr + n ≤ 256) : ∀ m ∈ tms fr n, chk m = 0 := fun m hm => by
  obtain ⟨i, hi, rfl⟩ := List.mem_map.1 hm
  exact tm_chk _ (by have := List.mem_range.1 hi; omega)
theorem tms_body (fr n : Nat) : ∀ m ∈ tms fr n, m.body.length ≤ 140737488355328 := fun m hm => by
  obtain ⟨i, hi, rfl⟩ := List.mem_map.1 hm
  simp [tm]
theorem Put_texts {w : World} {q : Nat} {X : Nat → Prop} {L : List Ms} (h : Qu w q X L) (fr n : Nat) (hn : fr + n ≤ 256) {B : Nat} {v : Value} {ds : List (Ms × Value)} (hR : Rn w B v (tms fr n) ds) (hX : ∀ b, X b → b < B) (hf : L.length + n ≤ 32) :
    Calls Try.prog 10 #[.pointer (some ⟨q, 0, none⟩), v] w fun e w' => e = .returned (.int .i64 0) ∧ (∃ X', Qu w' q X' (L ++ tms fr n) ∧ (∀ b, X' b → X b ∨ w.heap.size ≤ b)) ∧ Mod (fun b => b = q) w w' := by
  have hl : ds.length = n := by rw [hR.len, tms_len]
  have := Put_ok h v ds (hR.mgs (by omega) (tms_body fr n)) (bd_ms hR.ms (tms_chk fr n hn)) (by omega) (hR.far hX)
  rw [hR.ms] at this
  exact this
theorem Put_texts_full {w : World} {q : Nat} {X : Nat → Prop} {L : List Ms} (h : Qu w q X L) (fr n : Nat) (hn : fr + n ≤ 256) {B : Nat} {v : Value} {ds : List (Ms × Value)} (hR : Rn w B v (tms fr n) ds) (hf : 32 < L.length + n) :
    Calls Try.prog 10 #[.pointer (some ⟨q, 0, none⟩), v] w fun e w' => e = .returned (.int .i64 7) ∧ Mod (fun _ => False) w w' := by
  have hl : ds.length = n := by rw [hR.len, tms_len]
  exact Put_full h v ds (hR.mgs (by omega) (tms_body fr n)) (bd_ms hR.ms (tms_chk fr n hn)) (by omega)
/-- One message alone, in a row that was just laid. -/
theorem Mgs.lit (w : World) (m : Ms) (v : Value) (hs : Sl w v m.body) (hl : m.body.length ≤ 140737488355328) : Mgs (w.alloc (.cells (mcl m v).toArray 40)) (.slice (some ⟨w.heap.size, 0, none⟩) 1 1) [(m, v)] := by
  refine ⟨⟨some ⟨w.heap.size, 0, none⟩, 1, rfl, by simp, fun _ => ⟨w.heap.size, 0, rfl, fun i d hd => ?_⟩⟩, fun d hd => ?_⟩
  · have hi : i = 0 := by
      rcases Nat.eq_zero_or_pos i with h | h
      · exact h
      · rw [List.getElem?_eq_none (by simp; omega)] at hd; cases hd
    subst hi
    simp only [List.getElem?_cons_zero, Option.some.injEq] at hd
    subst hd
    exact (Bk.new w (mcl m v).toArray 40).range _ _ fun j c hj => by simpa using hj
  · rw [List.mem_singleton] at hd
    subst hd
    exact ⟨hs.mod ((Mod.refl (fun _ => False) w).alloc _) (fun _ _ h => h), hl⟩
theorem step_c1 {ops : Array Oper} {o : Oper} {a : Act} {w : World} {K : Act → World → Prop} {Q : Exit → Act → World → Prop} {E : Prop} {f : FuncId} {ts : Array TypeId} (hcf : ∀ args w, (callFunc f args).run Try.prog w = .ok (.enter f args) w) (hw : Region.wanted o (yielded ops a.tmps) = true) (x : Operand)
    (ho : o.op = .call { callee := .value (.func f), args := #[x], argTypes := ts }) (hf : a.eval (.func f) = .func (.func f) #[] #[]) (v : Value) (hx : a.eval x = v) (R : Value → World → Prop)
    (HB : Calls Try.prog f #[v] w fun e w' => ∃ r, e = .returned r ∧ R r w') (h : ∀ r w', R r w' → K (a.put o.dst r) w') :
    if Region.wanted o (yielded ops a.tmps) = true then Oper.wp Try.prog o a w K Q else E := by
  rw [if_pos hw]
  refine wp_enter (by rw [exec_call1 a.eval hcf hf ho, hx]) HB ?_
  rintro e w' ⟨r, rfl, hr⟩
  exact ⟨_, rfl, h r w' hr⟩
theorem step_c2 {ops : Array Oper} {o : Oper} {a : Act} {w : World} {K : Act → World → Prop} {Q : Exit → Act → World → Prop} {E : Prop} {f : FuncId} {ts : Array TypeId} (hcf : ∀ args w, (callFunc f args).run Try.prog w = .ok (.enter f args) w) (hw : Region.wanted o (yielded ops a.tmps) = true) (x y : Operand)
    (ho : o.op = .call { callee := .value (.func f), args := #[x, y], argTypes := ts }) (hf : a.eval (.func f) = .func (.func f) #[] #[]) (v u : Value) (hx : a.eval x = v) (hy : a.eval y = u) (R : Value → World → Prop)
    (HB : Calls Try.prog f #[v, u] w fun e w' => ∃ r, e = .returned r ∧ R r w') (h : ∀ r w', R r w' → K (a.put o.dst r) w') :
    if Region.wanted o (yielded ops a.tmps) = true then Oper.wp Try.prog o a w K Q else E := by
  rw [if_pos hw]
  refine wp_enter (by rw [exec_call2 a.eval hcf hf ho, hx, hy]) HB ?_
  rintro e w' ⟨r, rfl, hr⟩
  exact ⟨_, rfl, h r w' hr⟩
theorem text5 (w : World) : Calls Try.prog 22 #[.int .i64 5] w fun e w' => ∃ b, e = .returned (.agg #[.int .i64 1, .int .i64 6, .int .i64 1, .int .i64 5, .int .i64 0, .int .i64 1, .int .i64 1, .bool false, .int .i64 0, .int .i64 0, .int .i64 0, .int .i64 0, .slice (some ⟨b, 0, none⟩) 1 1]) ∧ Own w' (.slice (some ⟨b, 0, none⟩) 1 1) [5] ∧ w.heap.size ≤ b ∧ Mod (fun _ => False) w w' := text_any 5 w (by decide)
set_option maxRecDepth 100000 in
set_option maxHeartbeats 4000000 in
theorem works_any (w : World) : Calls Try.prog 20 #[] w fun e w' => e = .returned (.bool true) ∧ Mod (fun _ => False) w w' := by
  go_enter Try.func20, Try.ntmps20
  go_wp2_with (fail)
  refine (qNew w).mono ?_
  rintro e w1 ⟨q, X1, rfl, hQ1, hm1, hX1⟩
  go_wp2_with (fail)
  refine (texts_any 5 2 w1 (by decide)).mono ?_
  rintro e w2 ⟨v2, ds2, rfl, hR2, hm2⟩
  go_wp2_with (fail)
  refine (Put_texts (hQ1.mod hm2 (fun _ _ h => h)) 5 2 (by decide) hR2 hQ1.lt (by decide)).mono ?_
  rintro e w3 ⟨rfl, ⟨X3, hQ3, hX3⟩, hm3⟩
  have hM3 : Mod (fun b => w.heap.size ≤ b) w w3 := ((hm1.trans hm2 (V := fun b => w.heap.size ≤ b) (fun _ _ h => h.elim) (fun _ _ h => h.elim)).trans hm3 (V := fun b => w.heap.size ≤ b) (fun _ _ h => h) (fun b hb e => by subst e; exact hX1 _ hQ1.inX))
  go_wp2_with (fail)
  refine (texts_any 0 31 w3 (by decide)).mono ?_
  rintro e w4 ⟨v4, ds4, rfl, hR4, hm4⟩
  go_wp2_with (fail)
  refine (Put_texts_full (hQ3.mod hm4 (fun _ _ h => h)) 0 31 (by decide) hR4 (by rw [List.length_append, tms_len]; simp)).mono ?_
  rintro e w5 ⟨rfl, hm5⟩
  have hQ5 := (hQ3.mod hm4 (fun _ _ h => h)).mod hm5 (fun _ _ h => h)
  go_wp2_with (fail)
  refine (texts_any 7 30 w5 (by decide)).mono ?_
  rintro e w6 ⟨v6, ds6, rfl, hR6, hm6⟩
  go_wp2_with (fail)
  refine (Put_texts (hQ5.mod hm6 (fun _ _ h => h)) 7 30 (by decide) hR6 hQ5.lt (by rw [List.length_append, tms_len]; simp)).mono ?_
  rintro e w7 ⟨rfl, ⟨X7, hQ7, hX7⟩, hm7⟩
  obtain ⟨R, eR, hlR⟩ : ∃ R, [] ++ tms 5 2 ++ tms 7 30 = (⟨1, 6, 1, 5, 0, 1, 1, false, 0, 0, 0, 0, [5]⟩ : Ms) :: R ∧ R.length = 31 := ⟨_, rfl, rfl⟩
  rw [eR] at hQ7
  have e32 : (((⟨1, 6, 1, 5, 0, 1, 1, false, 0, 0, 0, 0, [5]⟩ : Ms) :: R).length : Int) = 32 := by rw [List.length_cons, hlR]; rfl
  have HL := Len_q hQ7
  have HRm := Room_q hQ7
  rw [e32] at HL HRm
  have HTk := Take_some 1 6 1 5 0 1 1 false 0 0 0 0 [5] hQ7
  have hM7 : Mod (fun b => w.heap.size ≤ b) w w7 := (((hM3.trans hm4 (V := fun b => w.heap.size ≤ b) (fun _ _ h => h) (fun _ _ h => h.elim)).trans hm5 (V := fun b => w.heap.size ≤ b) (fun _ _ h => h) (fun _ _ h => h.elim)).trans hm6 (V := fun b => w.heap.size ≤ b) (fun _ _ h => h) (fun _ _ h => h.elim)).trans hm7 (V := fun b => w.heap.size ≤ b) (fun _ _ h => h) (fun b hb e => by subst e; exact hX1 _ hQ1.inX)
  have hqw : w.heap.size ≤ q := hX1 _ hQ1.inX
  clear hQ1 hm1 hX1 hR2 hm2 hQ3 hX3 hm3 hM3 hR4 hm4 hm5 hQ5 hR6 hm6 hQ7 hX7 hm7 eR e32
  go_wp2_with (fail)
  refine HL.mono ?_
  rintro e w7 ⟨rfl, rfl⟩
  go_wp2_with (fail)
  refine HRm.mono ?_
  rintro e w7 ⟨rfl, rfl⟩
  go_wp2_with (fail)
  refine HTk.mono ?_
  rintro e w8 ⟨ao, cap, rfl, ho8, hr8, hQ8, hv8, hm8⟩
  simp only [List.length_cons, List.length_nil] at *
  have hM8 : Mod (fun b => w.heap.size ≤ b) w w8 := hM7.trans hm8 (fun _ _ h => h) (fun b hb e => by subst e; exact hqw)
  clear HTk HL HRm hM7 hm8 hv8
  have hA := (Mod.refl (fun _ => False) w8).alloc (.cells #[.int .i64 1, .int .i64 6, .int .i64 1, .int .i64 5, .int .i64 0, .int .i64 1, .int .i64 1, .bool false, .int .i64 0, .int .i64 0, .int .i64 0, .int .i64 0, .slice ao 1 cap] 40)
  have hMB := Bk.new w8 #[.int .i64 1, .int .i64 6, .int .i64 1, .int .i64 5, .int .i64 0, .int .i64 1, .int .i64 1, .bool false, .int .i64 0, .int .i64 0, .int .i64 0, .int .i64 0, .slice ao 1 cap] 40
  have hMW : Mod (fun b => w.heap.size ≤ b) w (w8.alloc (.cells #[.int .i64 1, .int .i64 6, .int .i64 1, .int .i64 5, .int .i64 0, .int .i64 1, .int .i64 1, .bool false, .int .i64 0, .int .i64 0, .int .i64 0, .int .i64 0, .slice ao 1 cap] 40)) := hM8.alloc _
  have hQW := hQ8.mod hA (fun _ _ h => h)
  have hoW := ho8.mod hA (fun _ _ h => h)
  clear hA hM8 hQ8 ho8
  go_upto_region 5 with (fail)
  generalize w8.alloc (.cells #[.int .i64 1, .int .i64 6, .int .i64 1, .int .i64 5, .int .i64 0, .int .i64 1, .int .i64 1, .bool false, .int .i64 0, .int .i64 0, .int .i64 0, .int .i64 0, .slice ao 1 cap] 40) = W at *
  generalize w8.heap.size = mb at *
  have m0 : W.cell? ⟨mb, 0, none⟩ = some (.int .i64 1) := hMB.cellv (j := 0) rfl
  have m1 : W.cell? ⟨mb, 1, none⟩ = some (.int .i64 6) := hMB.cellv (j := 1) rfl
  have m2 : W.cell? ⟨mb, 2, none⟩ = some (.int .i64 1) := hMB.cellv (j := 2) rfl
  have m3 : W.cell? ⟨mb, 3, none⟩ = some (.int .i64 5) := hMB.cellv (j := 3) rfl
  have m4 : W.cell? ⟨mb, 4, none⟩ = some (.int .i64 0) := hMB.cellv (j := 4) rfl
  have m5 : W.cell? ⟨mb, 5, none⟩ = some (.int .i64 1) := hMB.cellv (j := 5) rfl
  have m6 : W.cell? ⟨mb, 6, none⟩ = some (.int .i64 1) := hMB.cellv (j := 6) rfl
  have m7 : W.cell? ⟨mb, 7, none⟩ = some (.bool false) := hMB.cellv (j := 7) rfl
  have m8 : W.cell? ⟨mb, 8, none⟩ = some (.int .i64 0) := hMB.cellv (j := 8) rfl
  have m9 : W.cell? ⟨mb, 9, none⟩ = some (.int .i64 0) := hMB.cellv (j := 9) rfl
  have m10 : W.cell? ⟨mb, 10, none⟩ = some (.int .i64 0) := hMB.cellv (j := 10) rfl
  have m11 : W.cell? ⟨mb, 11, none⟩ = some (.int .i64 0) := hMB.cellv (j := 11) rfl
  have m12 : W.cell? ⟨mb, 12, none⟩ = some (.slice ao 1 cap) := hMB.cellv (j := 12) rfl
  have hD := (Mod.refl (fun _ => False) W).drew
  have HT : Calls Try.prog 22 #[.int .i64 5] W.drew fun e w' => ∃ r, e = .returned r ∧ (∃ b, r = .agg #[.int .i64 1, .int .i64 6, .int .i64 1, .int .i64 5, .int .i64 0, .int .i64 1, .int .i64 1, .bool false, .int .i64 0, .int .i64 0, .int .i64 0, .int .i64 0, .slice (some ⟨b, 0, none⟩) 1 1] ∧ Own w' (.slice (some ⟨b, 0, none⟩) 1 1) [5] ∧ Mod (fun _ => False) W.drew w') := (text5 W.drew).mono fun e w' ⟨b, h1, h2, _, h4⟩ => ⟨_, h1, b, rfl, h2, h4⟩
  have HS : ∀ w' b, Mod (fun _ => False) W w' → Own w' (.slice (some ⟨b, 0, none⟩) 1 1) [5] → Calls Try.prog 12 #[.agg #[.int .i64 1, .int .i64 6, .int .i64 1, .int .i64 5, .int .i64 0, .int .i64 1, .int .i64 1, .bool false, .int .i64 0, .int .i64 0, .int .i64 0, .int .i64 0, .slice ao 1 cap], .agg #[.int .i64 1, .int .i64 6, .int .i64 1, .int .i64 5, .int .i64 0, .int .i64 1, .int .i64 1, .bool false, .int .i64 0, .int .i64 0, .int .i64 0, .int .i64 0, .slice (some ⟨b, 0, none⟩) 1 1]] w' fun e w'' => ∃ r, e = .returned r ∧ (r = .bool true ∧ Mod (fun _ => False) w' w'') := fun w' b hm ho => Calls.mono (Same_eq 1 6 1 5 0 1 1 false 0 0 0 0 ao (some ⟨b, 0, none⟩) cap 1 [5] w' ((hoW.mod hm (fun _ _ h => h)).sl (by simp)) (ho.sl (by simp))) (fun e w'' h => ⟨_, h.1, rfl, h.2⟩)
  have HRm : ∀ w', Mod (fun _ => False) W w' → Calls Try.prog 18 #[.pointer (some ⟨q, 0, none⟩)] w' fun e w'' => ∃ r, e = .returned r ∧ (r = .int .i64 1 ∧ w'' = w') := fun w' hm => by
    have := Room_q (hQW.mod hm (fun _ _ h => h))
    rw [hlR] at this
    exact this.mono (fun e w'' ⟨h1, h2⟩ => ⟨_, h1, rfl, h2⟩)
  have HPt : ∀ w', Mod (fun _ => False) W w' → Calls Try.prog 10 #[.pointer (some ⟨q, 0, none⟩), .slice (some ⟨w'.heap.size, 0, none⟩) 1 1] (w'.alloc (.cells #[.int .i64 0, .int .i64 0, .int .i64 0, .int .i64 0, .int .i64 0, .int .i64 0, .int .i64 0, .bool false, .int .i64 0, .int .i64 0, .int .i64 0, .int .i64 0, .slice none 0 0] 40)) fun e w'' => ∃ r, e = .returned r ∧ (r = .int .i64 2 ∧ Mod (fun _ => False) (w'.alloc (.cells #[.int .i64 0, .int .i64 0, .int .i64 0, .int .i64 0, .int .i64 0, .int .i64 0, .int .i64 0, .bool false, .int .i64 0, .int .i64 0, .int .i64 0, .int .i64 0, .slice none 0 0] 40)) w'') := fun w' hm =>
    Calls.mono (Put_bad ((hQW.mod hm (fun _ _ h => h)).mod ((Mod.refl (fun _ => False) w').alloc _) (fun _ _ h => h)) _ _ (Mgs.lit w' ⟨0, 0, 0, 0, 0, 0, 0, false, 0, 0, 0, 0, []⟩ (.slice none 0 0) ((Own.nil w').sl (by simp)) (by simp)) (by decide +kernel)) (fun e w'' ⟨h1, h2⟩ => ⟨_, h1, rfl, h2⟩)
  have HMW : Hid (Mod (fun b => w.heap.size ≤ b) w W) := hMW
  clear hQW hoW hMW hMB hr8
  go_region_law (first
    | (refine step_c1 (fun args w => by simp [go_sem]) (by rfl) _ (by rfl) (by rfl) _ (by rfl) _ HT ?_; rintro r w10 ⟨b, rfl, ho10, hm10⟩; have hM10 := hD.trans hm10 (V := fun _ => False) (fun _ _ h => h) (fun _ _ h => h); replace m0 : w10.cell? ⟨mb, 0, none⟩ = some (.int .i64 1) := hm10.cell m0 (fun h => h); replace m1 : w10.cell? ⟨mb, 1, none⟩ = some (.int .i64 6) := hm10.cell m1 (fun h => h); replace m2 : w10.cell? ⟨mb, 2, none⟩ = some (.int .i64 1) := hm10.cell m2 (fun h => h); replace m3 : w10.cell? ⟨mb, 3, none⟩ = some (.int .i64 5) := hm10.cell m3 (fun h => h); replace m4 : w10.cell? ⟨mb, 4, none⟩ = some (.int .i64 0) := hm10.cell m4 (fun h => h); replace m5 : w10.cell? ⟨mb, 5, none⟩ = some (.int .i64 1) := hm10.cell m5 (fun h => h); replace m6 : w10.cell? ⟨mb, 6, none⟩ = some (.int .i64 1) := hm10.cell m6 (fun h => h); replace m7 : w10.cell? ⟨mb, 7, none⟩ = some (.bool false) := hm10.cell m7 (fun h => h); replace m8 : w10.cell? ⟨mb, 8, none⟩ = some (.int .i64 0) := hm10.cell m8 (fun h => h); replace m9 : w10.cell? ⟨mb, 9, none⟩ = some (.int .i64 0) := hm10.cell m9 (fun h => h); replace m10 : w10.cell? ⟨mb, 10, none⟩ = some (.int .i64 0) := hm10.cell m10 (fun h => h); replace m11 : w10.cell? ⟨mb, 11, none⟩ = some (.int .i64 0) := hm10.cell m11 (fun h => h); replace m12 : w10.cell? ⟨mb, 12, none⟩ = some (.slice ao 1 cap) := hm10.cell m12 (fun h => h))
    | (refine step_c2 (fun args w => by simp [go_sem]) (by rfl) _ _ (by rfl) (by rfl) _ _ (by rfl) (by rfl) _ (HS w10 b hM10 ho10) ?_; rintro r w11 ⟨rfl, hm11⟩; have hM11 := hM10.trans hm11 (V := fun _ => False) (fun _ _ h => h) (fun _ _ h => h))
    | (refine step_c1 (fun args w => by simp [go_sem]) (by rfl) _ (by rfl) (by rfl) _ (by rfl) _ (HRm w11 hM11) ?_; rintro r w12 ⟨rfl, rfl⟩)
    | (refine step_c2 (fun args w => by simp [go_sem]) (by rfl) _ _ (by rfl) (by rfl) _ _ (by rfl) (by rfl) _ (HPt _ hM11) ?_; rintro r w13 ⟨rfl, hm13⟩))
  all_goals go_wp2_with (fail)
  all_goals go_ret
  all_goals exact ⟨rfl, ((HMW.out.trans hM11 (V := fun b => w.heap.size ≤ b) (fun _ _ h => h) (fun _ _ h => h.elim)).trans (((Mod.refl (fun _ => False) _).alloc _).trans hm13 (V := fun _ => False) (fun _ _ h => h) (fun _ _ h => h)) (V := fun b => w.heap.size ≤ b) (fun _ _ h => h) (fun _ _ h => h.elim)).mono (fun b hb h => absurd hb (Nat.not_lt.2 h))⟩
end Go.Proofs.Ytcedlpjjldmpfaa
