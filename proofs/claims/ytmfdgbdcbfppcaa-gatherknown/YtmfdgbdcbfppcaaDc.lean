/- Contracts of gather's New, mayBe, hears, Own, Agreed, Counter. Conditions: numbers of an int. -/
import Derived.Test.YtmfdgbdcbfppcaaDb
import Derived.Test.YtmfdgbdcbfppcaaFre

import Derived.Deep.RegionLaw
namespace Go.Proofs.Ytmfdgbdcbfppcaa
open Go.RowKit Go.Maps Go.WideShapes
theorem wf_i64y {n : Int} (h : (Lit.int .i64 n).wf = true) : -9223372036854775808 ≤ n ∧ n ≤ 9223372036854775807 := by
  have := bounds_i64 h
  omega
theorem keyI {key : Value} {z : Lit} (h : keyOf Try.prog 3 key = some z) : ∃ x, key = .int .i64 x ∧ z = kl x ∧ I64 x := by
  obtain ⟨x, rfl, rfl, hwf⟩ := Maps.keyOf_int_inv Try.underlying3 h
  refine ⟨x, rfl, rfl, ?_⟩
  have := wf_i64y hwf
  unfold I64
  omega
theorem ranges_mod {S : Nat → Prop} {w w' : World} {B r N : Nat} {D : DataW Value} {left : Lit → Bool} {cnt : Nat} (h : w.ranges Try.prog 3 hE B r N D left cnt) (hm : Mod S w w') (hB : ¬ S B) (hr : ¬ S r) : w'.ranges Try.prog 3 hE B r N D left cnt := by
  obtain ⟨es, clock, since, seen, c0, hb, F, hs, hD, hi, rest⟩ := h
  exact ⟨es, clock, since, seen, c0, hm.obj hb hB, F, hs, hD, hm.obj hi hr, rest⟩
theorem row_ne_iterI {w : World} {v : Value} {l : List Int} {B r N : Nat} {D : DataW Value} {left : Lit → Bool} {cnt : Nat} (h : Cr.Own w v l) (hr : w.ranges Try.prog 3 hE B r N D left cnt) : v.ownBlock ≠ some r ∧ v.ownBlock ≠ some B := by
  obtain ⟨es, clock, since, seen, c0, hb, _, _, _, hi, _⟩ := hr
  constructor
  · intro e
    obtain ⟨cur, hc⟩ := h.kind e
    rw [hc] at hi
    cases hi
  · intro e
    obtain ⟨cur, hc⟩ := h.kind e
    rw [hc] at hb
    cases hb
theorem Bk.cellz {w : World} {b : Nat} {t : TypeId} {u : Value} {r : List Value} (h : Bk w b t (u :: r).toArray) : w.cell? ⟨b, 0, none⟩ = some u := h.cellv (j := 0) (by simp)

/-- Whether a join may be. -/
def mb (s p c : Int) : Bool := decide (Cr.chk p = 0) && (Cr.has p s && (decide (0 ≤ c) && decide (c ≤ 9007199254740991)))
theorem chk_two (p : Int) : Cr.chk p = 0 ∨ Cr.chk p = 2 := by unfold Cr.chk; split <;> simp
set_option maxRecDepth 100000 in
theorem mayBe_w (s p c : Int) (hp : I64 p) (w : World) : Calls Try.prog 28 #[jv s p c] w fun e w' => e = .returned (.bool (mb s p c)) ∧ Mod (fun _ => False) w w' := by
  have HC := fun W => Cr.Check p W hp
  have HH := fun W => Cr.Has p s W
  have HI := fun W => isCounter_w c W
  have hA := (Mod.refl (fun _ => False) w).alloc (.cells #[.int .i64 s, .int .i64 p, .int .i64 c] 34)
  have HM : Hid (mb s p c = (decide (Cr.chk p = 0) && (Cr.has p s && (decide (0 ≤ c) && decide (c ≤ 9007199254740991))))) := rfl
  unfold jv
  generalize mb s p c = r at HM ⊢
  have h2 := chk_two p
  generalize Cr.chk p = k at HC HM h2
  generalize Cr.has p s = b at HH HM
  generalize (decide (0 ≤ c) && decide (c ≤ 9007199254740991)) = d at HI HM
  rcases h2 with rfl | rfl
  · cases b
    · have e : Hid (r = false) := (show _ = _ by simpa using HM.out)
      clear HM
      go_enter Try.func28, Try.ntmps28
      go_wp2_with (first | (go_at_call 34; refine (HC _).mono ?_; rintro e w' ⟨rfl, rfl⟩) | (go_at_call 22; refine (HH _).mono ?_; rintro e w' ⟨rfl, rfl⟩) | (go_at_call 25; refine (HI _).mono ?_; rintro e w' ⟨rfl, rfl⟩))
      go_ret
      exact ⟨by rw [e.out]; rfl, hA⟩
    · have e : Hid (r = d) := (show _ = _ by simpa using HM.out)
      clear HM
      go_enter Try.func28, Try.ntmps28
      go_wp2_with (first | (go_at_call 34; refine (HC _).mono ?_; rintro e w' ⟨rfl, rfl⟩) | (go_at_call 22; refine (HH _).mono ?_; rintro e w' ⟨rfl, rfl⟩) | (go_at_call 25; refine (HI _).mono ?_; rintro e w' ⟨rfl, rfl⟩))
      go_ret
      exact ⟨by rw [e.out]; rfl, hA⟩
  · have e : Hid (r = false) := (show _ = _ by simpa using HM.out)
    clear HM
    go_enter Try.func28, Try.ntmps28
    go_wp2_with (first | (go_at_call 34; refine (HC _).mono ?_; rintro e w' ⟨rfl, rfl⟩) | (go_at_call 22; refine (HH _).mono ?_; rintro e w' ⟨rfl, rfl⟩) | (go_at_call 25; refine (HI _).mono ?_; rintro e w' ⟨rfl, rfl⟩))
    go_ret
    exact ⟨by rw [e.out]; rfl, hA⟩
theorem Own.lit1 (w : World) (x : Int) : Cr.Own (w.alloc (.cells #[.int .i64 x] 3)) (.slice (some ⟨w.heap.size, 0, none⟩) 1 1) [x] := Cr.Own.lit w [x] (by simp [maxLen])
theorem one_off (n : Int) : Cr.ofe [n] = if Cr.node n then 0 else 2 := by
  unfold Cr.ofe Cr.off
  cases Cr.node n <;> simp [Cr.off]
set_option maxRecDepth 100000 in
theorem New_ok (n c : Int) (h : okN n c = true) (w : World) : Calls Try.prog 8 #[.int .i64 n, .int .i64 c] w fun e w' => ∃ p X, e = .returned (.tuple #[.pointer (some ⟨p, 0, none⟩), .int .i64 0]) ∧ Ga w' p X n c c (fun _ => none) ∧ (∀ i, X i → w.heap.size ≤ i) ∧ Mod (fun _ => False) w w' := by
  have hn : (1 ≤ n ∧ n ≤ 8) ∧ 0 ≤ c ∧ c ≤ 9007199254740991 := by simp [okN] at h; omega
  have HG : Hid (Gp n c c (fun _ => none)) := ⟨hn.1, hn.2, hn.2, by simp⟩
  have hnode : Cr.node n = true := by simp [Cr.node]; omega
  have HO := Cr.Of24 (.slice (some ⟨w.heap.size, 0, none⟩) 1 1) [n] (w.alloc (.cells #[.int .i64 n] 3)) (Own.lit1 w n).sl
  rw [one_off, hnode, if_pos rfl] at HO
  generalize Cr.ofx [n] = z at HO
  have HI := isCounter_w c (w.alloc (.cells #[.int .i64 n] 3))
  rw [show (decide (0 ≤ c) && decide (c ≤ 9007199254740991)) = true by simp; omega] at HI
  have hmm := @run_makeMap Try.prog
  clear hn h hnode
  go_enter Try.func8, Try.ntmps8
  go_wp2_with (first | (go_at_call 24; refine HO.mono ?_; rintro e w' ⟨rfl, rfl⟩) | (go_at_call 25; refine HI.mono ?_; rintro e w' ⟨rfl, rfl⟩))
  go_ret2
  have hA := ((Mod.refl (fun _ => False) w).alloc (.cells #[.int .i64 n] 3)).alloc (.map #[] 0)
  refine ⟨w.heap.size + 2, fun i => i = w.heap.size + 1 ∨ i = w.heap.size + 2, rfl, ⟨⟨w.heap.size + 1, ?_, ?_, .inl rfl⟩, .inr rfl, fun i hi => by simp; omega, HG.out⟩, fun i hi => by omega, hA.alloc _⟩
  · have := Bk.new2 (w.alloc (.cells #[.int .i64 n] 3)) (.map #[] 0) #[.int .i64 n, .int .i64 c, .int .i64 c, .map (some (w.heap.size + 1))] 54
    rwa [show (w.alloc (.cells #[.int .i64 n] 3)).heap.size + 1 = w.heap.size + 2 by simp] at this
  · have := Mj.new (w.alloc (.cells #[.int .i64 n] 3))
    rw [show (w.alloc (.cells #[.int .i64 n] 3)).heap.size = w.heap.size + 1 by simp] at this
    exact this.mod ((Mod.refl (fun _ => False) _).alloc _) (fun h => h)
set_option maxRecDepth 100000 in
theorem New_bad (n c : Int) (h : okN n c = false) (w : World) : Calls Try.prog 8 #[.int .i64 n, .int .i64 c] w fun e w' => e = .returned (.tuple #[.pointer none, .int .i64 2]) ∧ Mod (fun _ => False) w w' := by
  have HO := Cr.Of24 (.slice (some ⟨w.heap.size, 0, none⟩) 1 1) [n] (w.alloc (.cells #[.int .i64 n] 3)) (Own.lit1 w n).sl
  rw [one_off] at HO
  have hA := (Mod.refl (fun _ => False) w).alloc (.cells #[.int .i64 n] 3)
  generalize Cr.ofx [n] = z at HO
  have HI := isCounter_w c (w.alloc (.cells #[.int .i64 n] 3))
  cases hnode : Cr.node n with
  | true =>
    rw [hnode, if_pos rfl] at HO
    rw [show (decide (0 ≤ c) && decide (c ≤ 9007199254740991)) = false by simp [okN] at h; simp [Cr.node] at hnode; simp; omega] at HI
    clear h hnode
    go_enter Try.func8, Try.ntmps8
    go_wp2_with (first | (go_at_call 24; refine HO.mono ?_; rintro e w' ⟨rfl, rfl⟩) | (go_at_call 25; refine HI.mono ?_; rintro e w' ⟨rfl, rfl⟩))
    go_ret2
    exact ⟨rfl, hA⟩
  | false =>
    rw [hnode, if_neg (by simp)] at HO
    clear h hnode
    go_enter Try.func8, Try.ntmps8
    go_wp2_with (first | (go_at_call 24; refine HO.mono ?_; rintro e w' ⟨rfl, rfl⟩) | (go_at_call 25; refine HI.mono ?_; rintro e w' ⟨rfl, rfl⟩))
    go_ret2
    exact ⟨rfl, hA⟩
/-- The senders met so far. -/
def MetJ (D : DataW Value) (left : Lit → Bool) (zs : List Int) : Prop := ∀ x, x ∈ zs ↔ (I64 x ∧ Maps.has D (kl x) = true ∧ left (kl x) = false)
theorem MetJ.start (D : DataW Value) : MetJ D (Maps.has D) [] := fun x => by cases Maps.has D (kl x) <;> simp
theorem MetJ.step {D : DataW Value} {left : Lit → Bool} {zs : List Int} (h : MetJ D left zs) {x : Int} {y : DataW Value} (hx : I64 x) (hat : ∀ zd, D.atKey (kl x) zd = y) : MetJ D (fun z => left z && !z.sameKey (kl x)) (zs ++ [x]) := by
  have hhas : Maps.has D (kl x) = true := has_true_of_atKey hat
  intro y
  by_cases hy : y = x
  · subst hy
    simp [Lit.sameKey, kl, hx]
    exact hhas
  · simp [h y, hy, Lit.sameKey, kl]
set_option maxRecDepth 100000 in
set_option maxHeartbeats 2000000 in
theorem hears_w {w : World} {p : Nat} {X : Nat → Prop} {n c g : Int} {J : Int → Option Jo} (hw : Ga w p X n c g J) : Calls Try.prog 31 #[.pointer (some ⟨p, 0, none⟩)] w fun e w' => e = .returned (.int .i64 (hr n J)) ∧ Mod (fun _ => False) w w' := by
  obtain ⟨B, h1, h2, h3⟩ := hw.blk
  have c0 : w.cell? ⟨p, 0, none⟩ = some (.int .i64 n) := h1.cellv (j := 0) rfl
  have c3 : w.cell? ⟨p, 3, none⟩ = some (.map (some B)) := h1.cellv (j := 3) rfl
  obtain ⟨D, hown, hlow, hD⟩ := h2.own
  have HD : Hid (∀ x, (I64 x ∧ Maps.has D (kl x) = true) ↔ (J x).isSome = true) := fun x => ⟨fun hx => by rw [← (hD x hx.1).2]; exact hx.2, fun hx => ⟨⟨by have := h2.rng x hx; omega, by have := h2.rng x hx; omega⟩, by rw [(hD x ⟨by have := h2.rng x hx; omega, by have := h2.rng x hx; omega⟩).2]; exact hx⟩⟩
  have HSZ : Hid (Maps.size D ≤ 9) := hlow.size (hown.tidy lawI)
  have HLT : Hid (B < w.heap.size) := hown.lt
  have HGP : Hid (Gp n c g J) := hw.gp
  have HO0 : Hid (Cr.Own (w.alloc (.cells #[.int .i64 n] 3)) (.slice (some ⟨w.heap.size, 0, none⟩) 1 1) [n]) := Own.lit1 w n
  have hA := (Mod.refl (fun _ => False) w).alloc (.cells #[.int .i64 n] 3)
  have hown1 := owns_mod hown hA (fun h => h)
  have d3 := hA.cell c3 (fun h => h)
  have HA : Hid (Mod (fun _ => False) w (w.alloc (.cells #[.int .i64 n] 3))) := hA
  have hsz1 : (w.alloc (.cells #[.int .i64 n] 3)).heap.size = w.heap.size + 1 := by simp
  have HRG : Hid (∀ l : List Int, (∀ x, x ∈ l ↔ (J x).isSome = true) → (Cr.ofx (n :: l) : Int) = hr n J ∧ Cr.ofe (n :: l) = 0) := fun l hl => by have := of_hr HGP.out hl; exact ⟨by rw [this.1], this.2⟩
  generalize (hr n J : Int) = R at HRG ⊢
  clear h1 h2 hD hw hlow hown hA
  go_enter Try.func31, Try.ntmps31
  go_wp2_with (first | (at_range; refine wpList_range_own _ rfl _ 52 rfl 3 34 lawI Try.underlying52 _ B 9 D rfl hown1 ?_; intro w0 hrg0 hg0 hs0; rw [hsz1] at hrg0; rw [hsz1]) | go_in)
  go_frame
  have hM01 := (Mod.refl (fun _ => False) (w.alloc (.cells #[.int .i64 n] 3))).grown hg0 (fun k hk => by cases hk)
  have HM0 : Hid (Mod (fun _ => False) w w0) := HA.out.and hM01
  have HO1 : Hid (Cr.Own w0 _ [n]) := HO0.out.mod hM01 (fun _ _ h => h)
  clear hg0 hs0 hown1 hM01 hsz1
  go_loopw [3] (fun v wr => ∃ (left : Lit → Bool) (cnt : Nat) (zs : List Int), wr.ranges Try.prog 3 hE B (w.heap.size + 1) 9 D left cnt ∧ Hid (zs.length + cnt ≤ 9) ∧ Cr.Own wr v (n :: zs) ∧ Hid (MetJ D left zs) ∧ Hid (∀ g, v.ownBlock = some g → w.heap.size ≤ g) ∧ Mod (fun _ => False) w wr) (fun _ wr => wr.rangeLeft B (w.heap.size + 1))
  case atStart => exact ⟨_, _, [], hrg0, by show _ ≤ _; have := HSZ.out; simp; omega, HO1.out, MetJ.start D, by intro g hg; simp [Value.ownBlock] at hg; omega, HM0.out⟩
  case round =>
    clear hrg0
    obtain ⟨left, cnt, zs, hrg, hcs, hown, hC, hnew, hMr⟩ := hrel
    go_wp2_with (first | (at_next; refine wpList_next_ranges _ rfl _ rfl 3 lawI hE (Value.int .i64) (fun c : Value => c) (fun key z hk => by obtain ⟨x, hx, _⟩ := keyI hk; exact ⟨x, hx⟩) (fun v y hv => ⟨v, rfl⟩) B (w.heap.size + 1) 9 _ _ _ rfl hrg ?_ ?_) | go_in)
    · intro hc0 hl0
      have HZ : (∀ x, x ∈ zs ↔ (J x).isSome = true) := fun x => by
        have := hC.out x
        rw [hl0] at this
        rw [this, ← HD.out x]
        simp
      have HF := HRG.out zs HZ
      have HOF := Cr.Of24 _ (n :: zs) wr hown.sl
      rw [HF.1, HF.2] at HOF
      clear hl0 hc0 HZ HF HRG
      go_wp2_with (go_at_call 24; refine HOF.mono ?_; rintro e w5 ⟨rfl, rfl⟩)
      go_ret
      exact ⟨rfl, hMr⟩
    · intro x c kz yd yp w2 cnt2 hkey hlk hv hat hrg2 hlt hg2 hs2 hen
      obtain ⟨x', ex, rfl, hx⟩ := keyI hkey
      cases ex
      have hm2 : Mod (fun k => k = w.heap.size + 1) wr w2 := (Mod.refl _ wr).grown hg2 (fun k hk _ => by cases hk; rfl)
      have hM2 : Mod (fun _ => False) w w2 := hMr.trans hm2 (fun _ _ h => h) (fun k hk e => by omega)
      have ho2 := hown.mod hm2 (fun g hg e => (row_ne_iterI hown hrg).1 (e ▸ hg))
      have HLT2 : Hid (cnt2 < cnt) := hlt
      have HRGo : Hid (wr.ranges Try.prog 3 hE B (w.heap.size + 1) 9 D left cnt) := hrg
      have HRG2 : Hid (w2.ranges Try.prog 3 hE B (w.heap.size + 1) 9 D (fun z => left z && !z.sameKey (kl x)) cnt2) := hrg2
      have HC2 : Hid (MetJ D (fun z => left z && !z.sameKey (kl x)) (zs ++ [x])) := hC.out.step hx hat
      have HLZ : Hid ((n :: zs).length + 1 ≤ 1000000000000) := by show _ ≤ _; have := hcs.out; simp; omega
      clear hkey hlk hv hat hrg2 hlt hg2 hs2 hm2 hMr hown hC hrg HRG
      obtain ⟨L, eL⟩ : ∃ L, L = n :: zs := ⟨_, rfl⟩
      have HL : Hid (L = n :: zs) := eL
      rw [← eL] at ho2 HLZ
      clear eL
      go_wp2_with (first | (at_builtin; refine wpList_app1 rfl _ _ rfl _ L x w2.heap.size rfl rfl (ho2.mod ((Mod.refl (fun _ => False) w2).alloc _) (fun _ _ h => h)) (Bk.new w2 #[.int .i64 x] 3).cellz HLZ.out ?_; intro v4 w4 ho4 hm4 hf4) | go_in)
      have hA2 := (Mod.refl (fun _ => False) w2).alloc (.cells #[.int .i64 x] 3)
      have HR4 : Hid (w4.ranges Try.prog 3 hE B (w.heap.size + 1) 9 D (fun z => left z && !z.sameKey (kl x)) cnt2) := ranges_mod (ranges_mod HRG2.out hA2 (fun h => h) (fun h => h)) hm4 (row_ne_iterI ho2 HRG2.out).2 (row_ne_iterI ho2 HRG2.out).1
      have HN4 : Hid (∀ g, v4.ownBlock = some g → w.heap.size ≤ g) := fun g hg => by
        rcases hf4 g hg with h1 | h1
        · exact hnew.out g h1
        · have := hM2.size; simp at h1; omega
      have HM4 : Hid (Mod (fun _ => False) w w4) := (hM2.alloc _).trans hm4 (fun _ _ h => h) (fun g hg e => by have := hnew.out g e; omega)
      have HLn : Hid ((zs ++ [x]).length + cnt2 ≤ 9) := by show _ ≤ _; simp; have := hcs.out; have := HLT2.out; omega
      have HO4 : Hid (Cr.Own w4 v4 (n :: (zs ++ [x]))) := by have := ho4; rw [HL.out] at this; exact this
      clear hf4 hm4 hA2 ho4
      go_roundw
      case rel => exact ⟨_, _, _, HR4.out, HLn, HO4.out, HC2, HN4, HM4.out⟩
      case measure => rw [HR4.out.left_eq, HRGo.out.left_eq]; exact HLT2.out
theorem exec_call1 {o : Oper} {w : World} (ρ : Operand → Value) {f : FuncId} (hcf : ∀ args w, (callFunc f args).run Try.prog w = .ok (.enter f args) w) (hf : ρ (.func f) = .func (.func f) #[] #[]) {x : Operand} {ts : Array TypeId} (ho : o.op = .call { callee := .value (.func f), args := #[x], argTypes := ts }) : (execOp ρ o).run Try.prog w = .ok (.enter f #[ρ x]) w := by
  simp [execOp, ho, resolve, invoke, hf, go_sem, hcf]
theorem exec_call2 {o : Oper} {w : World} (ρ : Operand → Value) {f : FuncId} (hcf : ∀ args w, (callFunc f args).run Try.prog w = .ok (.enter f args) w) (hf : ρ (.func f) = .func (.func f) #[] #[]) {x y : Operand} {ts : Array TypeId} (ho : o.op = .call { callee := .value (.func f), args := #[x, y], argTypes := ts }) : (execOp ρ o).run Try.prog w = .ok (.enter f #[ρ x, ρ y]) w := by
  simp [execOp, ho, resolve, invoke, hf, go_sem, hcf]
theorem step_c1 {ops : Array Oper} {o : Oper} {a : Act} {w : World} {K : Act → World → Prop} {Q : Exit → Act → World → Prop} {E : Prop} {f : FuncId} {ts : Array TypeId} (hcf : ∀ args w, (callFunc f args).run Try.prog w = .ok (.enter f args) w) (hw : Region.wanted o (yielded ops a.tmps) = true) (x : Operand)
    (ho : o.op = .call { callee := .value (.func f), args := #[x], argTypes := ts }) (hf : a.eval (.func f) = .func (.func f) #[] #[]) (v : Value) (hx : a.eval x = v) (R : Value → World → Prop)
    (HB : Calls Try.prog f #[v] w fun e w' => ∃ r, e = .returned r ∧ R r w') (h : ∀ r w', R r w' → K (a.put o.dst r) w') :
    if Region.wanted o (yielded ops a.tmps) = true then Oper.wp Try.prog o a w K Q else E := by
  rw [if_pos hw]
  refine wp_enter (by rw [exec_call1 a.eval hcf hf ho, hx]) HB ?_
  rintro e w' ⟨r, rfl, hr⟩
  exact ⟨_, rfl, h r w' hr⟩
theorem step_c2 {ops : Array Oper} {o : Oper} {a : Act} {w : World} {K : Act → World → Prop} {Q : Exit → Act → World → Prop} {E : Prop} {f : FuncId} {ts : Array TypeId} (hcf : ∀ args w, (callFunc f args).run Try.prog w = .ok (.enter f args) w) (hw : Region.wanted o (yielded ops a.tmps) = true) (x y : Operand)
    (ho : o.op = .call { callee := .value (.func f), args := #[x, y], argTypes := ts }) (hf : a.eval (.func f) = .func (.func f) #[] #[]) (v u : Value) (hx : a.eval x = v) (hy : a.eval y = u) (R : Value → World → Prop)
    (HB : Calls Try.prog f #[v, u] w fun e w' => ∃ r, e = .returned r ∧ R r w') (h : ∀ r w', R r w' → K (a.put o.dst r) w') :
    if Region.wanted o (yielded ops a.tmps) = true then Oper.wp Try.prog o a w K Q else E := by
  rw [if_pos hw]
  refine wp_enter (by rw [exec_call2 a.eval hcf hf ho, hx, hy]) HB ?_
  rintro e w' ⟨r, rfl, hr⟩
  exact ⟨_, rfl, h r w' hr⟩
/-- A contract in the form that a step wants. -/
theorem Calls.st {f : FuncId} {A : Array Value} {w : World} {v : Value} {R : World → Prop} (h : Calls Try.prog f A w fun e w' => e = .returned v ∧ R w') : Calls Try.prog f A w fun e w' => ∃ r, e = .returned r ∧ r = v ∧ R w' :=
  h.mono fun _ _ he => ⟨v, he.1, rfl, he.2⟩
set_option maxRecDepth 100000 in
set_option maxHeartbeats 4000000 in
theorem Own_w {w : World} {p : Nat} {X : Nat → Prop} {n c g : Int} {J : Int → Option Jo} (hw : Ga w p X n c g J) : Calls Try.prog 13 #[.pointer (some ⟨p, 0, none⟩)] w fun e w' => e = .returned (jv n (hr n J) c) ∧ Mod (fun _ => False) w w' := by
  obtain ⟨B, h1, h2, h3⟩ := hw.blk
  have hA := (Mod.refl (fun _ => False) w).alloc (.cells #[.int .i64 0, .int .i64 0, .int .i64 0] 34)
  have c0 : w.cell? ⟨p, 0, none⟩ = some (.int .i64 n) := h1.cellv (j := 0) rfl
  have c1 : w.cell? ⟨p, 1, none⟩ = some (.int .i64 c) := h1.cellv (j := 1) rfl
  have d0 := hA.cell c0 (fun h => h)
  have d1 := hA.cell c1 (fun h => h)
  have HN := isNone_w d0 hw.gp.node.1
  have HA : Hid (Mod (fun _ => False) w _) := hA
  have HH := fun W (hm : Mod (fun _ => False) w W) => hears_w (hw.keep hm)
  have HB : Hid (Bk _ _ _ _) := Bk.new w #[.int .i64 0, .int .i64 0, .int .i64 0] 34
  generalize (hr n J : Int) = R at HH ⊢
  have hM := hA.drew
  have HH' := fun W (hm : Mod (fun _ => False) w W) => Calls.st (HH W hm)
  clear h1 h2 h3 hw c0 c1 hA
  unfold jv
  go_enter Try.func13, Try.ntmps13
  go_wp2_with (go_at_call 27; refine HN.mono ?_; rintro e w' ⟨rfl, rfl⟩)
  go_region_law (refine step_c1 (fun args w => by simp [go_sem]) (by rfl) _ (by rfl) (by rfl) _ (by rfl) _ (HH' _ ?_) ?_; exact hM; rintro r w6 ⟨rfl, hm6⟩; have hB6 := (HB.out.mod ((Mod.refl (fun _ => False) _).drew) (fun h => h)).mod hm6 (fun h => h); have z0 := hB6.cellv (j := 0) rfl; have z1 := hB6.cellv (j := 1) rfl; have z2 := hB6.cellv (j := 2) rfl; have f0 := hB6.frz 0; have f1 := hB6.frz 1; have f2 := hB6.frz 2; replace d0 := hm6.cell d0 (fun h => h); replace d1 := hm6.cell d1 (fun h => h))
  all_goals go_wp2
  all_goals have hB7 := ((hB6.set 0 (.int .i64 n)).set 1 (.int .i64 R)).set 2 (.int .i64 c)
  all_goals simp only [List.setIfInBounds_toArray, List.set_cons_succ, List.set_cons_zero] at hB7
  all_goals have hm7 := (((Mod.refl (fun q => q = w.heap.size) w6).setCell ⟨w.heap.size, 0, none⟩ (.int .i64 n) (.inl rfl)).setCell ⟨w.heap.size, 1, none⟩ (.int .i64 R) (.inl rfl)).setCell ⟨w.heap.size, 2, none⟩ (.int .i64 c) (.inl rfl)
  all_goals exact bodyPost_ret (resT info3c Try.underlying34 rfl rfl rfl hB7 rfl) rfl ⟨rfl, (hM.and hm6).trans hm7 (V := fun _ => False) (fun _ _ h => h) (fun q hq h => by omega)⟩
theorem Counter_w {w : World} {p : Nat} {X : Nat → Prop} {n c g : Int} {J : Int → Option Jo} (hw : Ga w p X n c g J) : Calls Try.prog 17 #[.pointer (some ⟨p, 0, none⟩)] w fun e w' => e = .returned (.int .i64 g) ∧ w' = w := by
  obtain ⟨B, h1, h2, h3⟩ := hw.blk
  have HN := isNone_w (h1.cellv (j := 0) rfl) hw.gp.node.1
  have c2 : w.cell? ⟨p, 2, none⟩ = some (.int .i64 g) := h1.cellv (j := 2) rfl
  clear h1 h2 hw
  go_enter Try.func17, Try.ntmps17
  go_wp2_with (go_at_call 27; refine HN.mono ?_; rintro e w' ⟨rfl, rfl⟩)
  go_ret
  exact ⟨rfl, rfl⟩
/-- Whether all that are heard hear just these. -/
def ag (J : Int → Option Jo) (m : Nat) : Bool := (List.range 9).all fun k => match J (k : Nat) with | none => true | some j => j.p == (m : Int)
theorem ag_iff {n c g : Int} {J : Int → Option Jo} (h : Gp n c g J) (m : Nat) : ag J m = true ↔ ∀ k j, J k = some j → j.p = m := by
  unfold ag
  rw [List.all_eq_true]
  constructor
  · intro ha k j hj
    have := h.each k j hj
    have hk := ha k.toNat (List.mem_range.2 (by omega))
    rw [Int.toNat_of_nonneg (by omega), hj] at hk
    simpa using hk
  · intro ha k _
    cases hj : J (k : Int) with
    | none => rfl
    | some j => simpa using ha k j hj
set_option maxRecDepth 100000 in
set_option maxHeartbeats 2000000 in
theorem Agreed_w {w : World} {p : Nat} {X : Nat → Prop} {n c g : Int} {J : Int → Option Jo} (hw : Ga w p X n c g J) : Calls Try.prog 15 #[.pointer (some ⟨p, 0, none⟩)] w fun e w' => e = .returned (.bool (ag J (hr n J))) ∧ Mod (fun _ => False) w w' := by
  have HH := hears_w hw
  have HAG : Hid (ag J (hr n J) = true ↔ ∀ k j, J k = some j → j.p = hr n J) := ag_iff hw.gp _
  generalize ag J (hr n J) = A at HAG ⊢
  generalize hr n J = m at HH HAG
  have hw1 := fun W (hm : Mod (fun _ => False) w W) => hw.keep hm
  obtain ⟨B, h1, h2, h3⟩ := hw.blk
  have HN := isNone_w (h1.cellv (j := 0) rfl) hw.gp.node.1
  have c3 : w.cell? ⟨p, 3, none⟩ = some (.map (some B)) := h1.cellv (j := 3) rfl
  obtain ⟨D, hown, hlow, hD⟩ := h2.own
  have HD : Hid (∀ x, I64 x → D.atKey (kl x) (.held (jv 0 0 0)) = .held (mj (J x) x) ∧ Maps.has D (kl x) = (J x).isSome) := hD
  have HR : Hid (∀ x, (J x).isSome = true → 1 ≤ x ∧ x ≤ 8) := h2.rng
  clear h1 h2 hD hw hlow hw1
  go_enter Try.func15, Try.ntmps15
  go_wp2_with (first | (go_at_call 27; refine HN.mono ?_; rintro e w ⟨rfl, rfl⟩) | (go_at_call 31; refine HH.mono ?_; rintro e w1 ⟨rfl, hm1⟩; replace c3 := hm1.cell c3 (fun h => h); replace hown := owns_mod hown hm1 (fun h => h)) | (at_range; refine wpList_range_own _ rfl _ 52 rfl 3 34 lawI Try.underlying52 _ B 9 D rfl hown ?_; intro w0 hrg0 hg0 hs0) | go_in)
  go_frame
  have hM01 := (Mod.refl (fun _ => False) w1).grown hg0 (fun k hk => by cases hk)
  have HM0 : Hid (Mod (fun _ => False) w w0) := hm1.and hM01
  have HS1 : Hid (w.heap.size ≤ w1.heap.size) := hm1.size
  clear hg0 hs0 hown hM01 HH HN c3 hm1
  go_loopw [] (fun wr => ∃ (left : Lit → Bool) (cnt : Nat), wr.ranges Try.prog 3 hE B w1.heap.size 9 D left cnt ∧ Hid (∀ x, I64 x → Maps.has D (kl x) = true → left (kl x) = false → ∀ j, J x = some j → j.p = m) ∧ Mod (fun _ => False) w wr) (fun wr => wr.rangeLeft B w1.heap.size)
  case atStart => exact ⟨_, _, hrg0, (show ∀ x, _ from fun x _ h1 h2 => by rw [h1] at h2; cases h2), HM0.out⟩
  case round =>
    clear hrg0
    obtain ⟨left, cnt, hrg, hC, hMr⟩ := hrel
    go_wp2_with (first | (at_next; refine wpList_next_ranges _ rfl _ rfl 3 lawI hE (Value.int .i64) (fun c : Value => c) (fun key z hk => by obtain ⟨x, hx, _⟩ := keyI hk; exact ⟨x, hx⟩) (fun v y hv => ⟨v, rfl⟩) B w1.heap.size 9 _ _ _ rfl hrg ?_ ?_) | go_in)
    · intro hc0 hl0
      have HZ : Hid (A = true) := HAG.out.2 fun k j hj => by
        have hk := HR.out k (by rw [hj]; rfl)
        have hi : I64 k := ⟨by omega, by omega⟩
        exact hC.out k hi (by rw [(HD.out k hi).2, hj]; rfl) (hl0 _) j hj
      clear hl0 hc0
      go_wp2
      go_ret
      exact ⟨by rw [HZ.out]; rfl, hMr⟩
    · intro x c kz yd yp w2 cnt2 hkey hlk hv hat hrg2 hlt hg2 hs2 hen
      obtain ⟨x', ex, rfl, hx⟩ := keyI hkey
      cases ex
      have hm2 : Mod (fun k => k = w1.heap.size) wr w2 := (Mod.refl _ wr).grown hg2 (fun k hk _ => by cases hk; rfl)
      have hM2 : Mod (fun _ => False) w w2 := hMr.trans hm2 (fun _ _ h => h) (fun k hk e => by have := HS1.out; omega)
      have HLT2 : Hid (cnt2 < cnt) := hlt
      have HRGo : Hid (wr.ranges Try.prog 3 hE B w1.heap.size 9 D left cnt) := hrg
      have HRG2 : Hid (w2.ranges Try.prog 3 hE B w1.heap.size 9 D (fun z => left z && !z.sameKey (kl x)) cnt2) := hrg2
      have hhas : Maps.has D (kl x) = true := has_true_of_atKey hat
      obtain ⟨j, hj⟩ : ∃ j, J x = some j := Option.isSome_iff_exists.1 (by rw [← (HD.out x hx).2]; exact hhas)
      have hce : c = jv x j.p j.c := by
        have h1 := (HD.out x hx).1
        rw [hat, hj] at h1
        simp only [hE, Option.some.injEq, Prod.mk.injEq] at hv
        rw [← hv.1] at h1
        simpa [mj] using h1
      subst hce
      have HJ : Hid (J x = some j) := hj
      have hA2 := (Mod.refl (fun _ => False) w2).alloc (.cells #[.int .i64 x, .int .i64 j.p, .int .i64 j.c] 34)
      unfold jv at hen
      by_cases hjp : j.p = (m : Int)
      · have HC2 : Hid (∀ y, I64 y → Maps.has D (kl y) = true → (fun z : Lit => left z && !z.sameKey (kl x)) (kl y) = false → ∀ j, J y = some j → j.p = m) := fun y hy h1 h2 j' hj' => by
          by_cases e : y = x
          · subst e
            rw [hj] at hj'
            cases hj'
            exact hjp
          · refine hC.out y hy h1 ?_ j' hj'
            simpa [Lit.sameKey, kl, e] using h2
        have hq : (j.p != (m : Int)) = false := by simpa using hjp
        clear hkey hlk hv hat hrg2 hlt hg2 hs2 hm2 hMr hC hrg hhas hj hjp
        go_wp2
        go_roundw
        case rel => exact ⟨_, _, ranges_mod HRG2.out hA2 (fun h => h) (fun h => h), HC2, hM2.and hA2⟩
        case measure => rw [(ranges_mod HRG2.out hA2 (fun h => h) (fun h => h)).left_eq, HRGo.out.left_eq]; exact HLT2.out
      · have HZ : Hid (A = false) := by
          show A = false
          rw [Bool.eq_false_iff]
          intro h
          exact hjp (HAG.out.1 h x j hj)
        have hq : (j.p != (m : Int)) = true := by simpa using hjp
        clear hkey hlk hv hat hrg2 hlt hg2 hs2 hm2 hMr hC hrg hhas hj hjp
        go_wp2
        go_ret
        exact ⟨by rw [HZ.out]; rfl, hM2.and hA2⟩
end Go.Proofs.Ytmfdgbdcbfppcaa
