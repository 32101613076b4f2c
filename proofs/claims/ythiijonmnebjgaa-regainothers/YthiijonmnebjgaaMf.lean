/- RegainOthers: what is of another configuration changes nothing. Of all ring numbers and numbers of data. No conditions. -/
import Derived.Test.YthiijonmnebjgaaMe
import Derived.Test.YthiijonmnebjgaaMg
import Derived.Test.YthiijonmnebjgaaYi
import Derived.Deep.RegionLaw
namespace Go.Proofs.Ythiijonmnebjgaa
open Go.RowKit
theorem step_bring {ops : Array Oper} {o : Oper} {a : Act} {w : World} {K : Act → World → Prop} {Q : Exit → Act → World → Prop} {E : Prop} {ts : Array TypeId} (hw : Region.wanted o (yielded ops a.tmps) = true) (x y : Operand)
    (ho : o.op = .call { callee := .value (.func 6), args := #[x, y], argTypes := ts }) (vx vy r : Value) (hx : a.eval x = vx) (hy : a.eval y = vy)
    (HB : ∀ W, Calls Try.prog 6 #[vx, vy] W fun e w' => e = .returned r ∧ w' = W) (h : K (a.put o.dst r) w) :
    if Region.wanted o (yielded ops a.tmps) = true then Oper.wp Try.prog o a w K Q else E := by
  rw [if_pos hw]
  refine wp_enter (by rw [exec_call2 a.eval (fun args w => by simp [go_sem]) rfl ho, hx, hy]) (HB w) ?_
  rintro e w' ⟨rfl, rfl⟩
  exact ⟨_, rfl, h⟩
theorem kz1 {k : Int} (hk : 1 ≤ k) : Kz (ins S0 k) 0 [k] := ⟨List.pairwise_singleton _ _, fun x => by
  simp only [ins, S0, List.mem_singleton, Bool.false_or, beq_iff_eq]
  omega⟩
theorem kz0 : Kz S0 0 [] := ⟨List.Pairwise.nil, fun x => by simp [S0]⟩
theorem bring_at (x : Int) (m : Nat) (b : Int) (hb : b = m) (w : World) (h0 : 0 < m) (hm : m ≤ 1152921504606846976) (h : I64 x) : Calls Try.prog 6 #[.int .i64 x, .int .i64 b] w fun e w' => e = .returned (.int .i64 (br x b)) ∧ w' = w := by
  subst hb
  exact bring x m w h0 hm h
set_option maxRecDepth 100000 in
set_option maxHeartbeats 8000000 in
theorem others_walk (x0 x1 n : Int) (w : World) (i0 : I64 x0) (i1 : I64 x1) (i2 : I64 n) : Calls Try.prog 4 #[.agg #[.int .i64 x0, .int .i64 x1], .int .i64 n] w fun e w' => e = .returned (.bool true) ∧ Mod (fun _ => False) w w' := by
  obtain ⟨rb, erb⟩ : ∃ rb, rb = w.heap.size := ⟨_, rfl⟩
  have hA := (Mod.refl (fun _ => False) w).alloc (.cells #[.int .i64 x0, .int .i64 x1] 34)
  have hB := Bk.new w #[.int .i64 x0, .int .i64 x1] 34
  have HAW := awake_any (w.alloc (.cells #[.int .i64 x0, .int .i64 x1] 34))
  have HA : Hid (Mod _ _ _) := hA
  have HB : Hid (Bk _ _ _ _) := hB
  have HRB : Hid (rb = w.heap.size) := erb
  have q1 := br_rng x0 3 (by omega)
  have q2 := br_rng x1 2 (by omega)
  have q3 := br_rng n 50 (by omega)
  have K0 := fun W => bring_at x0 3 3 rfl W (by omega) (by omega) i0
  have K1 := fun W => bring_at x1 2 2 rfl W (by omega) (by omega) i1
  have K2 := fun W => bring_at n 50 50 rfl W (by omega) (by omega) i2
  generalize br x0 3 = y0 at K0 q1
  generalize br x1 2 = y1 at K1 q2
  generalize br n 50 = y2 at K2 q3
  have HQ : Hid ((0 ≤ y0 ∧ y0 < 3) ∧ (0 ≤ y1 ∧ y1 < 2) ∧ (0 ≤ y2 ∧ y2 < 50)) := ⟨⟨q1.1, q1.2.1⟩, ⟨q2.1, q2.2.1⟩, ⟨q3.1, q3.2.1⟩⟩
  have e1 : IntKind.i64.wrap ((1 : Int) + y0) = 1 + y0 := by rw [IntKind.wrap_i64]; omega
  have e2 : IntKind.i64.wrap ((1 : Int) + y1) = 1 + y1 := by rw [IntKind.wrap_i64]; omega
  have e3 : IntKind.i64.wrap ((1 : Int) + y2) = 1 + y2 := by rw [IntKind.wrap_i64]; omega
  clear q1 q2 q3 hA hB i0 i1 i2 erb
  go_enter Try.func4, Try.ntmps4
  go_wp2_with (fail)
  refine HAW.mono ?_
  rintro e w1 ⟨rfl, hm1⟩
  have HB1 := HB.out.mod hm1 (fun h => h)
  have HM1 : Hid (Mod (fun _ => False) w w1) := HA.out.and hm1
  go_upto_region 3 with (fail)
  rw [← HRB.out] at HB1 ⊢
  have r0 : w1.cell? ⟨rb, 0, none⟩ = some (.int .i64 x0) := HB1.cellv (j := 0) rfl
  have r1 : w1.cell? ⟨rb, 1, none⟩ = some (.int .i64 x1) := HB1.cellv (j := 1) rfl
  have f0 := HB1.frz 0
  have f1 := HB1.frz 1
  have HBk1 : Hid (Bk w1 rb 34 #[.int .i64 x0, .int .i64 x1]) := HB1
  have HL1 : Hid (w.heap.size ≤ rb ∧ rb < w1.heap.size) := ⟨by have := HRB.out; omega, HB1.lt⟩
  clear HB1 hm1 HAW HA HB HRB
  go_cut [] (fun wx => Bk wx rb 34 #[.int .i64 (1 + y0), .int .i64 (1 + y1)] ∧ Mod (fun i => i = rb) w1 wx)
  case first =>
    go_region_law (first
      | (refine step_bring (by rfl) _ _ (by rfl) _ _ _ (by rfl) (by rfl) K0 ?_)
      | (refine step_bring (by rfl) _ _ (by rfl) _ _ _ (by rfl) (by rfl) K1 ?_))
    all_goals go_wp2
    all_goals go_meet
    all_goals
      have hs := (HBk1.out.set 0 (.int .i64 (1 + y0))).set 1 (.int .i64 (1 + y1))
      simp only [List.setIfInBounds_toArray, List.set_cons_succ, List.set_cons_zero] at hs
      have hmm := ((Mod.refl (fun i => i = rb) w1).setCell ⟨rb, 0, none⟩ (.int .i64 (1 + y0)) (.inl rfl)).setCell ⟨rb, 1, none⟩ (.int .i64 (1 + y1)) (.inl rfl)
      exact ⟨hs.mod ((Mod.refl (fun _ => False) _).drew) (fun h => h), hmm.trans ((Mod.refl (fun _ => False) _).drew) (V := fun i => i = rb) (fun _ _ h => h) (fun _ _ h => h.elim)⟩
  case rest =>
  obtain ⟨hB2, hm2⟩ := hcut
  generalize wc = w2 at *
  have HM2 : Hid (Mod (fun i => w.heap.size ≤ i) w w2 ∧ w.heap.size ≤ rb) := ⟨HM1.out.trans hm2 (V := fun i => w.heap.size ≤ i) (fun _ _ h => h.elim) (fun i _ h => by have := HL1.out.1; omega), HL1.out.1⟩
  obtain ⟨rq, erq⟩ : ∃ rq, 1 + y0 = rq := ⟨_, rfl⟩
  obtain ⟨rr, err⟩ : ∃ rr, 1 + y1 = rr := ⟨_, rfl⟩
  obtain ⟨k, ek⟩ : ∃ k, 1 + y2 = k := ⟨_, rfl⟩
  rw [erq, err] at hB2
  replace e3 : IntKind.i64.wrap ((1 : Int) + y2) = k := e3.trans ek
  have HK : Hid ((1 ≤ rq ∧ rq ≤ 3) ∧ (1 ≤ rr ∧ rr ≤ 2) ∧ (1 ≤ k ∧ k ≤ 100)) := by
    have := HQ.out
    refine ⟨⟨?_, ?_⟩, ⟨?_, ?_⟩, ⟨?_, ?_⟩⟩ <;> omega
  have HIS : Hid (isr rq rr = true ∧ cr rq rr = 0) := by
    have hk := HK.out
    have hc : cr rq rr = 0 := by rw [cr, if_pos (.inr ⟨by omega, by omega, by omega, by omega⟩)]
    refine ⟨?_, hc⟩
    rw [isr, hc]
    simp
    omega
  have HB2 : Hid (Bk w2 rb 34 #[.int .i64 rq, .int .i64 rr]) := hB2
  clear hB2 hm2 HM1 HL1 HBk1 r0 r1 f0 f1 erq err ek e1 e2 K0 K1
  go_wp2_with (fail)
  refine (K2 _).mono ?_
  rintro e w2' ⟨rfl, e1⟩
  replace e1 := e1.symm
  subst e1
  go_wp2_with (fail)
  refine (one_any k w2 HK.out.2.2).mono ?_
  rintro e w3 ⟨v, rfl, ho, hg, hm⟩
  obtain ⟨av, cv, rfl⟩ := ho.shape
  simp only [List.length_singleton] at ho hg ⊢
  unfold dv on
  have HO3 : Hid (Own w3 (.slice av 1 cv) [k]) := ho
  have HM3 : Hid (Mod (fun i => w.heap.size ≤ i) w w3) := HM2.out.1.trans hm (V := fun i => w.heap.size ≤ i) (fun _ _ h => h) (fun _ _ h => h.elim)
  have HB3 : Hid (Bk w3 rb 34 #[.int .i64 rq, .int .i64 rr]) := HB2.out.mod hm (fun h => h)
  clear ho hg hm K2 HB2 e3
  go_upto_region 5 with (refine wpList_store_row info18 rfl rfl _ _ rfl w3.heap.size #[.int .i64 (onR 2 1 k).q, .int .i64 (onR 2 1 k).r, .int .i64 (onR 2 1 k).n, .int .i64 (onR 2 1 k).s, .int .i64 (onR 2 1 k).t, .int .i64 (onR 2 1 k).m.kind, .int .i64 (onR 2 1 k).m.origin, .int .i64 (onR 2 1 k).m.life, .int .i64 (onR 2 1 k).m.id, .int .i64 (onR 2 1 k).m.part, .int .i64 (onR 2 1 k).m.parts, .int .i64 (onR 2 1 k).m.groups, .bool (onR 2 1 k).m.safe, .int .i64 (onR 2 1 k).m.st, .int .i64 (onR 2 1 k).m.rs, .int .i64 (onR 2 1 k).m.rr, .int .i64 (onR 2 1 k).m.sq, .slice av 1 cv] rfl rfl (Bk.new w3 _ _) rfl rfl rfl ?_; intro w4 hD hmD)
  obtain ⟨db, edb⟩ : ∃ db, db = w3.heap.size := ⟨_, rfl⟩
  rw [← edb] at hD ⊢
  have hM34 : Mod (fun _ => False) w3 w4 := ((Mod.refl (fun _ => False) w3).alloc _).trans hmD (V := fun _ => False) (fun _ _ h => h) (fun i hi e => by omega)
  have hB4 := HB3.out.mod hM34 (fun h => h)
  have r0 : w4.cell? ⟨rb, 0, none⟩ = some (.int .i64 rq) := hB4.cellv (j := 0) rfl
  have r1 : w4.cell? ⟨rb, 1, none⟩ = some (.int .i64 rr) := hB4.cellv (j := 1) rfl
  have c0 : w4.cell? ⟨db, 0, none⟩ = some (.int .i64 2) := hD.cellv (j := 0) rfl
  have c1 : w4.cell? ⟨db, 1, none⟩ = some (.int .i64 1) := hD.cellv (j := 1) rfl
  have f0 := hD.frz 0
  have f1 := hD.frz 1
  have hD5 := (hD.set 0 (.int .i64 rq)).set 1 (.int .i64 rr)
  simp only [List.setIfInBounds_toArray, List.set_cons_succ, List.set_cons_zero] at hD5
  have hm45 := ((Mod.refl (fun i => i = db) w4).setCell ⟨db, 0, none⟩ (.int .i64 rq) (.inl rfl)).setCell ⟨db, 1, none⟩ (.int .i64 rr) (.inl rfl)
  have HD5 : Hid (Bk ((w4.setCell ⟨db, 0, none⟩ (.int .i64 rq)).setCell ⟨db, 1, none⟩ (.int .i64 rr)) db 41 #[.int .i64 (onR rq rr k).q, .int .i64 (onR rq rr k).r, .int .i64 (onR rq rr k).n, .int .i64 (onR rq rr k).s, .int .i64 (onR rq rr k).t, .int .i64 (onR rq rr k).m.kind, .int .i64 (onR rq rr k).m.origin, .int .i64 (onR rq rr k).m.life, .int .i64 (onR rq rr k).m.id, .int .i64 (onR rq rr k).m.part, .int .i64 (onR rq rr k).m.parts, .int .i64 (onR rq rr k).m.groups, .bool (onR rq rr k).m.safe, .int .i64 (onR rq rr k).m.st, .int .i64 (onR rq rr k).m.rs, .int .i64 (onR rq rr k).m.rr, .int .i64 (onR rq rr k).m.sq, .slice av 1 cv]) := hD5
  have HW5 : Hid (w.heap.size ≤ db) := by have := HM3.out.size; show _ ≤ _; omega
  have HM5 : Hid (Mod (fun i => w.heap.size ≤ i) w ((w4.setCell ⟨db, 0, none⟩ (.int .i64 rq)).setCell ⟨db, 1, none⟩ (.int .i64 rr))) := (HM3.out.trans hM34 (V := fun i => w.heap.size ≤ i) (fun _ _ h => h) (fun _ _ h => h.elim)).trans hm45 (fun _ _ h => h) (fun i _ h => h ▸ HW5.out)
  have HB5 : Hid (Bk ((w4.setCell ⟨db, 0, none⟩ (.int .i64 rq)).setCell ⟨db, 1, none⟩ (.int .i64 rr)) rb 34 #[.int .i64 rq, .int .i64 rr]) := hB4.mod hm45 (fun e => by have := HB3.out.lt; omega)
  have HO5 : Hid (Own ((w4.setCell ⟨db, 0, none⟩ (.int .i64 rq)).setCell ⟨db, 1, none⟩ (.int .i64 rr)) (.slice av 1 cv) [k]) := (HO3.out.mod hM34 (fun _ _ h => h)).mod hm45 (fun g hg e => hD.ne_ow (by decide) (HO3.out.mod hM34 (fun _ _ h => h)) (e ▸ hg))
  clear hD hmD hM34 hB4 hD5 hm45 edb HB3 HO3 HM3 HM2
  go_upto_region 6 with (fail)
  generalize (w4.setCell ⟨db, 0, none⟩ (.int .i64 rq)).setCell ⟨db, 1, none⟩ (.int .i64 rr) = w5 at *
  clear r0 r1 c0 c1 f0 f1
  go_wp2_with (fail)
  refine (wNew w5).mono ?_
  rintro e w6 ⟨p, X, rfl, hw6, hX6, hm6⟩
  go_wp2_with (fail)
  refine (wNew w6).mono ?_
  rintro e w7 ⟨p2, Z, rfl, hv7, hZ7, hm7⟩
  have hm57 := hm6.and hm7
  have HW7 : Hid (Wn w7 p X (jOf rq rr S0) 0 0 0) := hw6.keep hm7
  have HV7 : Hid (Wn w7 p2 Z (jOf rq rr S0) 0 0 0) := hv7
  have HD7 : Hid (∀ i, Z i → ¬ X i) := fun i hi h => by have := hw6.mem.lt i h; have := hZ7 i hi; omega
  have hD7 := HD5.out.mod hm57 (fun h => h)
  have HB7 : Hid (Bk w7 rb 34 #[.int .i64 rq, .int .i64 rr]) := HB5.out.mod hm57 (fun h => h)
  have HO7 : Hid (Own w7 (.slice av 1 cv) [k]) := HO5.out.mod hm57 (fun _ _ h => h)
  have HXZ : Hid ((∀ i, X i → w5.heap.size ≤ i) ∧ (∀ i, Z i → w5.heap.size ≤ i) ∧ rb < w5.heap.size ∧ w.heap.size ≤ w5.heap.size) := ⟨hX6, fun i hi => by have := hZ7 i hi; have := hm6.size; omega, HB5.out.lt, HM5.out.size⟩
  have HM7 : Hid (Mod (fun i => w.heap.size ≤ i) w w7) := HM5.out.trans hm57 (V := fun i => w.heap.size ≤ i) (fun _ _ h => h) (fun _ _ h => h.elim)
  have hP := Put_j HW7.out HIS.out.2 k HK.out.2.2 (.slice av 1 cv) (HO7.out.sl (onR_rng (q := 2) (r := 1) HK.out.2.2)) (by decide)
  unfold dv at hP
  clear hw6 hX6 hm6 hv7 hZ7 hm7 hm57 HD5 HB5 HO5 HM5
  go_wp2_with (refine wpList_load_row info18 Try.underlying41 rfl rfl _ rfl db rfl hD7 rfl ?_; simp only [Act.put, List.setIfInBounds_toArray, List.set_cons_succ, List.set_cons_zero])
  refine hP.mono ?_
  rintro e w8 ⟨X8, a8, rfl, hw8, hm8, hg8⟩
  have HW8 : Hid (Wn w8 p X8 (jOf rq rr (ins S0 k)) a8 _ 1) := hw8
  have HV8 : Hid (Wn w8 p2 Z (jOf rq rr S0) 0 0 0) := HV7.out.mod hm8 HD7.out
  have hz8 := hg8.apart HV7.out.mem.lt HD7.out
  have HB8 : Hid (Bk w8 rb 34 #[.int .i64 rq, .int .i64 rr]) := HB7.out.mod hm8 (fun h => by have := HXZ.out.1 rb h; have := HXZ.out.2.2.1; omega)
  have HM8 : Hid (Mod (fun i => w.heap.size ≤ i) w w8) := HM7.out.trans hm8 (V := fun i => w.heap.size ≤ i) (fun _ _ h => h) (fun i _ h => by have := HXZ.out.1 i h; have := HXZ.out.2.2.2; omega)
  have HNR := New_j hw8 HIS.out.1 (fun x hx => by simp only [ins, S0, Bool.false_or, beq_iff_eq] at hx; have := HK.out.2.2; omega) (by decide) 0
  clear hP hw8 hm8 hg8 hz8 HW7 HV7 HD7 hD7 HB7 HO7 HM7
  go_wp2_with (fail)
  refine HNR.mono ?_
  rintro e w9 ⟨b, zs, rfl, hK, hR, hm9⟩
  obtain rfl := hK.uniq (kz1 HK.out.2.2.1)
  obtain ⟨yd, hyd⟩ : ∃ Y : Nat → Prop, Y = (fun i => w8.heap.size ≤ i ∧ i < w9.heap.size) := ⟨_, rfl⟩
  rw [← hyd] at hR
  have HYD : Hid (∀ i, yd i → w8.heap.size ≤ i ∧ i < w9.heap.size) := by rw [hyd]; exact fun i h => h
  have HR9 : Hid (Rg w9 b yd [oldm (onR rq rr k)]) := hR
  have HN := Next_cons HR9.out
  have HZ9 : Hid (∀ i, Z i → i < w8.heap.size) := HV8.out.mem.lt
  have HV9 : Hid (Wn w9 p2 Z (jOf rq rr S0) 0 0 0) := HV8.out.keep hm9
  have HB9 : Hid (Bk w9 rb 34 #[.int .i64 rq, .int .i64 rr] ∧ w8.heap.size ≤ w9.heap.size ∧ rb < w8.heap.size) := ⟨HB8.out.mod hm9 (fun h => h), hm9.size, HB8.out.lt⟩
  have HM9 : Hid (Mod (fun i => w.heap.size ≤ i) w w9 ∧ w.heap.size ≤ w8.heap.size) := ⟨HM8.out.trans hm9 (V := fun i => w.heap.size ≤ i) (fun _ _ h => h) (fun _ _ h => h.elim), HM8.out.size⟩
  unfold mvl at HN
  clear HNR hK hR hm9 hyd HW8 HV8 HB8 HM8
  go_wp2_with (fail)
  refine HN.mono ?_
  rintro e wa ⟨va, rfl, hoa, hga, hra, -, -, hma⟩
  obtain ⟨aa, ca, rfl⟩ := hoa.shape
  obtain ⟨la, ela⟩ : ∃ la, (oldm (onR rq rr k)).body.length = la := ⟨_, rfl⟩
  rw [ela] at hoa hga ⊢
  have HOA : Hid (Own wa (.slice aa la ca) (oldm (onR rq rr k)).body ∧ (∀ c ∈ (oldm (onR rq rr k)).body, 0 ≤ c ∧ c ≤ 255)) := ⟨hoa, hra⟩
  have HVA : Hid (Wn wa p2 Z (jOf rq rr S0) 0 0 0) := HV9.out.mod hma (fun i hi h => by have := HZ9.out i hi; have := (HYD.out i h).1; omega)
  have HBA : Hid (Bk wa rb 34 #[.int .i64 rq, .int .i64 rr]) := HB9.out.1.mod hma (fun h => by have := (HYD.out rb h).1; have := HB9.out.2.2; omega)
  have HMA : Hid (Mod (fun i => w.heap.size ≤ i) w wa) := HM9.out.1.trans hma (V := fun i => w.heap.size ≤ i) (fun _ _ h => h) (fun i _ h => by have := (HYD.out i h).1; have := HM9.out.2; omega)
  clear hoa hga hra hma ela HN HV9 HB9 HR9
  go_upto_region 12 with (refine wpList_store_row infoM rfl rfl _ _ rfl wa.heap.size #[.int .i64 (oldm (onR rq rr k)).kind, .int .i64 (oldm (onR rq rr k)).origin, .int .i64 (oldm (onR rq rr k)).life, .int .i64 (oldm (onR rq rr k)).id, .int .i64 (oldm (onR rq rr k)).part, .int .i64 (oldm (onR rq rr k)).parts, .int .i64 (oldm (onR rq rr k)).groups, .bool (oldm (onR rq rr k)).safe, .int .i64 (oldm (onR rq rr k)).st, .int .i64 (oldm (onR rq rr k)).rs, .int .i64 (oldm (onR rq rr k)).rr, .int .i64 (oldm (onR rq rr k)).sq, .slice aa la ca] rfl rfl (Bk.new wa _ _) rfl rfl rfl ?_; intro wb hBb hmb)
  obtain ⟨ba, eba⟩ : ∃ ba, ba = wa.heap.size := ⟨_, rfl⟩
  rw [← eba] at hBb ⊢
  have hMab : Mod (fun _ => False) wa wb := ((Mod.refl (fun _ => False) wa).alloc _).trans hmb (V := fun _ => False) (fun _ _ h => h) (fun i hi e => by omega)
  have HBb : Hid (Bk wb ba 39 #[.int .i64 (oldm (onR rq rr k)).kind, .int .i64 (oldm (onR rq rr k)).origin, .int .i64 (oldm (onR rq rr k)).life, .int .i64 (oldm (onR rq rr k)).id, .int .i64 (oldm (onR rq rr k)).part, .int .i64 (oldm (onR rq rr k)).parts, .int .i64 (oldm (onR rq rr k)).groups, .bool (oldm (onR rq rr k)).safe, .int .i64 (oldm (onR rq rr k)).st, .int .i64 (oldm (onR rq rr k)).rs, .int .i64 (oldm (onR rq rr k)).rr, .int .i64 (oldm (onR rq rr k)).sq, .slice aa la ca]) := hBb
  have HVB : Hid (Wn wb p2 Z (jOf rq rr S0) 0 0 0) := HVA.out.keep hMab
  have HBB : Hid (Bk wb rb 34 #[.int .i64 rq, .int .i64 rr]) := HBA.out.mod hMab (fun h => h)
  have HOB : Hid (Own wb (.slice aa la ca) (oldm (onR rq rr k)).body ∧ (∀ c ∈ (oldm (onR rq rr k)).body, 0 ≤ c ∧ c ≤ 255)) := ⟨HOA.out.1.mod hMab (fun _ _ h => h), HOA.out.2⟩
  have HMB : Hid (Mod (fun i => w.heap.size ≤ i) w wb) := HMA.out.trans hMab (V := fun i => w.heap.size ≤ i) (fun _ _ h => h) (fun _ _ h => h.elim)
  have HZB : Hid (∀ i, Z i → w.heap.size ≤ i) := fun i hi => by have := HXZ.out.2.1 i hi; have := HXZ.out.2.2.2; omega
  have HZR : Hid (¬ Z rb) := fun h => by have := HXZ.out.2.1 rb h; have := HXZ.out.2.2.1; omega
  have HZA : Hid (¬ Z ba) := fun h => by have := HVA.out.mem.lt ba h; omega
  clear hBb hmb hMab eba HVA HBA HOA HMA
  obtain ⟨is, eis⟩ : ∃ is, (decide (rq = 2) && decide (rr = 1)) = is := ⟨_, rfl⟩
  have HT : ∀ W, Mod (fun _ => False) wb W → Calls Try.prog 13 #[.pointer (some ⟨p2, 0, none⟩), .agg #[.int .i64 2, .int .i64 1], .agg #[.int .i64 (oldm (onR rq rr k)).kind, .int .i64 (oldm (onR rq rr k)).origin, .int .i64 (oldm (onR rq rr k)).life, .int .i64 (oldm (onR rq rr k)).id, .int .i64 (oldm (onR rq rr k)).part, .int .i64 (oldm (onR rq rr k)).parts, .int .i64 (oldm (onR rq rr k)).groups, .bool (oldm (onR rq rr k)).safe, .int .i64 (oldm (onR rq rr k)).st, .int .i64 (oldm (onR rq rr k)).rs, .int .i64 (oldm (onR rq rr k)).rr, .int .i64 (oldm (onR rq rr k)).sq, .slice aa la ca]] W fun e w' => ∃ X' a' h', e = .returned (.tuple #[.bool is, .int .i64 0]) ∧ Wn w' p2 X' (jOf rq rr (if is then ins S0 k else S0)) a' h' 1 ∧ Mod Z W w' := fun W hW => by
    refine (Take_j (HVB.out.keep hW) HIS.out.1 HIS.out.2 k HK.out.2.2 2 1 (.slice aa la ca) ((HOB.out.1.mod hW (fun _ _ h => h)).sl HOB.out.2) (by decide)).mono ?_
    rintro e w' ⟨X', a', rfl, h1, h2, -⟩
    rw [eis] at h1 ⊢
    exact ⟨X', a', _, by cases is <;> rfl, h1, h2⟩
  have EQ : ∀ W, (Op.equalIn 10000 34 (.agg #[.int .i64 rq, .int .i64 rr]) (.agg #[.int .i64 2, .int .i64 1])).run Try.prog W = .ok is W := fun W => by rw [← eis]; exact eqRing rq rr 2 1 W
  have s0 : wb.cell? ⟨ba, 0, none⟩ = some (.int .i64 (oldm (onR rq rr k)).kind) := HBb.out.cellv (j := 0) rfl
  have s1 : wb.cell? ⟨ba, 1, none⟩ = some (.int .i64 (oldm (onR rq rr k)).origin) := HBb.out.cellv (j := 1) rfl
  have s2 : wb.cell? ⟨ba, 2, none⟩ = some (.int .i64 (oldm (onR rq rr k)).life) := HBb.out.cellv (j := 2) rfl
  have s3 : wb.cell? ⟨ba, 3, none⟩ = some (.int .i64 (oldm (onR rq rr k)).id) := HBb.out.cellv (j := 3) rfl
  have s4 : wb.cell? ⟨ba, 4, none⟩ = some (.int .i64 (oldm (onR rq rr k)).part) := HBb.out.cellv (j := 4) rfl
  have s5 : wb.cell? ⟨ba, 5, none⟩ = some (.int .i64 (oldm (onR rq rr k)).parts) := HBb.out.cellv (j := 5) rfl
  have s6 : wb.cell? ⟨ba, 6, none⟩ = some (.int .i64 (oldm (onR rq rr k)).groups) := HBb.out.cellv (j := 6) rfl
  have s7 : wb.cell? ⟨ba, 7, none⟩ = some (.bool (oldm (onR rq rr k)).safe) := HBb.out.cellv (j := 7) rfl
  have s8 : wb.cell? ⟨ba, 8, none⟩ = some (.int .i64 (oldm (onR rq rr k)).st) := HBb.out.cellv (j := 8) rfl
  have s9 : wb.cell? ⟨ba, 9, none⟩ = some (.int .i64 (oldm (onR rq rr k)).rs) := HBb.out.cellv (j := 9) rfl
  have s10 : wb.cell? ⟨ba, 10, none⟩ = some (.int .i64 (oldm (onR rq rr k)).rr) := HBb.out.cellv (j := 10) rfl
  have s11 : wb.cell? ⟨ba, 11, none⟩ = some (.int .i64 (oldm (onR rq rr k)).sq) := HBb.out.cellv (j := 11) rfl
  have s12 : wb.cell? ⟨ba, 12, none⟩ = some (.slice aa la ca) := HBb.out.cellv (j := 12) rfl
  go_region_held3 (fun u => u.cell? ⟨ba, 0, none⟩ = some (.int .i64 (oldm (onR rq rr k)).kind) ∧ u.cell? ⟨ba, 1, none⟩ = some (.int .i64 (oldm (onR rq rr k)).origin) ∧ u.cell? ⟨ba, 2, none⟩ = some (.int .i64 (oldm (onR rq rr k)).life) ∧ u.cell? ⟨ba, 3, none⟩ = some (.int .i64 (oldm (onR rq rr k)).id) ∧ u.cell? ⟨ba, 4, none⟩ = some (.int .i64 (oldm (onR rq rr k)).part) ∧ u.cell? ⟨ba, 5, none⟩ = some (.int .i64 (oldm (onR rq rr k)).parts) ∧ u.cell? ⟨ba, 6, none⟩ = some (.int .i64 (oldm (onR rq rr k)).groups) ∧ u.cell? ⟨ba, 7, none⟩ = some (.bool (oldm (onR rq rr k)).safe) ∧ u.cell? ⟨ba, 8, none⟩ = some (.int .i64 (oldm (onR rq rr k)).st) ∧ u.cell? ⟨ba, 9, none⟩ = some (.int .i64 (oldm (onR rq rr k)).rs) ∧ u.cell? ⟨ba, 10, none⟩ = some (.int .i64 (oldm (onR rq rr k)).rr) ∧ u.cell? ⟨ba, 11, none⟩ = some (.int .i64 (oldm (onR rq rr k)).sq) ∧ u.cell? ⟨ba, 12, none⟩ = some (.slice aa la ca)) (first | exact ⟨s0, s1, s2, s3, s4, s5, s6, s7, s8, s9, s10, s11, s12⟩ | go_keep) (first
    | (go_at_call 14; with_reducible refine (old_any _).mono ?_; rintro e wc ⟨rfl, hmc⟩; have hB7 := (HBb.out.mod ((Mod.refl (fun _ => False) wb).drew) (fun h => h)).mod hmc (fun h => h); have s0 := hB7.cellv (j := 0) rfl; have s1 := hB7.cellv (j := 1) rfl; have s2 := hB7.cellv (j := 2) rfl; have s3 := hB7.cellv (j := 3) rfl; have s4 := hB7.cellv (j := 4) rfl; have s5 := hB7.cellv (j := 5) rfl; have s6 := hB7.cellv (j := 6) rfl; have s7 := hB7.cellv (j := 7) rfl; have s8 := hB7.cellv (j := 8) rfl; have s9 := hB7.cellv (j := 9) rfl; have s10 := hB7.cellv (j := 10) rfl; have s11 := hB7.cellv (j := 11) rfl; have s12 := hB7.cellv (j := 12) rfl; clear hB7)
    | (go_at_call 13; with_reducible refine (HT _ (((Mod.refl (fun _ => False) wb).drew).and hmc)).mono ?_; rintro e wd ⟨Zd, ad, hd, rfl, hvd, hmzd⟩; have hB8 := ((HBb.out.mod ((Mod.refl (fun _ => False) wb).drew) (fun h => h)).mod hmc (fun h => h)).mod hmzd HZA.out; have s0 := hB8.cellv (j := 0) rfl; have s1 := hB8.cellv (j := 1) rfl; have s2 := hB8.cellv (j := 2) rfl; have s3 := hB8.cellv (j := 3) rfl; have s4 := hB8.cellv (j := 4) rfl; have s5 := hB8.cellv (j := 5) rfl; have s6 := hB8.cellv (j := 6) rfl; have s7 := hB8.cellv (j := 7) rfl; have s8 := hB8.cellv (j := 8) rfl; have s9 := hB8.cellv (j := 9) rfl; have s10 := hB8.cellv (j := 10) rfl; have s11 := hB8.cellv (j := 11) rfl; have s12 := hB8.cellv (j := 12) rfl; clear hB8))
  have hdc := ((Mod.refl (fun _ => False) wb).drew).and hmc
  have HVD : Hid (Wn wd p2 Zd (jOf rq rr (if is then ins S0 k else S0)) ad hd 1) := hvd
  have HBD : Hid (Bk wd rb 34 #[.int .i64 rq, .int .i64 rr]) := (HBB.out.mod hdc (fun h => h)).mod hmzd HZR.out
  have HMD : Hid (Mod (fun _ => False) w wd) := ((HMB.out.trans hdc (V := fun i => w.heap.size ≤ i) (fun _ _ h => h) (fun _ _ h => h.elim)).trans hmzd (V := fun i => w.heap.size ≤ i) (fun _ _ h => h) (fun i _ h => HZB.out i h)).trans (Mod.refl (fun _ => False) wd) (V := fun _ => False) (fun i hi h => by omega) (fun _ _ h => h)
  clear hmc hdc hvd hmzd HT HVB HBB HOB HMB HBb s0 s1 s2 s3 s4 s5 s6 s7 s8 s9 s10 s11 s12
  have HAB : ∀ W, Mod (fun _ => False) wd W → Calls Try.prog 17 #[.pointer (some ⟨p2, 0, none⟩), .int .i64 0] W fun e w' => ∃ ax cx, e = .returned (.slice ax (if is then 1 else 0) cx) ∧ Mod (fun _ => False) W w' := fun W hW => by
    refine (Above_j (HVD.out.keep hW) (by decide) 0).mono ?_
    rintro e w' ⟨v, ds, zs, rfl, hR, hk, hmap, -, hm⟩
    obtain ⟨ax, cx, rfl⟩ := hR.row.shape
    have hlen : ds.length = if is then 1 else 0 := by
      have := congrArg List.length hmap
      simp only [List.length_map] at this
      rw [this]
      cases is with
      | true => rw [hk.uniq (kz1 HK.out.2.2.1)]; rfl
      | false => rw [hk.uniq kz0]; rfl
    exact ⟨ax, cx, by rw [hlen], hm⟩
  have r0 : wd.cell? ⟨rb, 0, none⟩ = some (.int .i64 rq) := HBD.out.cellv (j := 0) rfl
  have r1 : wd.cell? ⟨rb, 1, none⟩ = some (.int .i64 rr) := HBD.out.cellv (j := 1) rfl
  clear eis
  cases is with
  | true =>
    simp only [if_true] at HAB
    go_upto_region 13 with (fail)
    go_region_held3 (fun u => u.cell? ⟨rb, 0, none⟩ = some (.int .i64 rq) ∧ u.cell? ⟨rb, 1, none⟩ = some (.int .i64 rr)) (first | exact ⟨r0, r1⟩ | go_keep) (first
      | (go_at_call 14; with_reducible refine (old_any _).mono ?_; rintro e we ⟨rfl, hme⟩; have hB7 := (HBD.out.mod ((Mod.refl (fun _ => False) wd).drew) (fun h => h)).mod hme (fun h => h); have r0 := hB7.cellv (j := 0) rfl; have r1 := hB7.cellv (j := 1) rfl; clear hB7)
      | (go_at_call 17; with_reducible refine (HAB _ (((Mod.refl (fun _ => False) wd).drew).and hme)).mono ?_; rintro e wf ⟨ax, cx, rfl, hmf⟩; have hB8 := ((HBD.out.mod ((Mod.refl (fun _ => False) wd).drew) (fun h => h)).mod hme (fun h => h)).mod hmf (fun h => h); have r0 := hB8.cellv (j := 0) rfl; have r1 := hB8.cellv (j := 1) rfl; clear hB8))
    go_wp2
    go_ret
    exact ⟨rfl, ((HMD.out.and ((Mod.refl (fun _ => False) wd).drew)).and hme).and hmf⟩
  | false =>
    simp only [Bool.false_eq_true, if_false] at HAB
    go_upto_region 13 with (fail)
    go_region_held3 (fun u => u.cell? ⟨rb, 0, none⟩ = some (.int .i64 rq) ∧ u.cell? ⟨rb, 1, none⟩ = some (.int .i64 rr)) (first | exact ⟨r0, r1⟩ | go_keep) (first
      | (go_at_call 14; with_reducible refine (old_any _).mono ?_; rintro e we ⟨rfl, hme⟩; have hB7 := (HBD.out.mod ((Mod.refl (fun _ => False) wd).drew) (fun h => h)).mod hme (fun h => h); have r0 := hB7.cellv (j := 0) rfl; have r1 := hB7.cellv (j := 1) rfl; clear hB7)
      | (go_at_call 17; with_reducible refine (HAB _ (((Mod.refl (fun _ => False) wd).drew).and hme)).mono ?_; rintro e wf ⟨ax, cx, rfl, hmf⟩; have hB8 := ((HBD.out.mod ((Mod.refl (fun _ => False) wd).drew) (fun h => h)).mod hme (fun h => h)).mod hmf (fun h => h); have r0 := hB8.cellv (j := 0) rfl; have r1 := hB8.cellv (j := 1) rfl; clear hB8))
    go_wp2
    go_ret
    exact ⟨rfl, ((HMD.out.and ((Mod.refl (fun _ => False) wd).drew)).and hme).and hmf⟩
namespace regainOthers
open Go.ChangeShapes Go.WideShapes Go.ChangeAt Go.RowKit
set_option maxRecDepth 100000 in
theorem lifted (os : Os) (started : os.Started) (H : Type) (enc : TypeId × Value → H) :
    ReturnsInHanded {} Try.checked os 4 .any (Rows.regainOthersSpec.pre6 enc Try.prog Try.f4 Rows.regainOthersRow.domain false) (Rows.regainOthersSpec.post enc Try.prog Try.f4 false true false false) := by
  refine returnsInHanded_of_change_sized (C := Try.checked) own started (by kernel_rfl) Try.func4
    (ChangeSpec.witness6 (enc := enc) (C := Try.checked) false ⟨#[], #[.agg #[.int .i64 0, .int .i64 0], .int .i64 0], []⟩ 8 (by kernel_rfl) (by kernel_rfl) (by kernel_rfl) (by kernel_rfl)) ?_
  intro W base args ds gs before hval0 hW hcnd hsz0 _
  have hval : ∀ (j : Nat) t v, Try.f4.params[j]? = some t → args[j]? = some v → Value.okWide Try.prog W .any base t v := hval0
  have hsz : (DataW.weightsEach Try.prog (Try.f4.params.toList ++ Rows.regainOthersSpec.plain.varTypes Try.prog) (ds ++ gs)).all (· ≤ reachBytes) = true := hsz0
  have hW' := hW
  obtain ⟨p, q, hA0, hV, rfl, hfz, hnd⟩ := hW
  have hA : DataW.TrodAll enc Try.prog W 0 (fun _ => true) true Try.f4.params.toList args.toList ds p := hA0
  rw [Try.params4] at hA hval hsz
  obtain ⟨v0, vs0, d0, ds0, p0, q0, hargs, rfl, rfl, h0, r0⟩ := trodAll_cons hA
  obtain ⟨v1, vs1, d1, ds1, p1, q1, rfl, rfl, rfl, h1, r1⟩ := trodAll_cons r0
  obtain ⟨rfl, rfl, rfl⟩ := trodAll_nil r1
  obtain rfl : args = #[v0, v1] := by cases args; simp_all
  obtain ⟨rfl, rfl⟩ := trodVars_none hV
  have k0 := h0
  have lt0 : ∀ x ∈ p0, x.block < W.heap.size := by obtain ⟨m, hm⟩ := k0; exact DataW.trod_lt m _ _ _ hm
  obtain ⟨gq0, gr0, rfl, ig0, ih0⟩ := open_ringI (hval 0 34 v0 rfl rfl) h0
  obtain ⟨a1, rfl, rfl, rfl, w1⟩ := open_int Try.underlying3 (hval 1 3 v1 rfl rfl) h1
  clear hA0 hval0
  refine (others_walk gq0 gr0 a1 W ig0 ih0 (i64_of_wf w1)).mono fun e W' ⟨he, hm⟩ => ?_
  subst he
  have bel : Below W.heap.size W W' := hm.below _ (Nat.le_refl _) (fun _ h => h.elim)
  exact ⟨_, rfl, _, _, _, [], _, [], hW', trodAll_mk1 (shut_bool Try.underlying4 _), (trodAll_cons_mk (Below.trod laidOut (by kernel_rfl) (of_decide_eq_true (by kernel_rfl)) k0 bel lt0) (trodAll_cons_mk (shut_int Try.underlying3 w1) trodAll_mk0)), rfl, bel.frame _, fun h => by cases h⟩

theorem over : Rows.regainOthersRow.holds Try.pinned (OpenSpec.ofChange Rows.regainOthersSpec) :=
  OpenClaim.holds_of_wide 4 Try.f4 rfl rfl rfl rfl rfl rfl rfl ⟨rfl, rfl, rfl, rfl, rfl⟩ rfl rfl rfl rfl rfl (by kernel_rfl) Try.func4 (by kernel_rfl)
    (of_decide_eq_true (by kernel_rfl)) (by unfold Func.isWrapper; first | (rw [if_pos (by decide +kernel)]; kernel_rfl) | (rw [if_neg (by decide +kernel)]; exact ⟨rfl, rfl⟩))
    (fun os started H enc _ => lifted os started H enc)
end regainOthers
theorem regainOthers_holds : Rows.RegainOthersSaid := regainOthers.over
end Go.Proofs.Ythiijonmnebjgaa
