/- WindowPlays holds: what a window tells, call by call, is the document's. For every list of calls; no conditions. -/
import Derived.Test.YtejlcoakencdiaaYl
import Derived.Test.YtejlcoakencdiaaYp
import Derived.Test.YtejlcoakencdiaaYn
import Derived.Deep.Light
import Derived.Deep.DeepCutAuto
namespace Go.Proofs.Ytejlcoakencdiaa
open Go.RowKit
set_option maxRecDepth 100000 in
set_option maxHeartbeats 16000000 in
theorem plays_walk (v0 : Value) (es : List (Bool × Int × Dt × Value)) (w : World) (hl : Dos w v0 es) : Calls Try.prog 3 #[v0] w fun e w' => e = .returned (.bool true) ∧ Mod (fun _ => False) w w' := by
  have HL : Hid (Dos w v0 es) := hl
  obtain ⟨av, cv, rfl, hlm, hfm⟩ := hl.form
  clear hfm hl hlm
  go_enter Try.func3, Try.ntmps3
  go_wp2_with (fail)
  refine (pq_new w).mono ?_
  rintro e w1 ⟨p, rfl, HN⟩
  go_wp2_with (fail)
  refine HN.mono ?_
  rintro e w2 ⟨q, X0, Y0, rfl, hP⟩
  clear HN
  have HR : Hid (Rs w w2 p q 0) := ⟨_, _, _, _, _, hP, Dis.nil⟩
  clear hP
  go_wp2_with (fail)
  go_loopw [5] (fun i wr => ∃ k : Nat, i = .int .i64 (k : Int) ∧ k ≤ 80 ∧ Hid (Rs w wr p q k)) (fun i _ => 80 - (intOf i).toNat)
  case atStart => exact ⟨0, rfl, by omega, HR⟩
  case round =>
  clear HR
  obtain ⟨k, rfl, hk, HR⟩ := hrel
  obtain ⟨wk, ewk⟩ : ∃ wk, wk = wr := ⟨_, rfl⟩
  subst ewk
  by_cases hkn : (k : Int) < (es.length : Int)
  rotate_left
  · go_wp2_with (fail)
    refine (awake_any _).mono ?_
    rintro e w3 ⟨rfl, hm3⟩
    go_wp2_with (fail)
    go_ret
    obtain ⟨L, X, Y, a, h, hP, hD⟩ := HR.out.ex
    exact ⟨rfl, hP.mod.and hm3⟩
  by_cases hk80 : (k : Int) < 80
  rotate_left
  · go_wp2_with (fail)
    refine (awake_any _).mono ?_
    rintro e w3 ⟨rfl, hm3⟩
    go_wp2_with (fail)
    go_ret
    obtain ⟨L, X, Y, a, h, hP, hD⟩ := HR.out.ex
    exact ⟨rfl, hP.mod.and hm3⟩
  obtain ⟨L, X, Y, a, h, hP, hD⟩ := HR.out.ex
  have hkn' : k < es.length := by go_light; omega
  obtain ⟨e, he⟩ : ∃ e, es[k]? = some e := ⟨_, List.getElem?_eq_getElem hkn'⟩
  obtain ⟨ao1, cap1, e1, -, hfm⟩ := HL.out.form
  cases e1
  obtain ⟨b, off, rfl, hrg⟩ := hfm (by rintro rfl; simp at hkn')
  have hra : wk.rangeAt b (off + k * 20) (ocl e) := fun t c ht => hP.mod.cell (hrg k e he t c ht) (fun h => h)
  obtain ⟨hsl, hbl, hi64⟩ := HL.out.each e (List.mem_of_getElem? he)
  obtain ⟨se, n, d, v⟩ := e
  replace hsl : Sl w v d.m.body := hsl
  replace hbl : d.m.body.length ≤ 140737488355328 := hbl
  replace hi64 : I64 n := hi64
  obtain ⟨va, vc, rfl⟩ := hsl.shape
  have HSL : Hid (Sl w (.slice va d.m.body.length vc) d.m.body) := hsl
  have HBL : Hid (d.m.body.length ≤ 140737488355328) := hbl
  have HI : Hid (I64 n) := hi64
  have HP : Hid (Pq w wk p q (jl L) L X Y a h h k k) := hP
  have HD : Hid (Dis L) := hD
  clear HR hrg he hfm hsl hbl hi64 hP hD hkn'
  have hZ := Bk.new wk #[.bool false, .int .i64 0, .int .i64 0, .int .i64 0, .int .i64 0, .int .i64 0, .int .i64 0, .int .i64 0, .int .i64 0, .int .i64 0, .int .i64 0, .int .i64 0, .int .i64 0, .int .i64 0, .bool false, .int .i64 0, .int .i64 0, .int .i64 0, .int .i64 0, .slice none 0 0] 37
  have HZ : Hid (Bk _ _ _ _) := hZ
  clear hZ
  have hk0 : (0 : Int) ≤ (k : Int) := by go_light; omega
  go_upto_if 39 with (first | (refine wpList_load_at infoDo Try.underlying37 rfl rfl _ rfl b (off + k * 20) rfl _ hra rfl ?_; unfold ocl dcl; simp only [Act.put, List.setIfInBounds_toArray, List.set_cons_succ, List.set_cons_zero]) | (refine wpList_store_row infoDo rfl rfl _ _ rfl wk.heap.size #[.bool se, .int .i64 n, .int .i64 d.q, .int .i64 d.r, .int .i64 d.n, .int .i64 d.s, .int .i64 d.t, .int .i64 d.m.kind, .int .i64 d.m.origin, .int .i64 d.m.life, .int .i64 d.m.id, .int .i64 d.m.part, .int .i64 d.m.parts, .int .i64 d.m.groups, .bool d.m.safe, .int .i64 d.m.st, .int .i64 d.m.rs, .int .i64 d.m.rr, .int .i64 d.m.sq, .slice va d.m.body.length vc] rfl rfl HZ.out rfl rfl rfl ?_; intro wF hBF hMF; have cF0 := hBF.cellv (j := 0) rfl))
  have HB : Hid (Bk wF wk.heap.size 37 #[.bool se, .int .i64 n, .int .i64 d.q, .int .i64 d.r, .int .i64 d.n, .int .i64 d.s, .int .i64 d.t, .int .i64 d.m.kind, .int .i64 d.m.origin, .int .i64 d.m.life, .int .i64 d.m.id, .int .i64 d.m.part, .int .i64 d.m.parts, .int .i64 d.m.groups, .bool d.m.safe, .int .i64 d.m.st, .int .i64 d.m.rs, .int .i64 d.m.rr, .int .i64 d.m.sq, .slice va d.m.body.length vc]) := hBF
  have HM : Hid (Mod (fun _ => False) wk wF) := ((Mod.refl (fun _ => False) wk).alloc _).trans hMF (fun _ _ h => h) (fun i hi e => by omega)
  have HSZ : Hid (wk.heap.size < wF.heap.size) := hBF.lt
  clear hBF hMF hra HZ
  obtain ⟨bx, ebx⟩ : ∃ bx, bx = wk.heap.size := ⟨_, rfl⟩
  have HBX : Hid (bx = wk.heap.size) := ebx
  rw [← ebx] at HB cF0 ⊢
  clear ebx
  go_cut [] (fun wx => R9 w wx p q (k + 1) bx (se, n, d, .slice va d.m.body.length vc))
  case first =>
    cases se with
    | true =>
      have c1 := HB.out.cellv (j := 1) rfl
      have hP1 := (HP.out.keep HM.out).keep ((Mod.refl (fun _ => False) wF).drew)
      have HS1 := pq_see hP1 n
      have hxb : ¬ X bx := fun hx => by have := HP.out.xlt bx hx; rw [HBX.out] at this; omega
      have hyb : ¬ Y bx := fun hy => by have := HP.out.ylt bx hy; rw [HBX.out] at this; omega
      have HXB : Hid (¬ X bx) := hxb
      have HYB : Hid (¬ Y bx) := hyb
      have HBd : Hid (Bk wF.drew bx _ _) := HB.out.mod ((Mod.refl (fun _ => False) wF).drew) (fun h => h)
      obtain ⟨z, ez⟩ : ∃ z, z = sE n := ⟨_, rfl⟩
      rw [← ez] at HS1
      have hne : (z != z) = false := by simp
      have HEZ : Hid (z = sE n) := ez
      clear hP1 ez hxb hyb
      go_wp2_with (fail)
      go_region_held3 (fun y => y.cell? ⟨bx, 1, none⟩ = some (.int .i64 n)) (first | with_reducible exact c1 | go_keep) ((first
        | (go_at_call 9; refine HS1.mono ?_; rintro e w8 ⟨rfl, hP8, hm8⟩; have HB8 := HBd.out.mod hm8 HXB.out; have c8 := HB8.cellv (j := 1) rfl; have HS8 := pq_dsee hP8 n; rw [← HEZ.out] at HS8)
        | (go_at_call 10; refine HS8.mono ?_; rintro e w9 ⟨rfl, hP9, hm9⟩; have HB9 := HB8.mod hm9 HYB.out; have c9 := HB9.cellv (j := 1) rfl)))
      all_goals go_wp2
      all_goals go_meet
      all_goals exact ⟨(⟨L, X, Y, a, _, hP9, HD.out⟩ : Rs w _ p q k).mono (by omega), HB9, by have := HP.out.mod.size; rw [HBX.out]; exact this⟩
    | false =>
      have hra2 : wF.rangeAt bx 2 (dcl d (.slice va d.m.body.length vc)) := HB.out.range 2 _ fun j v hv => by
        have e : (#[.bool false, .int .i64 n, .int .i64 d.q, .int .i64 d.r, .int .i64 d.n, .int .i64 d.s, .int .i64 d.t, .int .i64 d.m.kind, .int .i64 d.m.origin, .int .i64 d.m.life, .int .i64 d.m.id, .int .i64 d.m.part, .int .i64 d.m.parts, .int .i64 d.m.groups, .bool d.m.safe, .int .i64 d.m.st, .int .i64 d.m.rs, .int .i64 d.m.rr, .int .i64 d.m.sq, .slice va d.m.body.length vc] : Array Value) = (Value.bool false :: Value.int .i64 n :: dcl d (.slice va d.m.body.length vc)).toArray := rfl
        rw [e, List.getElem?_toArray, show 2 + j = j + 1 + 1 from by omega, List.getElem?_cons_succ, List.getElem?_cons_succ]
        exact hv
      have HRA : Hid (wF.rangeAt bx 2 (dcl d (.slice va d.m.body.length vc))) := hra2
      have HC := copy_dt d _ wF (HSL.out.mod (HP.out.mod.and HM.out) (fun _ _ h => h)) HBL.out
      have HXB : Hid (¬ X bx) := fun hx => by have := HP.out.xlt bx hx; rw [HBX.out] at this; omega
      have HYB : Hid (¬ Y bx) := fun hy => by have := HP.out.ylt bx hy; rw [HBX.out] at this; omega
      go_wp2_with (refine wpList_load_at info18 Try.underlying35 rfl rfl _ rfl bx 2 rfl _ hra2 rfl ?_; unfold dcl; simp only [Act.put, List.setIfInBounds_toArray, List.set_cons_succ, List.set_cons_zero])
      refine HC.mono ?_
      rintro e w3 ⟨v3, rfl, ho3, hm3, hg3⟩
      obtain ⟨a3, c3, rfl⟩ := ho3.shape
      have HZ3 : Hid (Bk _ _ _ _) := Bk.new w3 #[.int .i64 0, .int .i64 0, .int .i64 0, .int .i64 0, .int .i64 0, .int .i64 0, .int .i64 0, .int .i64 0, .int .i64 0, .int .i64 0, .int .i64 0, .int .i64 0, .bool false, .int .i64 0, .int .i64 0, .int .i64 0, .int .i64 0, .slice none 0 0] 35
      unfold dv
      clear HC hra2 cF0
      go_wp2_with (first | (refine wpList_store_row info18 rfl rfl _ _ rfl w3.heap.size #[.int .i64 d.q, .int .i64 d.r, .int .i64 d.n, .int .i64 d.s, .int .i64 d.t, .int .i64 d.m.kind, .int .i64 d.m.origin, .int .i64 d.m.life, .int .i64 d.m.id, .int .i64 d.m.part, .int .i64 d.m.parts, .int .i64 d.m.groups, .bool d.m.safe, .int .i64 d.m.st, .int .i64 d.m.rs, .int .i64 d.m.rr, .int .i64 d.m.sq, .slice a3 d.m.body.length c3] rfl rfl HZ3.out rfl rfl rfl ?_; intro w4 hB4 hM4) | (refine wpList_load_row info18 Try.underlying35 rfl rfl _ rfl w3.heap.size rfl hB4 rfl ?_; simp only [Act.put, List.setIfInBounds_toArray, List.set_cons_succ, List.set_cons_zero]))
      have HM3 : Hid (Mod (fun _ => False) wF w3) := hm3
      have HM4 : Hid (Mod (fun _ => False) w3 w4) := ((Mod.refl (fun _ => False) w3).alloc _).trans hM4 (fun _ _ h => h) (fun i hi e => by omega)
      have HG3 : Hid (∀ g, (Value.slice a3 d.m.body.length c3).ownBlock = some g → wF.heap.size ≤ g) := hg3
      have HRG : Hid (∀ c ∈ d.m.body, 0 ≤ c ∧ c ≤ 255) := HSL.out.rng
      have HO4 : Hid (Own w4 (.slice a3 d.m.body.length c3) d.m.body) := ho3.mod HM4.out (fun _ _ h => h)
      have HB4 : Hid (Bk w4 w3.heap.size 35 #[.int .i64 d.q, .int .i64 d.r, .int .i64 d.n, .int .i64 d.s, .int .i64 d.t, .int .i64 d.m.kind, .int .i64 d.m.origin, .int .i64 d.m.life, .int .i64 d.m.id, .int .i64 d.m.part, .int .i64 d.m.parts, .int .i64 d.m.groups, .bool d.m.safe, .int .i64 d.m.st, .int .i64 d.m.rs, .int .i64 d.m.rr, .int .i64 d.m.sq, .slice a3 d.m.body.length c3]) := hB4
      obtain ⟨bi, ebi⟩ : ∃ bi, bi = w3.heap.size := ⟨_, rfl⟩
      have HBI : Hid (bx < bi ∧ wF.heap.size ≤ bi) := ⟨by have := HM3.out.size; have := HSZ.out; rw [HBX.out]; omega, by have := HM3.out.size; omega⟩
      rw [← ebi] at HB4 ⊢
      clear hm3 hM4 hg3 ho3 hB4 HZ3 ebi
      have hP4 := ((HP.out.keep HM.out).keep HM3.out).keep HM4.out
      refine (pq_put hP4 (by omega) d _ (HO4.out.sl HRG.out) HBL.out).mono ?_
      clear hP4
      rintro e w5 ⟨X5, a5, rfl, hP5, hm5, hG5⟩
      have HS5 : Hid (∀ i, X5 i → ¬ (Value.slice a3 d.m.body.length c3).ownBlock = some i) := fun i hx he => by
        have t1 := HO4.out.lt i he
        have t2 := HG3.out i he
        rcases hG5 i hx with hx | hx
        · have := HP.out.xlt i hx; have := HSZ.out; omega
        · omega
      have HLT5 : Hid (∀ i, (Value.slice a3 d.m.body.length c3).ownBlock = some i → i < w5.heap.size) := fun i he => by
        have t1 := HO4.out.lt i he
        have := hm5.size
        omega
      have HP5 : Hid (Pq w w5 p q (pJ (jl L) d) L X5 Y a5 (pH (jl L) h d) h (k + 1) k) := hP5
      have hXl : ∀ i, X i → i < bx := fun i hi => by have := HP.out.xlt i hi; rw [HBX.out]; exact this
      have hYl : ∀ i, Y i → i < bx := fun i hi => by have := HP.out.ylt i hi; rw [HBX.out]; exact this
      have HYL : Hid (∀ i, Y i → i < bx) := hYl
      have HB5 : Hid (Bk w5 bi _ _) := HB4.out.mod hm5 (fun hx => by have := hXl _ hx; have := HBI.out; omega)
      have HX5 : Hid (Bk w5 bx _ _) := ((HB.out.mod HM3.out (fun h => h)).mod HM4.out (fun h => h)).mod hm5 (fun hx => by have := hXl _ hx; omega)
      have HO5 : Hid (Own w5 (.slice a3 d.m.body.length c3) d.m.body) := HO4.out.mod hm5 (fun g hg hx => by have := hXl _ hx; have := HG3.out g hg; have := HSZ.out; have := HBX.out; omega)
      have HSL5 : Hid (Sl w5 (.slice va d.m.body.length vc) d.m.body) := HSL.out.mod hP5.mod (fun _ _ h => h)
      have hra5 : w5.rangeAt bx 2 (dcl d (.slice va d.m.body.length vc)) := HX5.out.range 2 _ fun j v hv => by
        have e : (#[.bool false, .int .i64 n, .int .i64 d.q, .int .i64 d.r, .int .i64 d.n, .int .i64 d.s, .int .i64 d.t, .int .i64 d.m.kind, .int .i64 d.m.origin, .int .i64 d.m.life, .int .i64 d.m.id, .int .i64 d.m.part, .int .i64 d.m.parts, .int .i64 d.m.groups, .bool d.m.safe, .int .i64 d.m.st, .int .i64 d.m.rs, .int .i64 d.m.rr, .int .i64 d.m.sq, .slice va d.m.body.length vc] : Array Value) = (Value.bool false :: Value.int .i64 n :: dcl d (.slice va d.m.body.length vc)).toArray := rfl
        rw [e, List.getElem?_toArray, show 2 + j = j + 1 + 1 from by omega, List.getElem?_cons_succ, List.getElem?_cons_succ]
        exact hv
      clear hm5 hP5 HO4 HB4 hXl hYl hG5
      obtain ⟨f, ef⟩ : ∃ f, f = pF (jl L) d := ⟨_, rfl⟩
      obtain ⟨z, ez⟩ : ∃ z, z = pE d := ⟨_, rfl⟩
      have HEF : Hid (f = pF (jl L) d) := ef
      have HEZ : Hid (z = pE d) := ez
      rw [← ef, ← ez]
      clear ef ez
      go_wp2_with (refine wpList_load_at info18 Try.underlying35 rfl rfl _ rfl bx 2 rfl _ hra5 rfl ?_; unfold dcl; simp only [Act.put, List.setIfInBounds_toArray, List.set_cons_succ, List.set_cons_zero])
      refine (pq_dput HP5.out (by omega) d _ HSL5.out HBL.out).mono ?_
      rintro e w6 ⟨Y6, rfl, hP6, hm6, hG6⟩
      have HS6 : Hid (∀ i, Y6 i → ¬ (Value.slice a3 d.m.body.length c3).ownBlock = some i) := fun i hy he => by
        have t1 := HLT5.out i he
        have t2 := HG3.out i he
        rcases hG6 i hy with hy | hy
        · have := HP.out.ylt i hy; have := HSZ.out; omega
        · omega
      rw [← HEF.out, ← HEZ.out]
      have hne1 : (f != f) = false := by simp
      have hne2 : (z != z) = false := by simp
      have HB6 : Hid (Bk w6 bi 35 #[.int .i64 d.q, .int .i64 d.r, .int .i64 d.n, .int .i64 d.s, .int .i64 d.t, .int .i64 d.m.kind, .int .i64 d.m.origin, .int .i64 d.m.life, .int .i64 d.m.id, .int .i64 d.m.part, .int .i64 d.m.parts, .int .i64 d.m.groups, .bool d.m.safe, .int .i64 d.m.st, .int .i64 d.m.rs, .int .i64 d.m.rr, .int .i64 d.m.sq, .slice a3 d.m.body.length c3]) := HB5.out.mod hm6 (fun hy => by have := HYL.out _ hy; have := HBI.out; omega)
      have HX6 : Hid (Bk w6 bx _ _) := HX5.out.mod hm6 (fun hy => by have := HYL.out _ hy; omega)
      have HO6 : Hid (Own w6 (.slice a3 d.m.body.length c3) d.m.body) := HO5.out.mod hm6 (fun g hg hy => by have := HYL.out _ hy; have := HG3.out g hg; have := HSZ.out; have := HBX.out; omega)
      have HSL6 : Hid (Sl w6 (.slice va d.m.body.length vc) d.m.body) := HSL.out.mod hP6.mod (fun _ _ h => h)
      have HP6 : Hid (Pq w w6 p q _ _ X5 Y6 a5 _ _ (k + 1) (k + 1)) := hP6
      have hra6 : w6.rangeAt bx 2 (dcl d (.slice va d.m.body.length vc)) := HX6.out.range 2 _ fun j v hv => by
        have e : (#[.bool false, .int .i64 n, .int .i64 d.q, .int .i64 d.r, .int .i64 d.n, .int .i64 d.s, .int .i64 d.t, .int .i64 d.m.kind, .int .i64 d.m.origin, .int .i64 d.m.life, .int .i64 d.m.id, .int .i64 d.m.part, .int .i64 d.m.parts, .int .i64 d.m.groups, .bool d.m.safe, .int .i64 d.m.st, .int .i64 d.m.rs, .int .i64 d.m.rr, .int .i64 d.m.sq, .slice va d.m.body.length vc] : Array Value) = (Value.bool false :: Value.int .i64 n :: dcl d (.slice va d.m.body.length vc)).toArray := rfl
        rw [e, List.getElem?_toArray, show 2 + j = j + 1 + 1 from by omega, List.getElem?_cons_succ, List.getElem?_cons_succ]
        exact hv
      have HSD := SameData_eq d.q d.r d.n d.s d.t d.m.kind d.m.origin d.m.life d.m.id d.m.part d.m.parts d.m.groups d.m.safe d.m.st d.m.rs d.m.rr d.m.sq a3 va c3 vc d.m.body w6 (HO6.out.sl HRG.out) HSL6.out
      clear hra5 hm6 hP6 hG6 HB5 HX5 HO5 HSL5 HP5
      go_wp2_with (first | (refine wpList_load_rowg info18 Try.underlying35 rfl rfl _ rfl bi rfl HB6.out rfl ?_; simp only [Act.put, List.setIfInBounds_toArray, List.set_cons_succ, List.set_cons_zero]) | (refine wpList_load_atg info18 Try.underlying35 rfl rfl _ rfl bx 2 rfl _ hra6 rfl ?_; unfold dcl; simp only [Act.put, List.setIfInBounds_toArray, List.set_cons_succ, List.set_cons_zero]))
      refine HSD.mono ?_
      rintro e w7 ⟨rfl, hm7⟩
      have HSW : Hid (Sw w7 w7 (fun i => (Value.slice a3 d.m.body.length c3).ownBlock = some i) bi #[.int .i64 d.q, .int .i64 d.r, .int .i64 d.n, .int .i64 d.s, .int .i64 d.t, .int .i64 d.m.kind, .int .i64 d.m.origin, .int .i64 d.m.life, .int .i64 d.m.id, .int .i64 d.m.part, .int .i64 d.m.parts, .int .i64 d.m.groups, .bool d.m.safe, .int .i64 d.m.st, .int .i64 d.m.rs, .int .i64 d.m.rr, .int .i64 d.m.sq, .slice a3 d.m.body.length c3] a3 d.m.body.length) := ⟨Mod.refl _ _, fun hp => by
        have ho7 := HO6.out.mod hm7 (fun _ _ h => h)
        obtain ⟨g, c, e, _⟩ := ho7.form hp
        cases e
        exact ⟨g, rfl, ho7.by rfl, rfl⟩, HB6.out.mod hm7 (fun h => h)⟩
      have HM7 : Hid (Mod (fun _ => False) w6 w7) := hm7
      have HX7 : Hid (Bk w7 bx _ _) := HX6.out.mod hm7 (fun h => h)
      have HBL' : Hid ((d.m.body.length : Int) ≤ 140737488355328) := by have := HBL.out; show _ ≤ _; omega
      clear hm7 HSD hra6 HO6 HSL6 HX6 HLT5 hne1 hne2
      have cc17 := HSW.out.bk.cellv (j := 17) rfl
      go_wp2_with (fail)
      go_loopw [12] (fun c wr => ∃ j : Nat, c = .int .i64 (j : Int) ∧ j ≤ d.m.body.length ∧ Hid (Sw w7 wr (fun i => (Value.slice a3 d.m.body.length c3).ownBlock = some i) bi #[.int .i64 d.q, .int .i64 d.r, .int .i64 d.n, .int .i64 d.s, .int .i64 d.t, .int .i64 d.m.kind, .int .i64 d.m.origin, .int .i64 d.m.life, .int .i64 d.m.id, .int .i64 d.m.part, .int .i64 d.m.parts, .int .i64 d.m.groups, .bool d.m.safe, .int .i64 d.m.st, .int .i64 d.m.rs, .int .i64 d.m.rr, .int .i64 d.m.sq, .slice a3 d.m.body.length c3] a3 d.m.body.length)) (fun c _ => d.m.body.length - (intOf c).toNat)
      case atStart => exact ⟨0, rfl, Nat.zero_le _, HSW⟩
      case round =>
      clear HSW cc17
      obtain ⟨j, rfl, hj, HSW⟩ := hrel
      obtain ⟨wy, ewy⟩ : ∃ wy, wy = wr := ⟨_, rfl⟩
      subst ewy
      have cc17 := HSW.out.bk.cellv (j := 17) rfl
      by_cases hjn : j < d.m.body.length
      · have hjn' : (j : Int) < (d.m.body.length : Int) := by go_light; omega
        have hjb : (j : Int) < 140737488355328 := by have := HBL'.out; go_light; omega
        have hpos : 0 < d.m.body.length := by go_light; omega
        obtain ⟨g, rfl, hby, -⟩ := HSW.out.by' hpos
        obtain ⟨c, ck, fk⟩ := hby.cell hjn
        have HSet : ∀ x, Hid (Sw w7 (wy.drew.setCell ⟨g, j, none⟩ (.int .u8 x)) _ bi _ _ d.m.body.length) := fun x => HSW.out.set hpos j x
        clear HSW hby hpos
        go_wp2_with (fail)
        go_region
        all_goals go_wp2_with (fail)
        all_goals go_roundw
        all_goals first
          | exact ⟨j + 1, by go_num, hjn, HSet _⟩
          | (simp [intOf]; go_light; omega)
      · have ek : ¬ (j : Int) < (d.m.body.length : Int) := by go_light; omega
        go_wp2_with (fail)
        go_meet
        have hP7 := ((HP6.out.keep HM7.out).by HSW.out.md HS5.out HS6.out (fun i he => by have := HG3.out i he; have := HM.out.size; have := HP.out.mod.size; omega))
        rw [← pL_jl] at hP7
        exact ⟨⟨_, _, _, _, _, hP7, HD.out.pL⟩, HX7.out.mod HSW.out.md (fun he => by have := HG3.out _ he; have := HSZ.out; have := HBX.out; omega), by have := HP.out.mod.size; rw [HBX.out]; exact this⟩
  case rest =>
    obtain ⟨hRs, hBk, hnw⟩ := hcut
    obtain ⟨wz, ewz⟩ : ∃ wz, wz = wc := ⟨_, rfl⟩
    subst ewz
    clear HP HD HB HM HSZ HBX HSL HBL cF0 hk0
    obtain ⟨M, XX, YY, aa, hh, hP, hD⟩ := hRs.ex
    have HP : Hid (Pq w wz p q (jl M) M XX YY aa hh hh (k + 1) (k + 1)) := hP
    have HD : Hid (Dis M) := hD
    have HB : Hid (Bk wz bx _ _) := hBk
    have HNW : Hid (w.heap.size ≤ bx) := hnw
    have c1 : wz.cell? ⟨bx, 1, none⟩ = some (.int .i64 n) := hBk.cellv (j := 1) rfl
    clear hP hD hRs hBk hnw
    obtain ⟨dd, edd⟩ : ∃ dd, dd = (jl M n).getD d0 := ⟨_, rfl⟩
    obtain ⟨gg, egg⟩ : ∃ gg, gg = (jl M n).isSome := ⟨_, rfl⟩
    have HRG : Hid (∀ c ∈ dd.m.body, 0 ≤ c ∧ c ≤ 255) := by
      show ∀ c ∈ dd.m.body, 0 ≤ c ∧ c ≤ 255
      rw [edd]
      cases hj : jl M n with
      | none => intro c hc; simp [d0] at hc
      | some x => exact (HP.out.wn.wp.each n x hj).2.2.2.1
    have HG := Get_w HP.out.wn n HI.out
    rw [← edd, ← egg] at HG
    have HEDD : Hid (dd = (jl M n).getD d0) := edd
    have HEGG : Hid (gg = (jl M n).isSome) := egg
    clear edd egg
    go_wp2_with (fail)
    refine HG.mono ?_
    rintro e w3 ⟨u3, rfl, ho3, hm3, hg3⟩
    obtain ⟨a3, c3, rfl⟩ := ho3.shape
    have HZ3 : Hid (Bk _ _ _ _) := Bk.new w3 #[.int .i64 0, .int .i64 0, .int .i64 0, .int .i64 0, .int .i64 0, .int .i64 0, .int .i64 0, .int .i64 0, .int .i64 0, .int .i64 0, .int .i64 0, .int .i64 0, .bool false, .int .i64 0, .int .i64 0, .int .i64 0, .int .i64 0, .slice none 0 0] 35
    have HM3 : Hid (Mod (fun _ => False) wz w3) := hm3
    have HO3 : Hid (Own w3 (.slice a3 dd.m.body.length c3) dd.m.body) := ho3
    unfold dv
    clear HG c1 hm3 hg3 ho3
    have hGD := dGet HP.out.dw (by have := HP.out.len; omega) n
    clear hGD
    go_wp2_with (refine wpList_store_row info18 rfl rfl _ _ rfl w3.heap.size #[.int .i64 dd.q, .int .i64 dd.r, .int .i64 dd.n, .int .i64 dd.s, .int .i64 dd.t, .int .i64 dd.m.kind, .int .i64 dd.m.origin, .int .i64 dd.m.life, .int .i64 dd.m.id, .int .i64 dd.m.part, .int .i64 dd.m.parts, .int .i64 dd.m.groups, .bool dd.m.safe, .int .i64 dd.m.st, .int .i64 dd.m.rs, .int .i64 dd.m.rr, .int .i64 dd.m.sq, .slice a3 dd.m.body.length c3] rfl rfl HZ3.out rfl rfl rfl ?_; intro w4 hB4 hM4; have c4 : w4.cell? ⟨bx, 1, none⟩ = some (.int .i64 n) := (((HB.out.mod HM3.out (fun h => h)).mod (((Mod.refl (fun _ => False) w3).alloc _).trans hM4 (V := fun _ => False) (fun _ _ h => h) (fun i hi e => by omega)) (fun h => h))).cellv (j := 1) rfl)
    have HM4 : Hid (Mod (fun _ => False) w3 w4) := ((Mod.refl (fun _ => False) w3).alloc _).trans hM4 (fun _ _ h => h) (fun i hi e => by omega)
    have HB4 : Hid (Bk w4 w3.heap.size 35 #[.int .i64 dd.q, .int .i64 dd.r, .int .i64 dd.n, .int .i64 dd.s, .int .i64 dd.t, .int .i64 dd.m.kind, .int .i64 dd.m.origin, .int .i64 dd.m.life, .int .i64 dd.m.id, .int .i64 dd.m.part, .int .i64 dd.m.parts, .int .i64 dd.m.groups, .bool dd.m.safe, .int .i64 dd.m.st, .int .i64 dd.m.rs, .int .i64 dd.m.rr, .int .i64 dd.m.sq, .slice a3 dd.m.body.length c3]) := hB4
    have HO4 : Hid (Own w4 (.slice a3 dd.m.body.length c3) dd.m.body) := HO3.out.mod HM4.out (fun _ _ h => h)
    have HP4 : Hid (Pq w w4 p q (jl M) M XX YY aa hh hh (k + 1) (k + 1)) := (HP.out.keep HM3.out).keep HM4.out
    have HX4 : Hid (Bk w4 bx _ _) := (HB.out.mod HM3.out (fun h => h)).mod HM4.out (fun h => h)
    obtain ⟨bA, ebA⟩ : ∃ bA, bA = w3.heap.size := ⟨_, rfl⟩
    rw [← ebA] at HB4 ⊢
    clear hB4 hM4 HZ3 HO3 ebA c4
    have HG2 := dGet HP4.out.dw (by have := HP4.out.len; omega) n
    rw [← HEDD.out, ← HEGG.out] at HG2
    refine HG2.mono ?_
    rintro e w5 ⟨u5, rfl, ho5, hm5, hg5⟩
    obtain ⟨a5, c5, rfl⟩ := ho5.shape
    have HZ5 : Hid (Bk _ _ _ _) := Bk.new w5 #[.int .i64 0, .int .i64 0, .int .i64 0, .int .i64 0, .int .i64 0, .int .i64 0, .int .i64 0, .int .i64 0, .int .i64 0, .int .i64 0, .int .i64 0, .int .i64 0, .bool false, .int .i64 0, .int .i64 0, .int .i64 0, .int .i64 0, .slice none 0 0] 35
    have HM5 : Hid (Mod (fun _ => False) w4 w5) := hm5
    have HO5 : Hid (Own w5 (.slice a5 dd.m.body.length c5) dd.m.body) := ho5
    unfold dv
    clear HG2 hm5 hg5 ho5
    go_wp2_with (refine wpList_store_row info18 rfl rfl _ _ rfl w5.heap.size #[.int .i64 dd.q, .int .i64 dd.r, .int .i64 dd.n, .int .i64 dd.s, .int .i64 dd.t, .int .i64 dd.m.kind, .int .i64 dd.m.origin, .int .i64 dd.m.life, .int .i64 dd.m.id, .int .i64 dd.m.part, .int .i64 dd.m.parts, .int .i64 dd.m.groups, .bool dd.m.safe, .int .i64 dd.m.st, .int .i64 dd.m.rs, .int .i64 dd.m.rr, .int .i64 dd.m.sq, .slice a5 dd.m.body.length c5] rfl rfl HZ5.out rfl rfl rfl ?_; intro w6 hB6 hM6; have c6 : w6.cell? ⟨bx, 1, none⟩ = some (.int .i64 n) := (((HX4.out.mod HM5.out (fun h => h)).mod (((Mod.refl (fun _ => False) w5).alloc _).trans hM6 (V := fun _ => False) (fun _ _ h => h) (fun i hi e => by omega)) (fun h => h))).cellv (j := 1) rfl)
    have HM6 : Hid (Mod (fun _ => False) w5 w6) := ((Mod.refl (fun _ => False) w5).alloc _).trans hM6 (fun _ _ h => h) (fun i hi e => by omega)
    have HB6 : Hid (Bk w6 w5.heap.size 35 #[.int .i64 dd.q, .int .i64 dd.r, .int .i64 dd.n, .int .i64 dd.s, .int .i64 dd.t, .int .i64 dd.m.kind, .int .i64 dd.m.origin, .int .i64 dd.m.life, .int .i64 dd.m.id, .int .i64 dd.m.part, .int .i64 dd.m.parts, .int .i64 dd.m.groups, .bool dd.m.safe, .int .i64 dd.m.st, .int .i64 dd.m.rs, .int .i64 dd.m.rr, .int .i64 dd.m.sq, .slice a5 dd.m.body.length c5]) := hB6
    have HO6 : Hid (Own w6 (.slice a5 dd.m.body.length c5) dd.m.body) := HO5.out.mod HM6.out (fun _ _ h => h)
    have HQ6 : Hid (Own w6 (.slice a3 dd.m.body.length c3) dd.m.body) := (HO4.out.mod HM5.out (fun _ _ h => h)).mod HM6.out (fun _ _ h => h)
    have HA6 : Hid (Bk w6 bA 35 _) := (HB4.out.mod HM5.out (fun h => h)).mod HM6.out (fun h => h)
    have HP6 : Hid (Pq w w6 p q (jl M) M XX YY aa hh hh (k + 1) (k + 1)) := (HP4.out.keep HM5.out).keep HM6.out
    have HX6 : Hid (Bk w6 bx _ _) := (HX4.out.mod HM5.out (fun h => h)).mod HM6.out (fun h => h)
    obtain ⟨bB, ebB⟩ : ∃ bB, bB = w5.heap.size := ⟨_, rfl⟩
    rw [← ebB] at HB6 ⊢
    clear hB6 hM6 HZ5 HO5 ebB c6 HO4 HB4 HP4 HX4 HM4 HM5 HM6 HM3 HP HB
    refine (Above_w HP6.out.wn (by omega) n).mono ?_
    rintro e w7 ⟨lv, ds, zs, rfl, hR7, hK7, hds7, hln7, hm7⟩
    obtain ⟨al, cl, rfl⟩ := hR7.row.shape
    have HR7 : Hid (Rd18 w7 w6.heap.size (.slice al ds.length cl) ds) := hR7
    have HK7 : Hid (Ks (jl M) n zs) := hK7
    have HDS : Hid (ds.map (·.1) = zs.map (fun k => (jl M k).getD d0)) := hds7
    have HLN : Hid (ds.length ≤ 1000) := by
      have := congrArg List.length hds7
      simp at this
      show _ ≤ _
      omega
    have HM7 : Hid (Mod (fun _ => False) w6 w7) := hm7
    clear hR7 hK7 hds7 hln7 hm7
    go_upto_region 24 with (fail)
    go_cut [161] (fun s wx => s = .bool false ∧ Mod (fun _ => False) w7 wx)
    case first =>
      have hPd : Pq w w7.drew p q (jl M) M XX YY aa hh hh (k + 1) (k + 1) := (HP6.out.keep HM7.out).keep ((Mod.refl (fun _ => False) w7).drew)
      have HPd : Hid (Pq w w7.drew p q (jl M) M XX YY aa hh hh (k + 1) (k + 1)) := hPd
      have HRd : Hid (Rd18 w7.drew w6.heap.size (.slice al ds.length cl) ds) := HR7.out.keep ((Mod.refl (fun _ => False) w7).drew)
      have HQd : Hid (Own w7.drew (.slice a3 dd.m.body.length c3) dd.m.body) := (HQ6.out.mod HM7.out (fun _ _ h => h)).mod ((Mod.refl (fun _ => False) w7).drew) (fun _ _ h => h)
      have HOd : Hid (Own w7.drew (.slice a5 dd.m.body.length c5) dd.m.body) := (HO6.out.mod HM7.out (fun _ _ h => h)).mod ((Mod.refl (fun _ => False) w7).drew) (fun _ _ h => h)
      have HA7 : Hid (Bk w7 bA 35 _) := HA6.out.mod HM7.out (fun h => h)
      have HB7 : Hid (Bk w7 bB 35 _) := HB6.out.mod HM7.out (fun h => h)
      have HX7 : Hid (Bk w7 bx _ _) := HX6.out.mod HM7.out (fun h => h)
      clear hPd
      refine region24 p q bx bA bB dd (.slice a3 dd.m.body.length c3) (.slice a5 dd.m.body.length c5) (.slice al ds.length cl) gg aa hh n ((fil (jl M) hh.toNat).take (min n 16).toNat) (ds.map (·.1)) ⟨⟨_, rfl, rfl, rfl, rfl, by decide +kernel⟩⟩ ⟨⟨_, rfl, rfl, rfl, rfl, by decide +kernel⟩⟩ ⟨⟨_, rfl, rfl, rfl, rfl, by decide +kernel⟩⟩ ⟨⟨_, rfl, rfl, rfl, rfl, by decide +kernel⟩⟩ ⟨⟨_, rfl, rfl, rfl, rfl, by decide +kernel⟩⟩ ⟨⟨_, rfl, rfl, rfl, rfl, by decide +kernel⟩⟩ ⟨⟨_, rfl, rfl, rfl, rfl, by decide +kernel⟩⟩ ⟨⟨_, rfl, rfl, rfl, rfl, by decide +kernel⟩⟩ ⟨⟨_, rfl, rfl, rfl, rfl, by decide +kernel⟩⟩ ⟨⟨_, rfl, rfl, rfl, rfl, by decide +kernel⟩⟩ ⟨⟨_, rfl, rfl, rfl, rfl, by decide +kernel⟩⟩ ⟨⟨_, rfl, rfl, rfl, rfl, by decide +kernel⟩⟩ ⟨⟨_, rfl, rfl, rfl, rfl, by decide +kernel⟩⟩ ⟨⟨_, rfl, rfl, rfl, rfl, by decide +kernel⟩⟩ ⟨⟨_, rfl, rfl, rfl, rfl, by decide +kernel⟩⟩ ⟨⟨_, rfl, rfl, rfl, rfl, by decide +kernel⟩⟩ ⟨⟨_, rfl, rfl, rfl, rfl, by decide +kernel⟩⟩ ⟨⟨_, rfl, rfl, rfl, rfl, by decide +kernel⟩⟩ ⟨⟨_, rfl, rfl, rfl, rfl, by decide +kernel⟩⟩ ⟨⟨_, rfl, rfl, rfl, rfl, by decide +kernel⟩⟩ ⟨⟨_, rfl, rfl, rfl, rfl, by decide +kernel⟩⟩ ⟨⟨_, rfl, rfl, rfl, rfl, by decide +kernel⟩⟩ ⟨⟨_, rfl, rfl, rfl, rfl, by decide +kernel⟩⟩ ⟨⟨_, rfl, rfl, rfl, rfl, by decide +kernel⟩⟩ ⟨⟨_, rfl, rfl, rfl, rfl, by decide +kernel⟩⟩ ⟨⟨_, rfl, rfl, rfl, rfl, by decide +kernel⟩⟩ ⟨⟨_, rfl, rfl, rfl, rfl, by decide +kernel⟩⟩ ⟨⟨_, rfl, rfl, rfl, rfl, by decide +kernel⟩⟩ ⟨⟨_, rfl, rfl, rfl, rfl, by decide +kernel⟩⟩ ⟨⟨_, rfl, rfl, rfl, rfl, by decide +kernel⟩⟩ ⟨⟨_, rfl, rfl, rfl, rfl, by decide +kernel⟩⟩ ⟨⟨_, rfl, rfl, rfl, rfl, by decide +kernel⟩⟩ ⟨⟨_, rfl, rfl, rfl, rfl, by decide +kernel⟩⟩ ⟨⟨_, rfl, rfl, rfl, rfl, by decide +kernel⟩⟩ ⟨⟨_, rfl, rfl, rfl, rfl, by decide +kernel⟩⟩ ⟨⟨_, rfl, rfl, rfl, rfl, by decide +kernel⟩⟩ ⟨⟨_, rfl, rfl, rfl, rfl, by decide +kernel⟩⟩ ⟨⟨_, rfl, rfl, rfl, rfl, by decide +kernel⟩⟩ ⟨⟨_, rfl, rfl, rfl, rfl, by decide +kernel⟩⟩ ⟨⟨_, rfl, rfl, rfl, rfl, by decide +kernel⟩⟩ ⟨⟨_, rfl, rfl, rfl, rfl, by decide +kernel⟩⟩ ⟨⟨_, rfl, rfl, rfl, rfl, by decide +kernel⟩⟩ ⟨⟨_, rfl, rfl, rfl, rfl, by decide +kernel⟩⟩ ⟨⟨_, rfl, rfl, rfl, rfl, by decide +kernel⟩⟩ rfl (by decide +kernel) rfl (by decide +kernel) rfl rfl rfl rfl rfl rfl rfl rfl rfl HA7.out.row HB7.out.row (HX7.out.cellv (j := 1) rfl)
        (fun W hW => SameData_eq dd.q dd.r dd.n dd.s dd.t dd.m.kind dd.m.origin dd.m.life dd.m.id dd.m.part dd.m.parts dd.m.groups dd.m.safe dd.m.st dd.m.rs dd.m.rr dd.m.sq a3 a5 c3 c5 dd.m.body W ((HQd.out.mod hW (fun _ _ h => h)).sl HRG.out) ((HOd.out.mod hW (fun _ _ h => h)).sl HRG.out))
        (fun W hW => (Aru_w (HPd.out.wn.keep hW)).mono (by rintro e w' ⟨rfl, rfl⟩; exact ⟨rfl, Mod.refl _ _⟩))
        (fun W hW => dAru (HPd.out.dw.keep hW) (by have := HPd.out.len; omega) HPd.out.wn.wp)
        (fun W hW => (High_w (HPd.out.wn.keep hW)).mono (by rintro e w' ⟨rfl, rfl⟩; exact ⟨rfl, Mod.refl _ _⟩))
        (fun W hW => (dHigh (HPd.out.dw.keep hW)).mono (by rintro e w' ⟨rfl, rfl⟩; exact ⟨rfl, Mod.refl _ _⟩))
        (fun W hW => (Gaps_w (HPd.out.wn.keep hW) n).mono (by rintro e w' ⟨v, rfl, h1, h2, -⟩; exact ⟨v, rfl, h1, h2⟩))
        (fun W hW => (dGaps (HPd.out.dw.keep hW) (by have := HPd.out.len; omega) HPd.out.wn.wp n).mono (by rintro e w' ⟨v, rfl, h1, h2, -⟩; exact ⟨v, rfl, h1, h2⟩))
        (fun W u v hu hv => Cr.EqInts_at true hu.sl hv.sl (decide_eq_true rfl))
        (fun W hW => (dAbove (HPd.out.dw.keep hW) (by have := HPd.out.len; omega) HD.out n).mono (by
          rintro e w' ⟨v, os, zs', rfl, h1, h2, h3, h4⟩
          refine ⟨v, os, _, rfl, h1, ?_, h4⟩
          rw [h3, HDS.out, h2.uniq HK7.out (fun _ => rfl)]))
        (fun W v os b hW hv hm => datas_eq _ v ds os W _ b (HRd.out.keep hW) hv hm.symm (by have := HLN.out; omega)) ?_
      intro y118 y119 y120 y121 y122 y123 y124 y125 y126 y127 y128 y129 y130 y131 y132 y133 y134 y135 y136 y137 y138 y139 y140 y141 y142 y143 y144 y145 y146 y147 y148 y149 y150 y151 y152 y153 y154 y155 y156 y157 y158 y159 y160 w9 hm9
      have HM9 : Hid (Mod (fun _ => False) w7 w9) := ((Mod.refl (fun _ => False) w7).drew).and hm9
      clear hm9 HPd HRd HQd HOd HA7 HB7 HX7
      simp only [puts, Act.put, List.setIfInBounds_toArray, List.set_cons_succ, List.set_cons_zero]
      go_wp2
      go_meet
      exact ⟨rfl, HM9.out⟩
    case rest =>
    obtain ⟨rfl, hm8⟩ := hcut
    obtain ⟨w8, ew8⟩ : ∃ w8, w8 = wc := ⟨_, rfl⟩
    subst ew8
    have HP8 : Hid (Pq w w8 p q (jl M) M XX YY aa hh hh (k + 1) (k + 1)) := (HP6.out.keep HM7.out).keep hm8
    have HSS : Hid (∀ i, Ss ds i → w6.heap.size ≤ i) := fun i hi => by
      obtain ⟨x, hx, hb⟩ := hi
      exact (HR7.out.each x hx).2.1 i hb
    have HXL : Hid (∀ i, XX i → i < w6.heap.size) := HP6.out.xlt
    have HYL : Hid (∀ i, YY i → i < w6.heap.size) := HP6.out.ylt
    have HW6 : Hid (w.heap.size ≤ w6.heap.size) := HP6.out.mod.size
    have HSD : Hid (Sd w8 (.slice al ds.length cl) ds ∧ Mod (Ss ds) w8 w8) := ⟨(HR7.out.keep hm8).sd, Mod.refl _ _⟩
    have hlen : (ds.length : Int) ≤ 1000 := by have := HLN.out; go_light; omega
    clear hm8 HP6 HM7 HR7 HB6 HO6 HQ6 HA6 HX6 HK7 HDS HEDD HEGG HRG HI
    go_wp2_with (fail)
    go_loopw [18] (fun ci wr => ∃ j : Nat, ci = .int .i64 (j : Int) ∧ j ≤ ds.length ∧ Hid (Sd wr (.slice al ds.length cl) ds ∧ Mod (Ss ds) w8 wr)) (fun ci _ => ds.length - (intOf ci).toNat)
    case atStart => exact ⟨0, rfl, Nat.zero_le _, HSD⟩
    case round =>
    clear HSD
    obtain ⟨j, rfl, hj, HSD⟩ := hrel
    obtain ⟨wx, ewx⟩ : ∃ wx, wx = wr := ⟨_, rfl⟩
    subst ewx
    by_cases hjn : j < ds.length
    · have hjn' : (j : Int) < (ds.length : Int) := by go_light; omega
      have hj0 : (0 : Int) ≤ (j : Int) := by go_light; omega
      obtain ⟨x, hx⟩ : ∃ x, ds[j]? = some x := ⟨ds[j], List.getElem?_eq_getElem hjn⟩
      obtain ⟨g, of, rfl, -⟩ := HSD.out.1.at hx
      obtain ⟨ab, cb, eb, hb1, -⟩ := HSD.out.1.each x (List.mem_of_getElem? hx)
      obtain ⟨lb, elb⟩ : ∃ lb, lb = x.1.m.body.length := ⟨_, rfl⟩
      rw [← elb] at eb hb1
      have HCX : Hid (∀ W, Sd W (.slice (some ⟨g, of, none⟩) ds.length cl) ds → W.cell? ⟨g, of + j * 18 + 17, none⟩ = some (.slice ab lb cb) ∧ (0 < lb → ∃ b, ab = some ⟨b, 0, none⟩ ∧ By W b lb ∧ Ss ds b)) := fun W hW => by
        obtain ⟨g', o', e', hc⟩ := hW.at hx
        cases e'
        refine ⟨by rw [hc, eb], fun hp => ?_⟩
        obtain ⟨ab', cb', eb', _, hB'⟩ := hW.each x (List.mem_of_getElem? hx)
        rw [eb, ← elb] at eb'
        cases eb'
        obtain ⟨b', rfl, h5⟩ := hB' (by omega)
        exact ⟨b', rfl, by rw [elb]; exact h5, ⟨x, List.mem_of_getElem? hx, by rw [eb]; rfl⟩⟩
      have hlb : (lb : Int) ≤ 9223372036854775807 := by go_light; omega
      have HLB : Hid ((lb : Int) ≤ 9223372036854775807) := hlb
      have cx := (HCX.out wx HSD.out.1).1
      clear eb hb1 elb hx hlb
      go_wp2_with (fail)
      go_loopw [19] (fun ck wr => ∃ t : Nat, ck = .int .i64 (t : Int) ∧ t ≤ lb ∧ Hid (Sd wr (.slice (some ⟨g, of, none⟩) ds.length cl) ds ∧ Mod (Ss ds) w8 wr)) (fun ck _ => lb - (intOf ck).toNat)
      case atStart => exact ⟨0, rfl, Nat.zero_le _, HSD⟩
      case round =>
      clear HSD cx
      obtain ⟨t, rfl, ht, HSD⟩ := hrel
      obtain ⟨wy, ewy⟩ : ∃ wy, wy = wr := ⟨_, rfl⟩
      subst ewy
      have cy := (HCX.out wy HSD.out.1).1
      by_cases htn : t < lb
      · have htn' : (t : Int) < (lb : Int) := by go_light; omega
        have ht0 : (0 : Int) ≤ (t : Int) := by go_light; omega
        have htb : (t : Int) < 9223372036854775807 := by have := HLB.out; go_light; omega
        obtain ⟨b, rfl, hby, hSb⟩ := (HCX.out wy HSD.out.1).2 (by go_light; omega)
        obtain ⟨c, ck, fk⟩ := hby.cell htn
        have HSet : ∀ x, Hid (Sd (wy.drew.setCell ⟨b, t, none⟩ (.int .u8 x)) (.slice (some ⟨g, of, none⟩) ds.length cl) ds ∧ Mod (Ss ds) w8 (wy.drew.setCell ⟨b, t, none⟩ (.int .u8 x))) := fun x => ⟨HSD.out.1.drew.setb (hby.mod ((Mod.refl (fun _ => False) wy).drew) (fun h => h)) t x, HSD.out.2.drew.setCell _ _ (.inl hSb)⟩
        clear HSD hby hSb HCX
        go_wp2_with (fail)
        go_region
        all_goals go_wp2_with (fail)
        all_goals go_roundw
        all_goals first
          | exact ⟨t + 1, by go_num, htn, HSet _⟩
          | (simp [intOf]; go_light; omega)
      · have ek : ¬ (t : Int) < (lb : Int) := by go_light; omega
        clear HCX
        go_wp2_with (fail)
        go_roundw
        case rel => exact ⟨j + 1, by go_num, hjn, HSD⟩
        case measure => simp [intOf]; go_light; omega
    · have ej : ¬ (j : Int) < (ds.length : Int) := by go_light; omega
      have HR : Hid (Rs w wx p q (k + 1)) := ⟨_, _, _, _, _, HP8.out.by HSD.out.2 (fun i hx hs => by have := HXL.out i hx; have := HSS.out i hs; omega) (fun i hx hs => by have := HYL.out i hx; have := HSS.out i hs; omega) (fun i hs => by have := HSS.out i hs; have := HW6.out; omega), HD.out⟩
      go_wp2_with (fail)
      go_roundw
      case rel => exact ⟨k + 1, by go_num, by go_light; omega, HR⟩
      case measure => simp [intOf]; go_light; omega
namespace windowPlays
open Go.ChangeShapes Go.WideShapes Go.ChangeAt Go.RowKit
set_option maxRecDepth 100000 in
theorem lifted (os : Os) (started : os.Started) (H : Type) (enc : TypeId × Value → H) :
    ReturnsInHanded {} Try.checked os 3 .any (Rows.windowPlaysSpec.pre6 enc Try.prog Try.f3 Rows.windowPlaysRow.domain false) (Rows.windowPlaysSpec.post enc Try.prog Try.f3 false true false false) := by
  refine returnsInHanded_of_change_sized (C := Try.checked) own started (by kernel_rfl) Try.func3
    (ChangeSpec.witness6 (enc := enc) (C := Try.checked) false ⟨#[], #[.slice none 0 0], []⟩ 8 (by kernel_rfl) (by kernel_rfl) (by kernel_rfl) (by kernel_rfl)) ?_
  intro W base args ds gs before hval0 hW hcnd hsz0 _
  have hval : ∀ (j : Nat) t v, Try.f3.params[j]? = some t → args[j]? = some v → Value.okWide Try.prog W .any base t v := hval0
  have hsz : (DataW.weightsEach Try.prog (Try.f3.params.toList ++ Rows.windowPlaysSpec.plain.varTypes Try.prog) (ds ++ gs)).all (· ≤ reachBytes) = true := hsz0
  have hW' := hW
  obtain ⟨p, q, hA0, hV, rfl, hfz, hnd⟩ := hW
  have hA : DataW.TrodAll enc Try.prog W 0 (fun _ => true) true Try.f3.params.toList args.toList ds p := hA0
  rw [Try.params3] at hA hval hsz
  obtain ⟨v0, vs0, d0, ds0, p0, q0, hargs, rfl, rfl, h0, r0⟩ := trodAll_cons hA
  obtain ⟨rfl, rfl, rfl⟩ := trodAll_nil r0
  obtain rfl : args = #[v0] := by cases args; simp_all
  obtain ⟨rfl, rfl⟩ := trodVars_none hV
  have k0 := h0
  have lt0 : ∀ x ∈ p0, x.block < W.heap.size := by obtain ⟨m, hm⟩ := k0; exact DataW.trod_lt m _ _ _ hm
  obtain ⟨B0, hB0⟩ := open_dos h0 (okWide_slice Try.underlying22 (hval 0 22 v0 rfl rfl)) (by
    rw [List.all_eq_true] at hsz
    intro n hn
    have := hsz n (DataW.weights_mem_each (t := 22) (j := 0) rfl rfl n hn)
    simpa using this)
  clear hA0 hval0
  refine (plays_walk v0 B0 W hB0).mono fun e W' ⟨he, hm⟩ => ?_
  subst he
  have bel : Below W.heap.size W W' := hm.below _ (Nat.le_refl _) (fun _ h => h.elim)
  exact ⟨_, rfl, _, _, _, [], _, [], hW', trodAll_mk1 (shut_bool Try.underlying4 _), (trodAll_cons_mk (Below.trod laidOut (by kernel_rfl) (of_decide_eq_true (by kernel_rfl)) k0 bel lt0) trodAll_mk0), rfl, bel.frame _, fun h => by cases h⟩

theorem over : Rows.windowPlaysRow.holds Try.pinned (OpenSpec.ofChange Rows.windowPlaysSpec) :=
  OpenClaim.holds_of_wide 3 Try.f3 rfl rfl rfl rfl rfl rfl rfl ⟨rfl, rfl, rfl, rfl, rfl⟩ rfl rfl rfl rfl rfl (by kernel_rfl) Try.func3 (by kernel_rfl)
    (of_decide_eq_true (by kernel_rfl)) (by unfold Func.isWrapper; first | (rw [if_pos (by decide +kernel)]; kernel_rfl) | (rw [if_neg (by decide +kernel)]; exact ⟨rfl, rfl⟩))
    (fun os started H enc _ => lifted os started H enc)
end windowPlays
theorem windowPlays_holds : Rows.WindowPlaysSaid := windowPlays.over
end Go.Proofs.Ytejlcoakencdiaa
