/- Contract of a queue's Put where there is room. No conditions beyond sizes that a slice has. -/
import Derived.Test.YtcedlpjjldmpfaaQd
import Derived.Test.YtcedlpjjldmpfaaFrx
namespace Go.Proofs.Ytcedlpjjldmpfaa
open Go.RowKit
theorem step_slot {ops : Array Oper} {o : Oper} {a : Act} {w : World} {K : Act → World → Prop} {Q : Exit → Act → World → Prop} {E : Prop} {ts : Array TypeId} (hgd : o.guard = none) (x y : Operand)
    (ho : o.op = .call { callee := .value (.func 29), args := #[x, y], argTypes := ts }) (q : Nat) (n : Nat) (r : Value) (hx : a.eval x = .pointer (some ⟨q, 0, none⟩)) (hy : a.eval y = .int .i64 (n : Int))
    (HB : Calls Try.prog 29 #[.pointer (some ⟨q, 0, none⟩), .int .i64 (n : Int)] w fun e w' => e = .returned r ∧ Mod (fun _ => False) w w') (h : ∀ w', Mod (fun _ => False) w w' → K (a.put o.dst r) w') :
    if Region.wanted o (yielded ops a.tmps) = true then Oper.wp Try.prog o a w K Q else E := by
  rw [if_pos (by simp [Region.wanted, hgd])]
  refine wp_enter (by rw [exec_call2 a.eval (fun args w => by simp [go_sem]) rfl ho, hx, hy]) HB ?_
  rintro e w' ⟨rfl, hr⟩
  exact ⟨_, rfl, h w' hr⟩
theorem sizeM13 : (Try.prog.info? 40).map (·.size) = some 13 := by kernel_rfl
/-- A message stored whole, as a step of a statement that draws its order. -/
theorem step_storeM {ops : Array Oper} {o : Oper} {a : Act} {w : World} {K : Act → World → Prop} {Q : Exit → Act → World → Prop} {E : Prop} {t : TypeId} {n : Nat} (hi : (Try.prog.info? t).map (·.size) = some n) (hgd : o.guard = none) (x y : Operand) (ho : o.op = .store t x y)
    (b of : Nat) (cells : Array Value) (hx : a.eval x = .pointer (some ⟨b, of, none⟩)) (hy : a.eval y = .agg cells) {t' : TypeId} {xs : Array Value} (hB : Bk w b t' xs) (hxs : of + n ≤ xs.size) (hcs : cells.size = n) (h1 : cells.toList.all (·.oneCell') = true)
    (h : ∀ w', Bk w' b t' (sets' xs of cells.toList) → Mod (fun k => k = b) w w' → K (a.put o.dst undef) w') :
    if Region.wanted o (yielded ops a.tmps) = true then Oper.wp Try.prog o a w K Q else E := by
  rw [if_pos (by simp [Region.wanted, hgd])]
  exact wp_store_mid (P := Try.prog) t x y ho b of cells hx hy (hB.there (by omega)) (by rw [hi, hcs]) (by rw [← Array.all_toList]; exact h1) (h _ (Bk.stores cells.toList of hB) (setCells_mod b cells.toList of w))
theorem set13 (w : World) (q o : Nat) (v0 v1 v2 v3 v4 v5 v6 v7 v8 v9 v10 v11 v12 : Value) : (((((((((((((w.setCell ⟨q, o, none⟩ v0).setCell ⟨q, o + 1, none⟩ v1).setCell ⟨q, o + 2, none⟩ v2).setCell ⟨q, o + 3, none⟩ v3).setCell ⟨q, o + 4, none⟩ v4).setCell ⟨q, o + 5, none⟩ v5).setCell ⟨q, o + 6, none⟩ v6).setCell ⟨q, o + 7, none⟩ v7).setCell ⟨q, o + 8, none⟩ v8).setCell ⟨q, o + 9, none⟩ v9).setCell ⟨q, o + 10, none⟩ v10).setCell ⟨q, o + 11, none⟩ v11).setCell ⟨q, o + 12, none⟩ v12) = w.setCells q o [v0, v1, v2, v3, v4, v5, v6, v7, v8, v9, v10, v11, v12] := by
  simp only [World.setCells, Nat.add_assoc]
set_option maxRecDepth 100000 in
set_option maxHeartbeats 4000000 in
theorem Put_ok {w : World} {q : Nat} {X : Nat → Prop} {L : List Ms} (h : Qu w q X L) (va : Value) (ds : List (Ms × Value)) (hD : Mgs w va ds) (hb : bd ds = false) (hf : L.length + ds.length ≤ 32) (hfar : Far X va ds) : Calls Try.prog 10 #[.pointer (some ⟨q, 0, none⟩), va] w fun e w' => e = .returned (.int .i64 0) ∧ (∃ X', Qu w' q X' (L ++ ds.map (·.1)) ∧ (∀ b, X' b → X b ∨ w.heap.size ≤ b)) ∧ Mod (fun b => b = q) w w' := by
  have HQ : Hid (Qu w q X L) := h
  obtain ⟨xs, f, V, h⟩ := h
  have c0 := h.c0
  have hqX := h.inX
  clear h
  have HC := contains_any va ds w hD
  rw [hb] at HC
  have HD : Hid (Mgs w va ds) := hD
  have HF : Hid (Far X va ds) := hfar
  obtain ⟨av, cv, rfl, hlen, hfm⟩ := hD.form
  clear hfm hD hb hfar
  have hf2 : ¬ 32 - (L.length : Int) < (ds.length : Int) := by omega
  go_enter Try.func10, Try.ntmps10
  go_wp2_with (first | (go_at_call 25; refine (isNone_q c0).mono ?_; rintro e w ⟨rfl, rfl⟩))
  refine HC.mono ?_
  rintro e w1 ⟨rfl, hm1⟩
  have HR := Room_q (HQ.out.mod hm1 (fun _ _ h => h))
  clear HC c0
  go_wp2_with (fail)
  refine HR.mono ?_
  rintro e w1 ⟨rfl, rfl⟩
  clear HR
  go_wp2_with (fail)
  go_loopw [6, 21] (fun _ ci wr => ∃ (j : Nat), ci = .int .i64 (j : Int) ∧ j ≤ ds.length ∧ (∃ X', Qu wr q X' (L ++ (ds.take j).map (·.1)) ∧ (∀ b, X' b → X b ∨ w.heap.size ≤ b)) ∧ Mod (fun b => b = q) w wr) (fun _ ci _ => ds.length - (intOf ci).toNat)
  case atStart => exact ⟨0, rfl, Nat.zero_le _, ⟨X, by simpa using HQ.out.mod hm1 (fun _ _ h => h), fun b h => .inl h⟩, hm1.mono (fun _ _ h => h.elim)⟩
  case round =>
    obtain ⟨j, rfl, hj, ⟨X', ⟨xs, f, V, hQ⟩, hX'⟩, hMr⟩ := hrel
    clear hm1
    by_cases hjn : j < ds.length
    · have hjn' : (j : Int) < (ds.length : Int) := by go_light; omega
      obtain ⟨d, hdj⟩ : ∃ d, ds[j]? = some d := ⟨ds[j], List.getElem?_eq_getElem hjn⟩
      have hDr := HD.out.mod2 hMr (HF.out.mono (fun b hb => by subst hb; exact hqX))
      obtain ⟨av', cv', e, _, hfm⟩ := hDr.form
      cases e
      obtain ⟨b, off, rfl, hc⟩ := hfm (by intro e; rw [e] at hjn; exact absurd hjn (Nat.not_lt_zero _))
      have hrg := hc j d hdj
      obtain ⟨hsl, hbl⟩ := hDr.each d (List.mem_of_getElem? hdj)
      have HDJ : Hid (ds[j]? = some d) := hdj
      clear hdj hc hfm hDr
      obtain ⟨⟨k, o, lf, i, p, ps, g, s, st, rs, rr, sq, l⟩, dv⟩ := d
      replace hsl : Sl wr dv l := hsl
      replace hbl : l.length ≤ 140737488355328 := hbl
      obtain ⟨ao, cap, rfl, _⟩ := hsl.form
      obtain ⟨c0, c1, c2, c3, c4, c5, c6, c7, c8, c9, c10, c11, c12⟩ := range13 hrg
      have hA := (Mod.refl (fun _ => False) wr).alloc (.cells #[.int .i64 k, .int .i64 o, .int .i64 lf, .int .i64 i, .int .i64 p, .int .i64 ps, .int .i64 g, .bool s, .int .i64 st, .int .i64 rs, .int .i64 rr, .int .i64 sq, .slice ao l.length cap] 40)
      have hNew := Bk.new wr #[.int .i64 k, .int .i64 o, .int .i64 lf, .int .i64 i, .int .i64 p, .int .i64 ps, .int .i64 g, .bool s, .int .i64 st, .int .i64 rs, .int .i64 rr, .int .i64 sq, .slice ao l.length cap] 40
      have HCl := clone_any (.slice ao l.length cap) l _ (hsl.mod hA (fun _ _ h => h)) hbl
      clear hrg
      go_wp2_with (fail)
      refine HCl.mono ?_
      rintro e w2 ⟨v', rfl, ho2, hm2, hg2⟩
      obtain ⟨a2, k2, rfl⟩ := ho2.shape
      clear HCl c0 c1 c2 c3 c4 c5 c6 c7 c8 c9 c10 c11 c12
      replace hNew := hNew.mod hm2 (fun h => h)
      have c12 := hNew.cellv (j := 12) rfl
      have f12 := hNew.frz 12
      have hMB := hNew.set 12 (.slice a2 l.length k2)
      simp only [List.setIfInBounds_toArray, List.set_cons_succ, List.set_cons_zero] at hMB
      have hSt := (Mod.refl (fun z => z = wr.heap.size) w2).setCell ⟨wr.heap.size, 12, none⟩ (.slice a2 l.length k2) (.inl rfl)
      have hg2' : ∀ b, (Value.slice a2 l.length k2).ownBlock = some b → wr.heap.size < b := fun b hb => by have := hg2 b hb; simp at this; exact this
      have hoW := ho2.mod hSt (fun b hb e => by have := hg2' b hb; rw [e] at this; exact absurd this (Nat.lt_irrefl _))
      have hMW : Mod (fun _ => False) wr (w2.setCell ⟨wr.heap.size, 12, none⟩ (.slice a2 l.length k2)) := (hA.trans hm2 (V := fun _ => False) (fun _ _ h => h) (fun _ _ h => h)).trans hSt (fun _ _ h => h) (fun b hb e => by rw [e] at hb; exact absurd hb (Nat.lt_irrefl _))
      clear hNew hSt hg2 ho2 hm2 hA
      go_upto_region 11 with (fail)
      clear c12 f12
      generalize w2.setCell ⟨wr.heap.size, 12, none⟩ (.slice a2 l.length k2) = W at *
      obtain ⟨mb, emb⟩ : ∃ mb, mb = wr.heap.size := ⟨_, rfl⟩
      rw [← emb] at hMB hg2' ⊢
      have HEMB : Hid (mb = wr.heap.size) := emb
      clear emb
      have hQW := hQ.mod hMW (fun _ _ h => h)
      obtain ⟨n, en⟩ : ∃ n, n = (L ++ (ds.take j).map (·.1)).length := ⟨_, rfl⟩
      have hn32 : n < 32 := by rw [en]; simp; go_light; omega
      have hn32' : (n : Int) < 32 := by go_light; omega
      obtain ⟨sl, esl⟩ : ∃ sl, sl = (f + n) % 32 := ⟨_, rfl⟩
      have hsl32 : sl < 32 := by rw [esl]; exact Nat.mod_lt _ (by decide)
      have cn : W.cell? ⟨q, 418, none⟩ = some (.int .i64 (n : Int)) := by rw [en]; exact hQW.cn
      have HSl := slot_q (hQW.mod ((Mod.refl (fun _ => False) W).drew) (fun _ _ h => h)) n (by go_light; omega) sl esl
      have HBQ : Hid (Bk W q 53 xs ∧ xs.size = 419) := ⟨hQW.blk, hQW.size⟩
      have HLT : Hid (1 + sl * 13 + 13 ≤ 419) := by show _ ≤ _; go_light; omega
      have m0 : W.cell? ⟨mb, 0, none⟩ = some (.int .i64 k) := hMB.cellv (j := 0) rfl
      have m1 : W.cell? ⟨mb, 1, none⟩ = some (.int .i64 o) := hMB.cellv (j := 1) rfl
      have m2 : W.cell? ⟨mb, 2, none⟩ = some (.int .i64 lf) := hMB.cellv (j := 2) rfl
      have m3 : W.cell? ⟨mb, 3, none⟩ = some (.int .i64 i) := hMB.cellv (j := 3) rfl
      have m4 : W.cell? ⟨mb, 4, none⟩ = some (.int .i64 p) := hMB.cellv (j := 4) rfl
      have m5 : W.cell? ⟨mb, 5, none⟩ = some (.int .i64 ps) := hMB.cellv (j := 5) rfl
      have m6 : W.cell? ⟨mb, 6, none⟩ = some (.int .i64 g) := hMB.cellv (j := 6) rfl
      have m7 : W.cell? ⟨mb, 7, none⟩ = some (.bool s) := hMB.cellv (j := 7) rfl
      have m8 : W.cell? ⟨mb, 8, none⟩ = some (.int .i64 st) := hMB.cellv (j := 8) rfl
      have m9 : W.cell? ⟨mb, 9, none⟩ = some (.int .i64 rs) := hMB.cellv (j := 9) rfl
      have m10 : W.cell? ⟨mb, 10, none⟩ = some (.int .i64 rr) := hMB.cellv (j := 10) rfl
      have m11 : W.cell? ⟨mb, 11, none⟩ = some (.int .i64 sq) := hMB.cellv (j := 11) rfl
      have m12 : W.cell? ⟨mb, 12, none⟩ = some (.slice a2 l.length k2) := hMB.cellv (j := 12) rfl
      have hY : ∀ t, t < 13 → ∃ y, xs[1 + sl * 13 + t]? = some y := fun t ht => ⟨_, Array.getElem?_eq_getElem (by rw [HBQ.out.2]; have := HLT.out; go_light; omega)⟩
      obtain ⟨y0, hy0⟩ := hY 0 (by decide)
      have HY0 : Hid (xs[1 + sl * 13]? = some y0) := hy0
      clear hy0
      obtain ⟨y1, hy1⟩ := hY 1 (by decide)
      have HY1 : Hid (xs[1 + sl * 13 + 1]? = some y1) := hy1
      clear hy1
      obtain ⟨y2, hy2⟩ := hY 2 (by decide)
      have HY2 : Hid (xs[1 + sl * 13 + 2]? = some y2) := hy2
      clear hy2
      obtain ⟨y3, hy3⟩ := hY 3 (by decide)
      have HY3 : Hid (xs[1 + sl * 13 + 3]? = some y3) := hy3
      clear hy3
      obtain ⟨y4, hy4⟩ := hY 4 (by decide)
      have HY4 : Hid (xs[1 + sl * 13 + 4]? = some y4) := hy4
      clear hy4
      obtain ⟨y5, hy5⟩ := hY 5 (by decide)
      have HY5 : Hid (xs[1 + sl * 13 + 5]? = some y5) := hy5
      clear hy5
      obtain ⟨y6, hy6⟩ := hY 6 (by decide)
      have HY6 : Hid (xs[1 + sl * 13 + 6]? = some y6) := hy6
      clear hy6
      obtain ⟨y7, hy7⟩ := hY 7 (by decide)
      have HY7 : Hid (xs[1 + sl * 13 + 7]? = some y7) := hy7
      clear hy7
      obtain ⟨y8, hy8⟩ := hY 8 (by decide)
      have HY8 : Hid (xs[1 + sl * 13 + 8]? = some y8) := hy8
      clear hy8
      obtain ⟨y9, hy9⟩ := hY 9 (by decide)
      have HY9 : Hid (xs[1 + sl * 13 + 9]? = some y9) := hy9
      clear hy9
      obtain ⟨y10, hy10⟩ := hY 10 (by decide)
      have HY10 : Hid (xs[1 + sl * 13 + 10]? = some y10) := hy10
      clear hy10
      obtain ⟨y11, hy11⟩ := hY 11 (by decide)
      have HY11 : Hid (xs[1 + sl * 13 + 11]? = some y11) := hy11
      clear hy11
      obtain ⟨y12, hy12⟩ := hY 12 (by decide)
      have HY12 : Hid (xs[1 + sl * 13 + 12]? = some y12) := hy12
      clear hy12
      have HQW : Hid (Qx W q X' (L ++ (ds.take j).map (·.1)) xs f V) := hQW
      have HMWd := (Mod.refl (fun _ => False) W).drew
      have HEN : Hid (n = (L ++ (ds.take j).map (·.1)).length ∧ sl = (f + n) % 32) := ⟨en, esl⟩
      have HQr : Hid (Qx wr q X' (L ++ (ds.take j).map (·.1)) xs f V) := hQ
      clear hQW hQ en esl hsl32
      go_cut [] (fun wx => Bk wx q 53 (sets' xs (1 + sl * 13) [.int .i64 k, .int .i64 o, .int .i64 lf, .int .i64 i, .int .i64 p, .int .i64 ps, .int .i64 g, .bool s, .int .i64 st, .int .i64 rs, .int .i64 rr, .int .i64 sq, .slice a2 l.length k2]) ∧ Mod (fun b => b = q) W wx)
      case first =>
        clear hoW hMB hg2' hMW hMr hX' hj hjn hjn' hf hf2
        go_region_law (refine step_slot (by rfl) _ _ (by rfl) q n _ (by rfl) (by rfl) HSl ?_; intro w6 hm6; have hB6 := HBQ.out.1.mod (HMWd.trans hm6 (V := fun _ => False) (fun _ _ h => h) (fun _ _ h => h)) (fun h => h); replace m0 : w6.cell? ⟨mb, 0, none⟩ = some (.int .i64 k) := hm6.cell m0 (fun h => h); replace m1 : w6.cell? ⟨mb, 1, none⟩ = some (.int .i64 o) := hm6.cell m1 (fun h => h); replace m2 : w6.cell? ⟨mb, 2, none⟩ = some (.int .i64 lf) := hm6.cell m2 (fun h => h); replace m3 : w6.cell? ⟨mb, 3, none⟩ = some (.int .i64 i) := hm6.cell m3 (fun h => h); replace m4 : w6.cell? ⟨mb, 4, none⟩ = some (.int .i64 p) := hm6.cell m4 (fun h => h); replace m5 : w6.cell? ⟨mb, 5, none⟩ = some (.int .i64 ps) := hm6.cell m5 (fun h => h); replace m6 : w6.cell? ⟨mb, 6, none⟩ = some (.int .i64 g) := hm6.cell m6 (fun h => h); replace m7 : w6.cell? ⟨mb, 7, none⟩ = some (.bool s) := hm6.cell m7 (fun h => h); replace m8 : w6.cell? ⟨mb, 8, none⟩ = some (.int .i64 st) := hm6.cell m8 (fun h => h); replace m9 : w6.cell? ⟨mb, 9, none⟩ = some (.int .i64 rs) := hm6.cell m9 (fun h => h); replace m10 : w6.cell? ⟨mb, 10, none⟩ = some (.int .i64 rr) := hm6.cell m10 (fun h => h); replace m11 : w6.cell? ⟨mb, 11, none⟩ = some (.int .i64 sq) := hm6.cell m11 (fun h => h); replace m12 : w6.cell? ⟨mb, 12, none⟩ = some (.slice a2 l.length k2) := hm6.cell m12 (fun h => h); have t0 : w6.cell? ⟨q, 1 + sl * 13, none⟩ = some y0 := hB6.cellv HY0.out; have z0 : w6.frozen? ⟨q, 1 + sl * 13, none⟩ = false := hB6.frz _; have t1 : w6.cell? ⟨q, 1 + sl * 13 + 1, none⟩ = some y1 := hB6.cellv HY1.out; have z1 : w6.frozen? ⟨q, 1 + sl * 13 + 1, none⟩ = false := hB6.frz _; have t2 : w6.cell? ⟨q, 1 + sl * 13 + 2, none⟩ = some y2 := hB6.cellv HY2.out; have z2 : w6.frozen? ⟨q, 1 + sl * 13 + 2, none⟩ = false := hB6.frz _; have t3 : w6.cell? ⟨q, 1 + sl * 13 + 3, none⟩ = some y3 := hB6.cellv HY3.out; have z3 : w6.frozen? ⟨q, 1 + sl * 13 + 3, none⟩ = false := hB6.frz _; have t4 : w6.cell? ⟨q, 1 + sl * 13 + 4, none⟩ = some y4 := hB6.cellv HY4.out; have z4 : w6.frozen? ⟨q, 1 + sl * 13 + 4, none⟩ = false := hB6.frz _; have t5 : w6.cell? ⟨q, 1 + sl * 13 + 5, none⟩ = some y5 := hB6.cellv HY5.out; have z5 : w6.frozen? ⟨q, 1 + sl * 13 + 5, none⟩ = false := hB6.frz _; have t6 : w6.cell? ⟨q, 1 + sl * 13 + 6, none⟩ = some y6 := hB6.cellv HY6.out; have z6 : w6.frozen? ⟨q, 1 + sl * 13 + 6, none⟩ = false := hB6.frz _; have t7 : w6.cell? ⟨q, 1 + sl * 13 + 7, none⟩ = some y7 := hB6.cellv HY7.out; have z7 : w6.frozen? ⟨q, 1 + sl * 13 + 7, none⟩ = false := hB6.frz _; have t8 : w6.cell? ⟨q, 1 + sl * 13 + 8, none⟩ = some y8 := hB6.cellv HY8.out; have z8 : w6.frozen? ⟨q, 1 + sl * 13 + 8, none⟩ = false := hB6.frz _; have t9 : w6.cell? ⟨q, 1 + sl * 13 + 9, none⟩ = some y9 := hB6.cellv HY9.out; have z9 : w6.frozen? ⟨q, 1 + sl * 13 + 9, none⟩ = false := hB6.frz _; have t10 : w6.cell? ⟨q, 1 + sl * 13 + 10, none⟩ = some y10 := hB6.cellv HY10.out; have z10 : w6.frozen? ⟨q, 1 + sl * 13 + 10, none⟩ = false := hB6.frz _; have t11 : w6.cell? ⟨q, 1 + sl * 13 + 11, none⟩ = some y11 := hB6.cellv HY11.out; have z11 : w6.frozen? ⟨q, 1 + sl * 13 + 11, none⟩ = false := hB6.frz _; have t12 : w6.cell? ⟨q, 1 + sl * 13 + 12, none⟩ = some y12 := hB6.cellv HY12.out; have z12 : w6.frozen? ⟨q, 1 + sl * 13 + 12, none⟩ = false := hB6.frz _)
        all_goals go_wp2_with (fail)
        all_goals go_meet
        all_goals rw [set13]
        all_goals exact ⟨Bk.stores _ _ hB6, (HMWd.trans hm6 (V := fun _ => False) (fun _ _ h => h) (fun _ _ h => h)).trans (setCells_mod q _ _ w6) (fun _ _ h => h.elim) (fun _ _ h => h)⟩
      case rest =>
      obtain ⟨hB3, hm3⟩ := hcut
      generalize wc = w3 at *
      clear HSl HMWd
      have cn3 : w3.cell? ⟨q, 418, none⟩ = some (.int .i64 (n : Int)) := hB3.cellv (by
        have e := HLT.out
        rw [sets'_get _ _ _ _ (by rw [HBQ.out.2]; exact e), if_neg (by simp only [List.length_cons, List.length_nil]; go_light; omega)]
        have := HQW.out.count
        rw [← HEN.out.1] at this
        exact this)
      have fn3 : w3.frozen? ⟨q, 418, none⟩ = false := hB3.frz _
      have hB4 := hB3.set 418 (.int .i64 ((n : Int) + 1))
      have hM4 : Mod (fun b => b = q) wr (w3.setCell ⟨q, 418, none⟩ (.int .i64 ((n : Int) + 1))) := ((hMW.mono (T := fun b => b = q) (fun _ _ h => h.elim)).trans hm3 (V := fun b => b = q) (fun _ _ h => h) (fun _ _ h => h)).setCell _ _ (.inl rfl)
      have hqv : ∀ b, (Value.slice a2 l.length k2).ownBlock = some b → ¬ b = q := fun b hb e => by
        have h1 := hg2' b hb
        have h2 := HQr.out.lt q HQr.out.inX
        rw [e, HEMB.out] at h1
        exact absurd h1 (Nat.not_lt.2 (Nat.le_of_lt h2))
      have hm4 := hm3.setCell ⟨q, 418, none⟩ (.int .i64 ((n : Int) + 1)) (.inl rfl)
      have ho4 := hoW.mod hm4 hqv
      have hpush := HQr.out.push (m := ⟨k, o, lf, i, p, ps, g, s, st, rs, rr, sq, l⟩) (v := .slice a2 l.length k2) (s := sl) (by rw [← HEN.out.1]; exact HEN.out.2) (by rw [← HEN.out.1]; exact hn32) (by rw [← HEN.out.1]; exact hB4) ho4 hsl.rng hM4 (fun b hb => by have := hg2' b hb; rw [HEMB.out] at this; exact Nat.le_of_lt this)
      have HN : Hid (Qu (w3.setCell ⟨q, 418, none⟩ (.int .i64 ((n : Int) + 1))) q (fun b => X' b ∨ (Value.slice a2 l.length k2).ownBlock = some b) (L ++ (ds.take (j + 1)).map (·.1))) := by
        show Qu _ _ _ _
        rw [List.take_add_one, HDJ.out, Option.toList_some, List.map_append, ← List.append_assoc]
        exact ⟨_, _, _, hpush⟩
      have HM4 : Hid (Mod (fun b => b = q) w (w3.setCell ⟨q, 418, none⟩ (.int .i64 ((n : Int) + 1)))) := hMr.trans hM4 (fun _ _ h => h) (fun _ _ h => h)
      have HX4 : Hid (∀ b, (X' b ∨ (Value.slice a2 l.length k2).ownBlock = some b) → X b ∨ w.heap.size ≤ b) := by
        rintro b (hb | hb)
        · exact hX' b hb
        · have h1 := hg2' b hb
          rw [HEMB.out] at h1
          exact .inr (Nat.le_trans hMr.size (Nat.le_of_lt h1))
      clear hpush hB4 hM4 hm4 ho4 hqv hB3 hm3 hoW hMB hg2' hMW hX' hMr hsl m0 m1 m2 m3 m4 m5 m6 m7 m8 m9 m10 m11 m12 cn HY0 HY1 HY2 HY3 HY4 HY5 HY6 HY7 HY8 HY9 HY10 HY11 HY12 HQW HQr
      go_wp2_with (fail)
      go_roundw
      case rel => exact ⟨j + 1, by go_num, hjn, ⟨_, HN.out, HX4.out⟩, HM4.out⟩
      case measure => simp [intOf]; go_light; omega
    · have ej : j = ds.length := by go_light; omega
      subst ej
      rw [List.take_length] at hQ
      go_wp2_with (fail)
      go_ret
      exact ⟨rfl, ⟨X', ⟨xs, f, V, hQ⟩, hX'⟩, hMr⟩
/-- Put, of all messages. -/
theorem Put_any {w : World} {q : Nat} {X : Nat → Prop} {L : List Ms} (h : Qu w q X L) (va : Value) (ds : List (Ms × Value)) (hD : Mgs w va ds) (hfar : Far X va ds) : Calls Try.prog 10 #[.pointer (some ⟨q, 0, none⟩), va] w fun e w' => e = .returned (.int .i64 (pE L ds)) ∧ (∃ X', Qu w' q X' (pL L ds) ∧ (∀ b, X' b → X b ∨ w.heap.size ≤ b)) ∧ Mod (fun b => b = q) w w' := by
  unfold pL pE
  cases hb : bd ds with
  | true =>
    refine (Put_bad h va ds hD hb).mono ?_
    rintro e w' ⟨rfl, hm⟩
    exact ⟨rfl, ⟨X, h.mod hm (fun _ _ h => h), fun b hb => .inl hb⟩, hm.mono (fun _ _ h => h.elim)⟩
  | false =>
    by_cases hf : 32 < L.length + ds.length
    · refine (Put_full h va ds hD hb hf).mono ?_
      rintro e w' ⟨rfl, hm⟩
      simp only [if_pos hf]
      exact ⟨rfl, ⟨X, h.mod hm (fun _ _ h => h), fun b hb => .inl hb⟩, hm.mono (fun _ _ h => h.elim)⟩
    · refine (Put_ok h va ds hD hb (by omega) hfar).mono ?_
      rintro e w' ⟨rfl, hm⟩
      simp only [if_neg hf]
      exact ⟨rfl, hm⟩
end Go.Proofs.Ytcedlpjjldmpfaa
