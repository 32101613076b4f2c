/- Contract of a queue's Take. No conditions. -/
import Derived.Test.YtcedlpjjldmpfaaQe
import Derived.Test.YtcedlpjjldmpfaaRu
namespace Go.Proofs.Ytcedlpjjldmpfaa
open Go.RowKit
theorem wpList_store_any {ops : Array Oper} {rest : List Oper} {op : Oper} {a : Act} {w : World} {Q : Exit → Act → World → Prop} {t : TypeId} {n : Nat} (hi : (Try.prog.info? t).map (·.size) = some n) (hgd : op.guard = none) (hdt : op.dst = none) (x y : Operand) (ho : op.op = .store t x y)
    (b o : Nat) (cells : Array Value) (hx : a.eval x = .pointer (some ⟨b, o, none⟩)) (hy : a.eval y = .agg cells) (hth : w.there b o n) (hcs : cells.size = n) (h1 : cells.toList.all (·.oneCell') = true)
    (h : wpList Try.prog ops Q rest a (w.setCells b o cells.toList)) : wpList Try.prog ops Q (op :: rest) a w :=
  wpList_store_mid (P := Try.prog) hgd t x y ho b o cells hx hy (by rw [hcs]; exact hth) (by rw [hi, hcs]) (by rw [← Array.all_toList]; exact h1) (by rw [hdt]; exact h)
theorem wpList_store_anyL {ops : Array Oper} {rest : List Oper} {op : Oper} {a : Act} {w : World} {Q : Exit → Act → World → Prop} {t : TypeId} {n : Nat} (hi : (Try.prog.info? t).map (·.size) = some n) (hgd : op.guard = none) (hdt : op.dst = none) (x y : Operand) (ho : op.op = .store t x y)
    (b o : Nat) (cells : List Value) (hx : a.eval x = .pointer (some ⟨b, o, none⟩)) (hy : a.eval y = .agg cells.toArray) (hth : w.there b o n) (hcs : cells.length = n) (h1 : cells.all (·.oneCell') = true)
    (h : wpList Try.prog ops Q rest a (w.setCells b o cells)) : wpList Try.prog ops Q (op :: rest) a w :=
  wpList_store_any hi hgd hdt x y ho b o cells.toArray hx hy hth (by simpa using hcs) (by simpa using h1) (by simpa using h)
/-- A message without anything, as cells. -/
def zm : List Value := [.int .i64 0, .int .i64 0, .int .i64 0, .int .i64 0, .int .i64 0, .int .i64 0, .int .i64 0, .bool false, .int .i64 0, .int .i64 0, .int .i64 0, .int .i64 0, .slice none 0 0]
/-- A queue without its first message. -/
theorem Qx.pop {w w' : World} {q : Nat} {X : Nat → Prop} {m : Ms} {L : List Ms} {xs : Array Value} {f : Nat} {V : Nat → Value} (h : Qx w q X (m :: L) xs f V)
    (hB : Bk w' q 53 (((sets' xs (1 + f * 13) zm).setIfInBounds 417 (.int .i64 (((f + 1) % 32 : Nat) : Int))).setIfInBounds 418 (.int .i64 (L.length : Int)))) (hm : Mod (fun b => b = q) w w') :
    Qx w' q (fun b => X b ∧ (V 0).ownBlock ≠ some b) L (((sets' xs (1 + f * 13) zm).setIfInBounds 417 (.int .i64 (((f + 1) % 32 : Nat) : Int))).setIfInBounds 418 (.int .i64 (L.length : Int))) ((f + 1) % 32) (fun i => V (i + 1)) := by
  have h32 := h.f32
  have hl := h.l32
  simp only [List.length_cons] at hl
  have hget : ∀ j, (((sets' xs (1 + f * 13) zm).setIfInBounds 417 (.int .i64 (((f + 1) % 32 : Nat) : Int))).setIfInBounds 418 (.int .i64 (L.length : Int)))[j]? = if j = 418 then some (.int .i64 (L.length : Int)) else if j = 417 then some (.int .i64 (((f + 1) % 32 : Nat) : Int)) else if 1 + f * 13 ≤ j ∧ j < 1 + f * 13 + 13 then zm[j - (1 + f * 13)]? else xs[j]? := fun j => by
    rw [Array.getElem?_setIfInBounds]
    by_cases e : j = 418
    · subst e
      rw [if_pos rfl, if_pos rfl, Array.size_setIfInBounds, sets'_size, h.size, if_pos (by decide)]
    · rw [if_neg (fun h => e h.symm), if_neg e, Array.getElem?_setIfInBounds]
      by_cases e2 : j = 417
      · subst e2
        rw [if_pos rfl, if_pos rfl, sets'_size, h.size, if_pos (by decide)]
      · rw [if_neg (fun h => e2 h.symm), if_neg e2, sets'_get _ _ _ _ (by rw [h.size]; simp only [zm, List.length_cons, List.length_nil]; omega)]
        rfl
  have hap : ∀ i, i < L.length → ∀ b, (V (i + 1)).ownBlock = some b → (V 0).ownBlock ≠ some b := fun i hi b hb => h.apart (i + 1) 0 (by simp; omega) (by simp) (by omega) b hb
  refine ⟨hB, by rw [Array.size_setIfInBounds, Array.size_setIfInBounds, sets'_size, h.size], ?_, ?_, ?_, Nat.mod_lt _ (by decide), by omega, ?_, ?_, ?_, ⟨h.inX, fun e => ?_⟩, ?_⟩
  · rw [hget, if_neg (by decide), if_neg (by decide), if_neg (by omega)]; exact h.made
  · rw [hget, if_neg (by decide), if_pos rfl]
  · rw [hget, if_pos rfl]
  · intro i m' hi j c hj
    have hj13 := mcl_lt hj
    have hi' : i < L.length := by
      rcases Nat.lt_or_ge i L.length with h' | h'
      · exact h'
      · rw [List.getElem?_eq_none h'] at hi; cases hi
    have e1 : ((f + 1) % 32 + i) % 32 = (f + (i + 1)) % 32 := by omega
    have e2 : (f + (i + 1)) % 32 < 32 := Nat.mod_lt _ (by decide)
    have e3 : (f + (i + 1)) % 32 ≠ f := by omega
    rw [e1, hget, if_neg (by omega), if_neg (by omega), if_neg (by omega)]
    exact h.cells (i + 1) m' (by simpa using hi) j c hj
  · intro i m' hi
    have hi' : i < L.length := by
      rcases Nat.lt_or_ge i L.length with h' | h'
      · exact h'
      · rw [List.getElem?_eq_none h'] at hi; cases hi
    obtain ⟨a1, a2, a3⟩ := h.own (i + 1) m' (by simpa using hi)
    exact ⟨a1.mod hm (fun b hb e => (a3 b hb).2 e), a2, fun b hb => ⟨⟨(a3 b hb).1, hap i hi' b hb⟩, (a3 b hb).2⟩⟩
  · intro i k hi hk hne b hb
    exact h.apart (i + 1) (k + 1) (by simp; omega) (by simp; omega) (by omega) b hb
  · exact ((h.own 0 m rfl).2.2 q e).2 rfl
  · rintro b ⟨hb, _⟩
    exact Nat.lt_of_lt_of_le (h.lt b hb) hm.size
theorem resTk {fn : Func} {pp u : Tmp} {t' : TypeId} (h : fn.results = #[.cell pp 40, .tmp u]) {tmps : Array Value} {w : World} {b : Nat} {xs : Array Value} {v : Value} (hp : tmps.getD pp undef = .pointer (some ⟨b, 0, none⟩)) (hv : tmps.getD u undef = v) (hb : Bk w b t' xs) (hs : xs.size = 13) :
    (results fn tmps).run Try.prog w = .ok (.tuple #[.agg xs, v]) w := by
  rw [results_cell_tmp h, hp, hv]
  have hl := run_loadVar_mid (P := Try.prog) w b 0 40 xs.toList _ hb.row Try.underlying40 rfl (by rw [sizeM13]; simp [hs])
  simp only [asAddr, Sem.run_pure, Result.andThen]
  rw [hl]
theorem Take_empty {w : World} {q : Nat} {X : Nat → Prop} (h : Qu w q X []) : Calls Try.prog 14 #[.pointer (some ⟨q, 0, none⟩)] w fun e w' => e = .returned (.tuple #[.agg #[.int .i64 0, .int .i64 0, .int .i64 0, .int .i64 0, .int .i64 0, .int .i64 0, .int .i64 0, .bool false, .int .i64 0, .int .i64 0, .int .i64 0, .int .i64 0, .slice none 0 0], .int .i64 8]) ∧ Mod (fun _ => False) w w' := by
  obtain ⟨xs, f, V, h⟩ := h
  have hA := (Mod.refl (fun _ => False) w).alloc (.cells #[.int .i64 0, .int .i64 0, .int .i64 0, .int .i64 0, .int .i64 0, .int .i64 0, .int .i64 0, .bool false, .int .i64 0, .int .i64 0, .int .i64 0, .int .i64 0, .slice none 0 0] 40)
  have c0 := hA.cell h.c0 (fun h => h)
  have cn := hA.cell h.cn (fun h => h)
  simp only [List.length_nil] at cn
  have hN := Bk.new w #[.int .i64 0, .int .i64 0, .int .i64 0, .int .i64 0, .int .i64 0, .int .i64 0, .int .i64 0, .bool false, .int .i64 0, .int .i64 0, .int .i64 0, .int .i64 0, .slice none 0 0] 40
  clear h
  go_enter Try.func14, Try.ntmps14
  go_wp2_with (first | (go_at_call 25; refine (isNone_q c0).mono ?_; rintro e w' ⟨rfl, rfl⟩) | (refine wpList_store_row sizeM13 rfl rfl _ _ rfl (w.heap.size) #[.int .i64 0, .int .i64 0, .int .i64 0, .int .i64 0, .int .i64 0, .int .i64 0, .int .i64 0, .bool false, .int .i64 0, .int .i64 0, .int .i64 0, .int .i64 0, .slice none 0 0] rfl rfl hN rfl rfl rfl ?_; intro wF hBF hMF))
  exact bodyPost_ret (resTk rfl rfl rfl hBF rfl) rfl ⟨rfl, hA.trans hMF (fun _ _ h => h) (fun b hb e => by omega)⟩
set_option maxRecDepth 100000 in
set_option maxHeartbeats 2000000 in
theorem Take_some {w : World} {q : Nat} {X : Nat → Prop} {L : List Ms} (k o lf i p ps g : Int) (s : Bool) (st rs rr sq : Int) (l : List Int) (h : Qu w q X (⟨k, o, lf, i, p, ps, g, s, st, rs, rr, sq, l⟩ :: L)) : Calls Try.prog 14 #[.pointer (some ⟨q, 0, none⟩)] w fun e w' => ∃ ao cap, e = .returned (.tuple #[.agg #[.int .i64 k, .int .i64 o, .int .i64 lf, .int .i64 i, .int .i64 p, .int .i64 ps, .int .i64 g, .bool s, .int .i64 st, .int .i64 rs, .int .i64 rr, .int .i64 sq, .slice ao l.length cap], .int .i64 0]) ∧ Own w' (.slice ao l.length cap) l ∧ (∀ c ∈ l, 0 ≤ c ∧ c ≤ 255) ∧ Qu w' q (fun b => X b ∧ (Value.slice ao l.length cap).ownBlock ≠ some b) L ∧ (∀ b, (Value.slice ao l.length cap).ownBlock = some b → X b ∧ b ≠ q) ∧ Mod (fun b => b = q) w w' := by
  obtain ⟨xs, f, V, h⟩ := h
  have HQ : Hid (Qx w q X (⟨k, o, lf, i, p, ps, g, s, st, rs, rr, sq, l⟩ :: L) xs f V) := h
  obtain ⟨ho, hr, hv⟩ := h.own 0 _ rfl
  obtain ⟨ao, cap, ev⟩ := ho.shape
  simp only at ev
  have HV : Hid (V 0 = .slice ao l.length cap) := ev
  have hcl := h.cells 0 _ rfl
  rw [ev] at ho hv hcl
  clear ev
  have hlen := h.l32
  simp only [List.length_cons] at hlen
  have hf := h.f32
  rw [Nat.add_zero, Nat.mod_eq_of_lt hf] at hcl
  have hA := (Mod.refl (fun _ => False) w).alloc (.cells #[.int .i64 0, .int .i64 0, .int .i64 0, .int .i64 0, .int .i64 0, .int .i64 0, .int .i64 0, .bool false, .int .i64 0, .int .i64 0, .int .i64 0, .int .i64 0, .slice none 0 0] 40)
  have hN := Bk.new w #[.int .i64 0, .int .i64 0, .int .i64 0, .int .i64 0, .int .i64 0, .int .i64 0, .int .i64 0, .bool false, .int .i64 0, .int .i64 0, .int .i64 0, .int .i64 0, .slice none 0 0] 40
  have hQ1 := h.mod hA (fun _ _ h => h)
  have c0 := hQ1.c0
  have cn := hQ1.cn
  have hrg : w.rangeAt q (1 + f * 13) (mcl ⟨k, o, lf, i, p, ps, g, s, st, rs, rr, sq, l⟩ (.slice ao l.length cap)) := h.blk.range _ _ hcl
  have HSl := slot_q hQ1 0 (by decide) f (by rw [Nat.add_zero, Nat.mod_eq_of_lt hf])
  have e0 : ((0 : Nat) : Int) = 0 := rfl
  rw [e0] at HSl
  have hl1 : ((⟨k, o, lf, i, p, ps, g, s, st, rs, rr, sq, l⟩ :: L : List Ms).length : Int) = (L.length : Int) + 1 := by simp
  rw [hl1] at cn
  have hn0 : ¬ (L.length : Int) + 1 = 0 := by omega
  have hlI : (L.length : Int) + 1 ≤ 32 := by omega
  clear hQ1 h hcl e0 hl1
  go_enter Try.func14, Try.ntmps14
  go_wp2_with (first | (go_at_call 25; refine (isNone_q c0).mono ?_; rintro e w' ⟨rfl, rfl⟩))
  refine HSl.mono ?_
  rintro e w1 ⟨rfl, hm1⟩
  have hM1 : Mod (fun _ => False) w w1 := hA.trans hm1 (fun _ _ h => h) (fun _ _ h => h)
  obtain ⟨d0, d1, d2, d3, d4, d5, d6, d7, d8, d9, d10, d11, d12⟩ := range13 (range_mod hrg hM1 (fun h => h))
  have hN1 := hN.mod hm1 (fun h => h)
  have hQ1 := HQ.out.mod hM1 (fun _ _ h => h)
  have hA2 := (Mod.refl (fun _ => False) w1).alloc (.cells #[.int .i64 k, .int .i64 o, .int .i64 lf, .int .i64 i, .int .i64 p, .int .i64 ps, .int .i64 g, .bool s, .int .i64 st, .int .i64 rs, .int .i64 rr, .int .i64 sq, .slice ao l.length cap] 40)
  have hB2 := Bk.new w1 #[.int .i64 k, .int .i64 o, .int .i64 lf, .int .i64 i, .int .i64 p, .int .i64 ps, .int .i64 g, .bool s, .int .i64 st, .int .i64 rs, .int .i64 rr, .int .i64 sq, .slice ao l.length cap] 40
  have hN2 := hN1.mod hA2 (fun h => h)
  have hQ2 := hQ1.mod hA2 (fun _ _ h => h)
  have hth := hQ2.blk.there (o := 1 + f * 13) (n := 13) (by rw [hQ2.size]; omega)
  clear HSl hN hm1 hA c0 cn hrg
  have hB3 := Bk.stores zm (1 + f * 13) hQ2.blk
  have hm3 := setCells_mod q zm (1 + f * 13) (w1.alloc (.cells #[.int .i64 k, .int .i64 o, .int .i64 lf, .int .i64 i, .int .i64 p, .int .i64 ps, .int .i64 g, .bool s, .int .i64 st, .int .i64 rs, .int .i64 rr, .int .i64 sq, .slice ao l.length cap] 40))
  have hz2 : (w1.alloc (.cells #[.int .i64 k, .int .i64 o, .int .i64 lf, .int .i64 i, .int .i64 p, .int .i64 ps, .int .i64 g, .bool s, .int .i64 st, .int .i64 rs, .int .i64 rr, .int .i64 sq, .slice ao l.length cap] 40)).heap.size = w1.heap.size + 1 := by simp
  go_upto_region 8 with (refine wpList_store_anyL sizeM13 rfl rfl _ _ rfl q (1 + f * 13) zm rfl rfl hth rfl rfl ?_)
  generalize w1.alloc (.cells #[.int .i64 k, .int .i64 o, .int .i64 lf, .int .i64 i, .int .i64 p, .int .i64 ps, .int .i64 g, .bool s, .int .i64 st, .int .i64 rs, .int .i64 rr, .int .i64 sq, .slice ao l.length cap] 40) = w2 at *
  generalize w2.setCells q (1 + f * 13) zm = w3 at *
  obtain ⟨fn, efn⟩ : ∃ fn, fn = (f + 1) % 32 := ⟨_, rfl⟩
  have e417 : ((f : Int) + 1).tmod 32 = (fn : Int) := by rw [Int.tmod_eq_emod_of_nonneg (by omega)]; omega
  have hfI : (f : Int) < 32 := by omega
  have c417 : w3.cell? ⟨q, 417, none⟩ = some (.int .i64 (f : Int)) := hB3.cellv (by
    rw [sets'_get _ _ _ _ (by rw [hQ2.size]; simp only [zm, List.length_cons, List.length_nil]; omega), if_neg (by simp only [zm, List.length_cons, List.length_nil]; omega)]
    exact hQ2.first)
  have c418 : w3.cell? ⟨q, 418, none⟩ = some (.int .i64 ((L.length : Int) + 1)) := hB3.cellv (by
    rw [sets'_get _ _ _ _ (by rw [hQ2.size]; simp only [zm, List.length_cons, List.length_nil]; omega), if_neg (by simp only [zm, List.length_cons, List.length_nil]; omega)]
    have := hQ2.count
    simpa using this)
  have f417 : w3.frozen? ⟨q, 417, none⟩ = false := hB3.frz _
  have f418 : w3.frozen? ⟨q, 418, none⟩ = false := hB3.frz _
  have hB5 := (hB3.set 417 (.int .i64 (fn : Int))).set 418 (.int .i64 (L.length : Int))
  have hm5 := (hm3.setCell ⟨q, 417, none⟩ (.int .i64 (fn : Int)) (.inl rfl)).setCell ⟨q, 418, none⟩ (.int .i64 (L.length : Int)) (.inl rfl)
  have hqw : q < w.heap.size := HQ.out.lt q HQ.out.inX
  have hsz1 := hM1.size
  have hB5b := hB2.mod hm5 (fun e => by omega)
  have hN5 := hN2.mod hm5 (fun e => by omega)
  have hM2 : Mod (fun b => b = q) w ((w3.setCell ⟨q, 417, none⟩ (.int .i64 (fn : Int))).setCell ⟨q, 418, none⟩ (.int .i64 (L.length : Int))) := (hM1.trans hA2 (V := fun _ => False) (fun _ _ h => h) (fun _ _ h => h)).trans hm5 (fun _ _ h => h.elim) (fun _ _ h => h)
  have HB5 : Hid (Bk _ _ _ _) := hB5
  have HB5b : Hid (Bk _ _ _ _) := hB5b
  have HN5 : Hid (Bk _ _ _ _) := hN5
  have HM2 : Hid (Mod _ _ _) := hM2
  have HO : Hid (Own w (.slice ao l.length cap) l ∧ (∀ c ∈ l, 0 ≤ c ∧ c ≤ 255) ∧ (∀ b, (Value.slice ao l.length cap).ownBlock = some b → X b ∧ b ≠ q)) := ⟨ho, hr, hv⟩
  have HE : Hid (fn = (f + 1) % 32) := efn
  have HS : Hid (w.heap.size ≤ w1.heap.size) := hsz1
  clear hB5 hB5b hN5 hM2 hm5 hB3 hm3 hB2 hN2 hN1 hA2 hQ2 hQ1 hth ho hr hv efn hsz1 hz2 hM1
  go_wp2_with (first | (refine wpList_load_row sizeM13 Try.underlying40 rfl rfl _ rfl w1.heap.size rfl HB5b.out rfl ?_; simp only [Act.put, List.setIfInBounds_toArray, List.set_cons_succ, List.set_cons_zero]) | (refine wpList_store_row sizeM13 rfl rfl _ _ rfl w.heap.size #[.int .i64 k, .int .i64 o, .int .i64 lf, .int .i64 i, .int .i64 p, .int .i64 ps, .int .i64 g, .bool s, .int .i64 st, .int .i64 rs, .int .i64 rr, .int .i64 sq, .slice ao l.length cap] rfl rfl HN5.out rfl rfl rfl ?_; intro wF hBF hMF))
  have hM := HM2.out.trans hMF (V := fun b => b = q) (fun _ _ h => h) (fun b hb e => by omega)
  have hp := HQ.out.pop (w' := wF) (by rw [← HE.out]; exact HB5.out.mod hMF (fun e => by omega)) hM
  rw [HV.out] at hp
  exact bodyPost_ret (resTk rfl rfl rfl hBF rfl) rfl ⟨ao, cap, rfl, HO.out.1.mod hM (fun b hb e => (HO.out.2.2 b hb).2 e), HO.out.2.1, ⟨_, _, _, hp⟩, HO.out.2.2, hM⟩
end Go.Proofs.Ytcedlpjjldmpfaa
