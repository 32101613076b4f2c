/- Package regain in memory: isNoWindow, isNone, Left, copied, Next. Conditions: sizes that a slice of bytes has. -/
import Derived.Test.YthiijonmnebjgaaYg
import Derived.Test.YthiijonmnebjgaaQa
namespace Go.Proofs.Ythiijonmnebjgaa
open Go.RowKit
/-- A row within a block loaded whole. -/
theorem wpList_load_at {ops : Array Oper} {rest : List Oper} {op : Oper} {a : Act} {w : World} {Q : Exit → Act → World → Prop} {t : TypeId} {n : Nat} {d : TypeDesc} (hi : (Try.prog.info? t).map (·.size) = some n) (hu : Try.prog.underlying t = some d) (hd : d.isRow = true) (hgd : op.guard = none) (x : Operand) (ho : op.op = .load t x)
    (b o : Nat) (hx : a.eval x = .pointer (some ⟨b, o, none⟩)) (cs : List Value) (hr : w.rangeAt b o cs) (hl : cs.length = n)
    (h : wpList Try.prog ops Q rest (a.put op.dst (.agg cs.toArray)) w) : wpList Try.prog ops Q (op :: rest) a w :=
  wpList_load_mid (P := Try.prog) (ops := ops) (rest := rest) (Q := Q) hgd t x ho b o hx cs d hr hu hd (by rw [hi, hl]) h
theorem range13 {w : World} {b o : Nat} {k og lf i p ps g : Int} {s : Bool} {st rs rr sq : Int} {l : List Int} {v : Value} (h : w.rangeAt b o (mcl ⟨k, og, lf, i, p, ps, g, s, st, rs, rr, sq, l⟩ v)) :
    w.cell? ⟨b, o, none⟩ = some (.int .i64 k) ∧ w.cell? ⟨b, o + 1, none⟩ = some (.int .i64 og) ∧ w.cell? ⟨b, o + 2, none⟩ = some (.int .i64 lf) ∧ w.cell? ⟨b, o + 3, none⟩ = some (.int .i64 i) ∧ w.cell? ⟨b, o + 4, none⟩ = some (.int .i64 p) ∧ w.cell? ⟨b, o + 5, none⟩ = some (.int .i64 ps) ∧ w.cell? ⟨b, o + 6, none⟩ = some (.int .i64 g) ∧ w.cell? ⟨b, o + 7, none⟩ = some (.bool s) ∧ w.cell? ⟨b, o + 8, none⟩ = some (.int .i64 st) ∧ w.cell? ⟨b, o + 9, none⟩ = some (.int .i64 rs) ∧ w.cell? ⟨b, o + 10, none⟩ = some (.int .i64 rr) ∧ w.cell? ⟨b, o + 11, none⟩ = some (.int .i64 sq) ∧ w.cell? ⟨b, o + 12, none⟩ = some v :=
  ⟨h 0 _ rfl, h 1 _ rfl, h 2 _ rfl, h 3 _ rfl, h 4 _ rfl, h 5 _ rfl, h 6 _ rfl, h 7 _ rfl, h 8 _ rfl, h 9 _ rfl, h 10 _ rfl, h 11 _ rfl, h 12 _ rfl⟩
theorem wpList_store_any {ops : Array Oper} {rest : List Oper} {op : Oper} {a : Act} {w : World} {Q : Exit → Act → World → Prop} {t : TypeId} {n : Nat} (hi : (Try.prog.info? t).map (·.size) = some n) (hgd : op.guard = none) (hdt : op.dst = none) (x y : Operand) (ho : op.op = .store t x y)
    (b o : Nat) (cells : Array Value) (hx : a.eval x = .pointer (some ⟨b, o, none⟩)) (hy : a.eval y = .agg cells) (hth : w.there b o n) (hcs : cells.size = n) (h1 : cells.toList.all (·.oneCell') = true)
    (h : wpList Try.prog ops Q rest a (w.setCells b o cells.toList)) : wpList Try.prog ops Q (op :: rest) a w :=
  wpList_store_mid (P := Try.prog) hgd t x y ho b o cells hx hy (by rw [hcs]; exact hth) (by rw [hi, hcs]) (by rw [← Array.all_toList]; exact h1) (by rw [hdt]; exact h)
theorem wpList_store_anyL {ops : Array Oper} {rest : List Oper} {op : Oper} {a : Act} {w : World} {Q : Exit → Act → World → Prop} {t : TypeId} {n : Nat} (hi : (Try.prog.info? t).map (·.size) = some n) (hgd : op.guard = none) (hdt : op.dst = none) (x y : Operand) (ho : op.op = .store t x y)
    (b o : Nat) (cells : List Value) (hx : a.eval x = .pointer (some ⟨b, o, none⟩)) (hy : a.eval y = .agg cells.toArray) (hth : w.there b o n) (hcs : cells.length = n) (h1 : cells.all (·.oneCell') = true)
    (h : wpList Try.prog ops Q rest a (w.setCells b o cells)) : wpList Try.prog ops Q (op :: rest) a w :=
  wpList_store_any hi hgd hdt x y ho b o cells.toArray hx hy hth (by simpa using hcs) (by simpa using h1) (by simpa using h)
theorem wpList_val {ops : Array Oper} {rest : List Oper} {op : Oper} {a : Act} {w w' : World} {Q : Exit → Act → World → Prop} {v : Value} (hw : Region.wanted op (yielded ops a.tmps) = true) (hr : (execOp a.eval op).run Try.prog w = .ok (.value v) w')
    (h : wpList Try.prog ops Q rest (a.put op.dst v) w') : wpList Try.prog ops Q (op :: rest) a w := by
  refine wpList_step fun K hK => ?_
  rw [if_pos hw]
  unfold Oper.wp
  rw [hr]
  exact hK _ _ h
theorem infoM : (Try.prog.info? 39).map (·.size) = some 13 := by kernel_rfl
theorem elM : El 43 39 13 120 := ⟨Try.underlying43, infoMs⟩
def zm : List Value := [.int .i64 0, .int .i64 0, .int .i64 0, .int .i64 0, .int .i64 0, .int .i64 0, .int .i64 0, .bool false, .int .i64 0, .int .i64 0, .int .i64 0, .int .i64 0, .slice none 0 0]
/-- A message as a value. -/
def mvl (m : Ms) (v : Value) : Value := .agg #[.int .i64 m.kind, .int .i64 m.origin, .int .i64 m.life, .int .i64 m.id, .int .i64 m.part, .int .i64 m.parts, .int .i64 m.groups, .bool m.safe, .int .i64 m.st, .int .i64 m.rs, .int .i64 m.rr, .int .i64 m.sq, v]
def m0 : Ms := ⟨0, 0, 0, 0, 0, 0, 0, false, 0, 0, 0, 0, []⟩
theorem mcl_one (m : Ms) (ao : Option Addr) (n cap : Nat) : ∀ c ∈ mcl m (.slice ao n cap), c.oneCell' = true := fun c hc => by
  simp only [mcl, List.mem_cons, List.not_mem_nil, or_false] at hc
  rcases hc with rfl | rfl | rfl | rfl | rfl | rfl | rfl | rfl | rfl | rfl | rfl | rfl | rfl
  all_goals rfl
theorem Bk.ne_rm {w : World} {p : Nat} {t : TypeId} {xs : Array Value} {v : Value} {n : Nat} {cs : List Value} (h : Bk w p t xs) (ht : t ≠ 39) (hr : RG w 39 13 v n cs) : v.ownBlock ≠ some p := fun e => by
  obtain ⟨cur, hk⟩ := hr.kind e
  rw [h.at'] at hk
  simp at hk
  exact ht hk.2
theorem Bk.ne_ow {w : World} {p : Nat} {t : TypeId} {xs : Array Value} {v : Value} {l : List Int} (h : Bk w p t xs) (ht : t ≠ 5) (hr : Own w v l) : v.ownBlock ≠ some p := fun e => by
  obtain ⟨cur, hk⟩ := hr.kind e
  rw [h.at'] at hk
  simp at hk
  exact ht hk.2
theorem RG.ne_ow {w : World} {v u : Value} {n : Nat} {cs : List Value} {l : List Int} (h : RG w 39 13 v n cs) (ho : Own w u l) {g : Nat} (hg : u.ownBlock = some g) : v.ownBlock ≠ some g := fun e => by
  obtain ⟨c1, k1⟩ := h.kind e
  obtain ⟨c2, k2⟩ := ho.kind hg
  rw [k1] at k2
  simp at k2
/-- What is left of a Regain, in memory. -/
structure Rg (w : World) (q : Nat) (Y : Nat → Prop) (l : List Ms) : Prop where
  ex : ∃ v ds, Bk w q 66 #[.bool true, v] ∧ RG w 39 13 v ds.length (fm ds) ∧ ds.map (·.1) = l ∧ (∀ g, v.ownBlock = some g → Y g) ∧ ∀ x ∈ ds, Own w x.2 x.1.body ∧ (∀ g, x.2.ownBlock = some g → Y g) ∧ (∀ c ∈ x.1.body, 0 ≤ c ∧ c ≤ 255) ∧ x.1.body.length ≤ 140737488355328
  px : Y q
  lt : ∀ i, Y i → i < w.heap.size
theorem Rg.mod {S : Nat → Prop} {w w' : World} {q : Nat} {Y : Nat → Prop} {l : List Ms} (h : Rg w q Y l) (hm : Mod S w w') (hS : ∀ i, Y i → ¬ S i) : Rg w' q Y l := by
  obtain ⟨⟨v, ds, h1, h2, h3, h4, h5⟩, px, lt⟩ := h
  exact ⟨⟨v, ds, h1.mod hm (hS q px), h2.mod hm (fun g hg => hS g (h4 g hg)), h3, h4, fun x hx => ⟨(h5 x hx).1.mod hm (fun g hg => hS g ((h5 x hx).2.1 g hg)), (h5 x hx).2⟩⟩, px, fun i hi => Nat.lt_of_lt_of_le (lt i hi) hm.size⟩
theorem Rg.keep {w w' : World} {q : Nat} {Y : Nat → Prop} {l : List Ms} (h : Rg w q Y l) (hm : Mod (fun _ => False) w w') : Rg w' q Y l := h.mod hm (fun _ _ h => h)
theorem Rg.more {w : World} {q : Nat} {Y Z : Nat → Prop} {l : List Ms} (h : Rg w q Y l) (hY : ∀ i, Y i → Z i) (hZ : ∀ i, Z i → i < w.heap.size) : Rg w q Z l := by
  obtain ⟨⟨v, ds, h1, h2, h3, h4, h5⟩, px, lt⟩ := h
  exact ⟨⟨v, ds, h1, h2, h3, fun g hg => hY g (h4 g hg), fun x hx => ⟨(h5 x hx).1, fun g hg => hY g ((h5 x hx).2.1 g hg), (h5 x hx).2.2⟩⟩, hY q px, hZ⟩
theorem See_neg {w : World} {p : Nat} {X : Nat → Prop} {J : Int → Option Dt} {a h : Int} {n : Nat} (hw : Wn w p X J a h n) : Calls Try.prog 32 #[.pointer (some ⟨p, 0, none⟩), .int .i64 (-1)] w fun e w' => e = .returned (.int .i64 2) ∧ w' = w := by
  obtain ⟨B, V, N, h1, h2, _⟩ := hw.mem.blk
  have HN := isNone_w (w := w) (p := p) (B := B) (h1.cellv (j := 0) rfl)
  clear h1 h2 hw
  go_enter Try.func32, Try.ntmps32
  go_wp2_with (go_at_call 19; refine HN.mono ?_; rintro e w' ⟨rfl, rfl⟩)
  go_ret
  exact ⟨rfl, rfl⟩
theorem noWin {w : World} {p : Nat} {X : Nat → Prop} {J : Int → Option Dt} {a h : Int} {n : Nat} (hw : Wn w p X J a h n) : Calls Try.prog 23 #[.pointer (some ⟨p, 0, none⟩)] w fun e w' => e = .returned (.bool false) ∧ w' = w := by
  have HS := See_neg hw
  clear hw
  go_enter Try.func23, Try.ntmps23
  go_wp2_with (fail)
  refine HS.mono ?_
  rintro e w' ⟨rfl, rfl⟩
  go_wp2
  go_ret
  exact ⟨rfl, rfl⟩
theorem rNone {w : World} {q : Nat} {Y : Nat → Prop} {l : List Ms} (h : Rg w q Y l) : Calls Try.prog 25 #[.pointer (some ⟨q, 0, none⟩)] w fun e w' => e = .returned (.bool false) ∧ w' = w := by
  obtain ⟨v, ds, h1, _⟩ := h.ex
  have c0 : w.cell? ⟨q, 0, none⟩ = some (.bool true) := h1.cellv (j := 0) rfl
  clear h1 h
  go_enter Try.func25, Try.ntmps25
  go_wp2
  go_ret
  exact ⟨rfl, rfl⟩
theorem Left_r {w : World} {q : Nat} {Y : Nat → Prop} {l : List Ms} (h : Rg w q Y l) : Calls Try.prog 11 #[.pointer (some ⟨q, 0, none⟩)] w fun e w' => e = .returned (.int .i64 (l.length : Int)) ∧ w' = w := by
  have HN := rNone h
  obtain ⟨v, ds, h1, h2, rfl, _⟩ := h.ex
  obtain ⟨av, cv, rfl⟩ := h2.shape
  have c1 : w.cell? ⟨q, 1, none⟩ = some (.slice av ds.length cv) := h1.cellv (j := 1) rfl
  clear h1 h2 h
  go_enter Try.func11, Try.ntmps11
  go_wp2_with (fail)
  refine HN.mono ?_
  rintro e w' ⟨rfl, rfl⟩
  go_wp2
  go_ret
  exact ⟨by simp, rfl⟩
theorem cpd (m : Ms) (v : Value) (w : World) (hs : Sl w v m.body) (hb : m.body.length ≤ 140737488355328) : Calls Try.prog 26 #[mvl m v] w fun e w' => ∃ v', e = .returned (mvl m v') ∧ Own w' v' m.body ∧ Mod (fun _ => False) w w' ∧ (∀ g, v'.ownBlock = some g → w.heap.size ≤ g) := by
  obtain ⟨ao, cap, rfl⟩ := hs.shape
  have hA := (Mod.refl (fun _ => False) w).alloc (.cells #[.int .i64 m.kind, .int .i64 m.origin, .int .i64 m.life, .int .i64 m.id, .int .i64 m.part, .int .i64 m.parts, .int .i64 m.groups, .bool m.safe, .int .i64 m.st, .int .i64 m.rs, .int .i64 m.rr, .int .i64 m.sq, .slice ao m.body.length cap] 39)
  have hB0 := Bk.new w #[.int .i64 m.kind, .int .i64 m.origin, .int .i64 m.life, .int .i64 m.id, .int .i64 m.part, .int .i64 m.parts, .int .i64 m.groups, .bool m.safe, .int .i64 m.st, .int .i64 m.rs, .int .i64 m.rr, .int .i64 m.sq, .slice ao m.body.length cap] 39
  have hA2 := hA.alloc (.cells #[.int .i64 0, .int .i64 0, .int .i64 0, .int .i64 0, .int .i64 0, .int .i64 0, .int .i64 0, .bool false, .int .i64 0, .int .i64 0, .int .i64 0, .int .i64 0, .slice none 0 0] 39)
  have hB1 := hB0.mod ((Mod.refl (fun _ => False) _).alloc (.cells #[.int .i64 0, .int .i64 0, .int .i64 0, .int .i64 0, .int .i64 0, .int .i64 0, .int .i64 0, .bool false, .int .i64 0, .int .i64 0, .int .i64 0, .int .i64 0, .slice none 0 0] 39)) (fun h => h)
  have hB2 := Bk.new2 w (.cells #[.int .i64 m.kind, .int .i64 m.origin, .int .i64 m.life, .int .i64 m.id, .int .i64 m.part, .int .i64 m.parts, .int .i64 m.groups, .bool m.safe, .int .i64 m.st, .int .i64 m.rs, .int .i64 m.rr, .int .i64 m.sq, .slice ao m.body.length cap] 39) #[.int .i64 0, .int .i64 0, .int .i64 0, .int .i64 0, .int .i64 0, .int .i64 0, .int .i64 0, .bool false, .int .i64 0, .int .i64 0, .int .i64 0, .int .i64 0, .slice none 0 0] 39
  have c12 := hB1.cellv (j := 12) rfl
  have HC := clone_any _ _ _ (hs.mod hA2 (fun _ _ h => h)) hb
  have HB1 : Hid (Bk _ _ _ _) := hB1
  have HB2 : Hid (Bk _ _ _ _) := hB2
  have HA2 : Hid (Mod _ _ _) := hA2
  unfold mvl
  clear hA hB0 hs hb hB1 hB2 hA2
  go_enter Try.func26, Try.ntmps26
  go_wp2_with (fail)
  refine HC.mono ?_
  rintro e w2 ⟨v2, rfl, ho, hm, hg⟩
  obtain ⟨a2, c2, rfl⟩ := ho.shape
  have hK1 := HB1.out.mod hm (fun h => h)
  have hK2 := HB2.out.mod hm (fun h => h)
  have f12 := hK1.frz 12
  have c12b := hK1.cellv (j := 12) rfl
  have hK1' := hK1.set 12 (.slice a2 m.body.length c2)
  have hm3 := (Mod.refl (fun i => i = w.heap.size) w2).setCell ⟨w.heap.size, 12, none⟩ (.slice a2 m.body.length c2) (.inl rfl)
  have hK2' := hK2.mod hm3 (by simp)
  have ho3 := ho.mod hm3 (fun g hg' e => hK1.ne_ow (by decide) ho (e ▸ hg'))
  simp only [List.setIfInBounds_toArray, List.set_cons_succ, List.set_cons_zero] at hK1'
  have HM3 : Hid (Mod (fun _ => False) w (w2.setCell ⟨w.heap.size, 12, none⟩ (.slice a2 m.body.length c2))) := (HA2.out.and hm).trans hm3 (V := fun _ => False) (fun _ _ h => h) (fun i hi e => by omega)
  have HO3 : Hid (Own _ _ _) := ho3
  have HG : Hid (∀ g, (Value.slice a2 m.body.length c2).ownBlock = some g → w.heap.size ≤ g) := fun g h => by have := hg g h; simp at this; omega
  clear hK1 hK2 ho hm hg HB1 HB2 HC c12 hm3 ho3 HA2
  go_wp2_with (first | (refine wpList_load_row infoM Try.underlying39 rfl rfl _ rfl w.heap.size rfl hK1' rfl ?_; simp only [Act.put, List.setIfInBounds_toArray, List.set_cons_succ, List.set_cons_zero]) | (refine wpList_store_row infoM rfl rfl _ _ rfl (w.heap.size + 1) #[.int .i64 m.kind, .int .i64 m.origin, .int .i64 m.life, .int .i64 m.id, .int .i64 m.part, .int .i64 m.parts, .int .i64 m.groups, .bool m.safe, .int .i64 m.st, .int .i64 m.rs, .int .i64 m.rr, .int .i64 m.sq, .slice a2 m.body.length c2] rfl rfl hK2' rfl rfl rfl ?_; intro wF hBF hMF))
  refine bodyPost_ret (resT infoM Try.underlying39 rfl rfl rfl hBF rfl) rfl ?_
  exact ⟨_, rfl, HO3.out.mod hMF (fun i hi e => hK2'.ne_ow (by decide) HO3.out (e ▸ hi)), HM3.out.trans hMF (V := fun _ => False) (fun _ _ h => h) (fun i hi h => by omega), HG.out⟩
/-- The first one of a row stored anew. -/
theorem RG.first {w : World} {et : TypeId} {sz : Nat} {g off cap n : Nat} {c0 cs zs : List Value} (h : RG w et sz (.slice (some ⟨g, off, none⟩) (n + 1) cap) (n + 1) (c0 ++ cs)) (hd : c0.length = sz) (hz : zs.length = sz) : RG (w.setCells g off zs) et sz (.slice (some ⟨g, off, none⟩) (n + 1) cap) (n + 1) (zs ++ cs) := by
  have hl := h.len
  obtain ⟨ao', cap', e, h1, h2⟩ := h.form
  simp only [Value.slice.injEq, true_and] at e
  obtain ⟨rfl, rfl⟩ := e
  rcases h2 with ⟨h2, _⟩ | ⟨g', off', cur, e, hB, hs, hc⟩
  · cases h2
  simp only [Option.some.injEq, Addr.mk.injEq, and_true] at e
  obtain ⟨rfl, rfl⟩ := e
  have hcz : off + zs.length ≤ cur.size := by
    have : (n + 1) * sz ≤ cap * sz := Nat.mul_le_mul_right _ h1
    rw [Nat.add_mul, Nat.one_mul] at this
    omega
  refine ⟨by rw [← hl, List.length_append, List.length_append, hd, hz], ⟨_, _, rfl, h1, .inr ⟨g, off, _, rfl, hB.stores zs off, by rw [sets'_size]; exact hs, fun j c hj => ?_⟩⟩⟩
  rw [sets'_get _ _ _ _ hcz]
  by_cases e : j < zs.length
  · rw [if_pos (by omega), show off + j - off = j by omega]
    rwa [List.getElem?_append_left e] at hj
  · rw [if_neg (by omega)]
    rw [List.getElem?_append_right (by omega)] at hj
    refine hc j c ?_
    rw [List.getElem?_append_right (by omega), hd, ← hz]
    exact hj
theorem Next_nil {w : World} {q : Nat} {Y : Nat → Prop} (h : Rg w q Y []) : Calls Try.prog 12 #[.pointer (some ⟨q, 0, none⟩)] w fun e w' => e = .returned (.tuple #[mvl m0 (.slice none 0 0), .int .i64 8]) ∧ Mod (fun _ => False) w w' := by
  have hA := (Mod.refl (fun _ => False) w).alloc (.cells #[.int .i64 0, .int .i64 0, .int .i64 0, .int .i64 0, .int .i64 0, .int .i64 0, .int .i64 0, .bool false, .int .i64 0, .int .i64 0, .int .i64 0, .int .i64 0, .slice none 0 0] 39)
  have hB := Bk.new w #[.int .i64 0, .int .i64 0, .int .i64 0, .int .i64 0, .int .i64 0, .int .i64 0, .int .i64 0, .bool false, .int .i64 0, .int .i64 0, .int .i64 0, .int .i64 0, .slice none 0 0] 39
  have HN := rNone (h.keep hA)
  obtain ⟨v, ds, h1, h2, h3, _⟩ := h.ex
  obtain rfl : ds = [] := by simpa using h3
  obtain ⟨av, cv, rfl⟩ := h2.shape
  have c1 := (h1.mod hA (fun h => h)).cellv (j := 1) rfl
  simp only [List.length_nil] at c1
  have HA : Hid (Mod _ _ _) := hA
  clear h1 h2 h3 h hA
  go_enter Try.func12, Try.ntmps12
  go_wp2_with (first | (go_at_call 25; refine HN.mono ?_; rintro e w' ⟨rfl, rfl⟩) | (refine wpList_store_row infoM rfl rfl _ _ rfl w.heap.size #[.int .i64 0, .int .i64 0, .int .i64 0, .int .i64 0, .int .i64 0, .int .i64 0, .int .i64 0, .bool false, .int .i64 0, .int .i64 0, .int .i64 0, .int .i64 0, .slice none 0 0] rfl rfl hB rfl rfl rfl ?_; intro wF hBF hMF))
  refine bodyPost_ret (resT2 infoM Try.underlying39 rfl rfl rfl rfl hBF rfl) rfl ?_
  exact ⟨rfl, HA.out.trans hMF (V := fun _ => False) (fun _ _ h => h) (fun i hi h => by omega)⟩
set_option maxRecDepth 100000 in
set_option maxHeartbeats 4000000 in
theorem Next_cons {w : World} {q : Nat} {Y : Nat → Prop} {m : Ms} {l : List Ms} (h : Rg w q Y (m :: l)) : Calls Try.prog 12 #[.pointer (some ⟨q, 0, none⟩)] w fun e w' => ∃ v, e = .returned (.tuple #[mvl m v, .int .i64 0]) ∧ Own w' v m.body ∧ (∀ g, v.ownBlock = some g → w.heap.size ≤ g) ∧ (∀ c ∈ m.body, 0 ≤ c ∧ c ≤ 255) ∧ m.body.length ≤ 140737488355328 ∧ Rg w' q Y l ∧ Mod Y w w' := by
  have hA := (Mod.refl (fun _ => False) w).alloc (.cells #[.int .i64 0, .int .i64 0, .int .i64 0, .int .i64 0, .int .i64 0, .int .i64 0, .int .i64 0, .bool false, .int .i64 0, .int .i64 0, .int .i64 0, .int .i64 0, .slice none 0 0] 39)
  have hB := Bk.new w #[.int .i64 0, .int .i64 0, .int .i64 0, .int .i64 0, .int .i64 0, .int .i64 0, .int .i64 0, .bool false, .int .i64 0, .int .i64 0, .int .i64 0, .int .i64 0, .slice none 0 0] 39
  have HN := rNone (h.keep hA)
  have hA' := h.keep hA
  obtain ⟨⟨v, ds, h1, h2, h3, h4, h5⟩, px, lt⟩ := h
  obtain ⟨⟨m', v0⟩, dsr, rfl⟩ : ∃ d r, ds = d :: r := by
    cases ds with
    | nil => simp at h3
    | cons a r => exact ⟨a, r, rfl⟩
  simp only [List.map_cons, List.cons.injEq] at h3
  obtain ⟨rfl, h3⟩ := h3
  obtain ⟨xo, xg, xr, xb⟩ := h5 _ (List.mem_cons_self ..)
  simp only at xo xg xr xb
  obtain ⟨ao, cap, rfl⟩ := xo.shape
  obtain ⟨gb, ob, cg, ev, hrg⟩ := (h2.mod hA (fun _ _ h => h)).range (by simp)
  subst ev
  simp only [List.length_cons] at h1 h2 h4
  have hra : (w.alloc (.cells #[.int .i64 0, .int .i64 0, .int .i64 0, .int .i64 0, .int .i64 0, .int .i64 0, .int .i64 0, .bool false, .int .i64 0, .int .i64 0, .int .i64 0, .int .i64 0, .slice none 0 0] 39)).rangeAt gb ob (mcl m' (.slice ao m'.body.length cap)) := fun j c hj => hrg j c (by
    have := fm_get ((m', .slice ao m'.body.length cap) :: dsr) 0 _ rfl j c hj
    simpa using this)
  have c1 : (w.alloc (.cells #[.int .i64 0, .int .i64 0, .int .i64 0, .int .i64 0, .int .i64 0, .int .i64 0, .int .i64 0, .bool false, .int .i64 0, .int .i64 0, .int .i64 0, .int .i64 0, .slice none 0 0] 39)).cell? ⟨q, 1, none⟩ = some (.slice (some ⟨gb, ob, none⟩) (dsr.length + 1) cg) := (h1.mod hA (fun h => h)).cellv (j := 1) rfl
  have HC := cpd m' _ _ ((xo.sl xr).mod hA (fun _ _ h => h)) xb
  obtain ⟨an, han⟩ : ∃ an, (if cg = 1 then some ⟨gb, ob, none⟩ else (some ⟨gb, ob, none⟩ : Option Addr).map (·.add 13)) = an := ⟨_, rfl⟩
  have HAN : Hid ((if cg = 1 then some ⟨gb, ob, none⟩ else (some ⟨gb, ob, none⟩ : Option Addr).map (·.add 13)) = an) := han
  have HR : Hid (RG w 39 13 (.slice (some ⟨gb, ob, none⟩) (dsr.length + 1) cg) (dsr.length + 1) (fm ((m', .slice ao m'.body.length cap) :: dsr))) := h2
  have HK : Hid (Bk w q 66 #[.bool true, .slice (some ⟨gb, ob, none⟩) (dsr.length + 1) cg]) := h1
  have HY : Hid (Y gb ∧ Y q ∧ (∀ i, Y i → i < w.heap.size)) := ⟨h4 gb rfl, px, lt⟩
  have H5 : Hid (∀ x ∈ dsr, Own w x.2 x.1.body ∧ (∀ g, x.2.ownBlock = some g → Y g) ∧ (∀ c ∈ x.1.body, 0 ≤ c ∧ c ≤ 255) ∧ x.1.body.length ≤ 140737488355328) := fun x hx => h5 x (List.mem_cons_of_mem _ hx)
  have H3 : Hid (dsr.map (·.1) = l) := h3
  have HX : Hid ((∀ c ∈ m'.body, 0 ≤ c ∧ c ≤ 255) ∧ m'.body.length ≤ 140737488355328) := ⟨xr, xb⟩
  have HA : Hid (Mod _ _ _) := hA
  have HB : Hid (Bk _ _ _ _) := hB
  have hln : ¬ (dsr.length : Int) + 1 = 0 := by omega
  have hle : (0 : Int) < (dsr.length : Int) + 1 := by omega
  have hle2 : (1 : Int) ≤ (dsr.length : Int) + 1 := by omega
  clear h1 h2 h3 h4 h5 hrg han xo xg xr xb px lt hA' hA hB
  go_enter Try.func12, Try.ntmps12
  go_wp2_with (first | (go_at_call 25; refine HN.mono ?_; rintro e w' ⟨rfl, rfl⟩) | (refine wpList_load_at infoM Try.underlying39 rfl rfl _ rfl gb ob rfl _ hra rfl ?_; unfold mcl; simp only [Act.put, List.setIfInBounds_toArray, List.set_cons_succ, List.set_cons_zero]))
  unfold mvl at HC
  refine HC.mono ?_
  rintro e w2 ⟨v2, rfl, ho, hm, hg⟩
  obtain ⟨a2, c2, rfl⟩ := ho.shape
  have c12 := hm.cell c1 (fun h => h)
  have HO : Hid (Own w2 (.slice a2 m'.body.length c2) m'.body) := ho
  have HG : Hid (∀ g, (Value.slice a2 m'.body.length c2).ownBlock = some g → w.heap.size ≤ g) := fun g h => by have := hg g h; simp at this; omega
  have HM2 : Hid (Mod (fun _ => False) w w2) := HA.out.and hm
  have HB2 : Hid (Bk w2 w.heap.size 39 #[.int .i64 0, .int .i64 0, .int .i64 0, .int .i64 0, .int .i64 0, .int .i64 0, .int .i64 0, .bool false, .int .i64 0, .int .i64 0, .int .i64 0, .int .i64 0, .slice none 0 0]) := HB.out.mod hm (fun h => h)
  clear HN HC hra c1 ho hg
  go_upto_region 6 with (refine wpList_store_row infoM rfl rfl _ _ rfl w2.heap.size #[.int .i64 m'.kind, .int .i64 m'.origin, .int .i64 m'.life, .int .i64 m'.id, .int .i64 m'.part, .int .i64 m'.parts, .int .i64 m'.groups, .bool m'.safe, .int .i64 m'.st, .int .i64 m'.rs, .int .i64 m'.rr, .int .i64 m'.sq, (.slice a2 m'.body.length c2)] rfl rfl (Bk.new w2 _ _) rfl rfl rfl ?_; intro w3 hB4 hm3)
  have HM3 : Hid (Mod (fun _ => False) w2 w3) := ((Mod.refl (fun _ => False) w2).alloc _).trans hm3 (V := fun _ => False) (fun _ _ h => h) (fun i hi e => by omega)
  have c13 := HM3.out.cell c12 (fun h => h)
  have hM23 : Mod (fun _ => False) w w3 := HM2.out.and HM3.out
  have hR3 := HR.out.mod hM23 (fun _ _ h => h)
  have hth : w3.there gb ob 13 := by
    obtain ⟨ao', cap', e, k1, k2⟩ := hR3.form
    simp only [Value.slice.injEq, true_and] at e
    obtain ⟨rfl, rfl⟩ := e
    rcases k2 with ⟨k2, _⟩ | ⟨g', off', cur, e, hBB, hs, _⟩
    · cases k2
    simp only [Option.some.injEq, Addr.mk.injEq, and_true] at e
    obtain ⟨rfl, rfl⟩ := e
    exact hBB.there (by omega)
  have hK3 := HK.out.mod hM23 (fun h => h)
  have hqg : ¬ q = gb := fun e => hK3.ne_rm (by decide) hR3 (by rw [e]; rfl)
  rw [show fm ((m', Value.slice ao m'.body.length cap) :: dsr) = mcl m' (.slice ao m'.body.length cap) ++ fm dsr from rfl] at hR3
  have hR4 := hR3.first (zs := zm) rfl rfl
  have hmz := setCells_mod gb zm ob w3
  have c14 := hmz.cell c13 hqg
  have hK4 := hK3.mod hmz hqg
  have f14 := hK4.frz 1
  have hK5 := hK4.set 1 (.slice an dsr.length (cg - 1))
  simp only [List.setIfInBounds_toArray, List.set_cons_succ, List.set_cons_zero] at hK5
  obtain ⟨hR5, hR5o⟩ := RG.tail (ds := zm) (show zm.length = 13 from rfl) hR4 HAN.out
  have hm5 := (Mod.refl (fun i => i = q) (w3.setCells gb ob zm)).setCell ⟨q, 1, none⟩ (.slice an dsr.length (cg - 1)) (.inl rfl)
  have hR6 := hR5.mod hm5 (fun g hg e => hK4.ne_rm (by decide) hR5 (e ▸ hg))
  have hy := HY.out
  have hsz2 := HM2.out.size
  have hsz3 := HM3.out.size
  have hB5 := (hB4.mod hmz (fun e => by have := hy.2.2 gb hy.1; omega)).mod hm5 (fun e => by have := hy.2.2 q hy.2.1; omega)
  have hB25 := ((HB2.out.mod HM3.out (fun h => h)).mod hmz (fun e => by have := hy.2.2 gb hy.1; omega)).mod hm5 (fun e => by have := hy.2.2 q hy.2.1; omega)
  have hMM : Mod Y w ((w3.setCells gb ob zm).setCell ⟨q, 1, none⟩ (.slice an dsr.length (cg - 1))) := (hM23.none.trans hmz (V := Y) (fun _ _ h => h) (fun i _ e => e ▸ hy.1)).trans hm5 (fun _ _ h => h) (fun i _ e => e ▸ hy.2.1)
  have hMO : ∀ u lb, Own w3 u lb → Own ((w3.setCells gb ob zm).setCell ⟨q, 1, none⟩ (.slice an dsr.length (cg - 1))) u lb := fun u lb hu => by
    have h1 := hu.mod hmz (fun g hg e => hR3.ne_ow hu hg (by rw [e]; rfl))
    exact h1.mod hm5 (fun g hg e => hK4.ne_ow (by decide) h1 (e ▸ hg))
  have hO6 := hMO _ _ (HO.out.mod HM3.out (fun _ _ h => h))
  have HS6 : Hid (w3.heap.size ≤ ((w3.setCells gb ob zm).setCell ⟨q, 1, none⟩ (.slice an dsr.length (cg - 1))).heap.size) := Nat.le_trans hmz.size hm5.size
  have H56 : Hid (∀ x ∈ dsr, Own ((w3.setCells gb ob zm).setCell ⟨q, 1, none⟩ (.slice an dsr.length (cg - 1))) x.2 x.1.body ∧ (∀ g, x.2.ownBlock = some g → Y g) ∧ (∀ c ∈ x.1.body, 0 ≤ c ∧ c ≤ 255) ∧ x.1.body.length ≤ 140737488355328) := fun x hx => ⟨hMO _ _ ((H5.out x hx).1.mod hM23 (fun _ _ h => h)), (H5.out x hx).2⟩
  have HR6 : Hid (RG _ _ _ _ _ _) := hR6
  have HR5O : Hid (∀ g, (Value.slice an dsr.length (cg - 1)).ownBlock = some g → g = gb) := fun g hg => by have := hR5o g hg; simp [Value.ownBlock] at this; exact this.symm
  have HK5 : Hid (Bk _ _ _ _) := hK5
  have HMM : Hid (Mod _ _ _) := hMM
  have HO6 : Hid (Own _ _ _) := hO6
  have HB25 : Hid (Bk _ _ _ _) := hB25
  have HB5 : Hid (Bk _ _ _ _) := hB5
  clear hR3 hR4 hR5 hR6 hK3 hK4 hK5 hmz hm5 hMM hMO hB4 hm3 c12 hR5o hO6 hB25 hB5 hqg hy hsz2 hsz3 hM23
  go_upto_region 7 with (refine wpList_store_anyL infoM rfl rfl _ _ rfl gb ob zm rfl rfl hth rfl rfl ?_)
  generalize w3.setCells gb ob zm = w4 at *
  go_upto_region 8 with (refine wpList_val (by rfl) (exec_cutG elM elemM HAN.out rfl rfl rfl) ?_; simp only [Act.put, List.setIfInBounds_toArray, List.set_cons_succ, List.set_cons_zero])
  generalize w4.setCell ⟨q, 1, none⟩ (.slice an dsr.length (cg - 1)) = w6 at *
  have hK25 := HB25.out
  have hK45 := HB5.out
  go_wp2_with (first | (refine wpList_load_row infoM Try.underlying39 rfl rfl _ rfl w2.heap.size rfl hK45 rfl ?_; simp only [Act.put, List.setIfInBounds_toArray, List.set_cons_succ, List.set_cons_zero]) | (refine wpList_store_row infoM rfl rfl _ _ rfl w.heap.size #[.int .i64 m'.kind, .int .i64 m'.origin, .int .i64 m'.life, .int .i64 m'.id, .int .i64 m'.part, .int .i64 m'.parts, .int .i64 m'.groups, .bool m'.safe, .int .i64 m'.st, .int .i64 m'.rs, .int .i64 m'.rr, .int .i64 m'.sq, (.slice a2 m'.body.length c2)] rfl rfl hK25 rfl rfl rfl ?_; intro wF hBF hMF))
  refine bodyPost_ret (resT2 infoM Try.underlying39 rfl rfl rfl rfl hBF rfl) rfl ?_
  have hy := HY.out
  have hs6 := HS6.out
  have hs2 := HM2.out.size
  have hs3 := HM3.out.size
  have hsF := hMF.size
  have hOF : ∀ u lb, Own w6 u lb → Own wF u lb := fun u lb hu => hu.mod hMF (fun g hg e => hK25.ne_ow (by decide) hu (e ▸ hg))
  refine ⟨_, rfl, hOF _ _ HO6.out, HG.out, HX.out.1, HX.out.2, ⟨⟨_, dsr, HK5.out.mod hMF (fun e => by have := hy.2.2 q hy.2.1; omega), HR6.out.mod hMF (fun g hg e => by have := HR5O.out g hg; have := hy.2.2 gb hy.1; omega), H3.out, fun g hg => (HR5O.out g hg) ▸ hy.1, fun x hx => ⟨hOF _ _ (H56.out x hx).1, (H56.out x hx).2⟩⟩, hy.2.1, fun i hi => by have := hy.2.2 i hi; omega⟩, HMM.out.trans hMF (V := Y) (fun _ _ h => h) (fun i hi e => by omega)⟩
end Go.Proofs.Ythiijonmnebjgaa
