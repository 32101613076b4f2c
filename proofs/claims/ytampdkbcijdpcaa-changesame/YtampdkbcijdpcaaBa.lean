/- Rows of events in memory; contracts of change's config, message, waits. Conditions: sizes that a slice has. -/
import Derived.Test.YtampdkbcijdpcaaOa
namespace Go.Proofs.Ytampdkbcijdpcaa
open Go.RowKit Go.Maps
/-- A configuration; an event. -/
structure Cg where
  q : Int
  r : Int
  oq : Int
  or_ : Int
  mem : Int
  tr : Bool
  st : Int
  deriving DecidableEq
structure Ev where
  k : Int
  c : Cg
  d : Dt
def cg0 : Cg := ⟨0, 0, 0, 0, 0, false, 0⟩
def evC (c : Cg) : Ev := ⟨1, c, d0⟩
def evD (d : Dt) : Ev := ⟨2, cg0, d⟩
def cgl (c : Cg) : List Value := [.int .i64 c.q, .int .i64 c.r, .int .i64 c.oq, .int .i64 c.or_, .int .i64 c.mem, .bool c.tr, .int .i64 c.st]
def ecl (e : Ev) (v : Value) : List Value := [.int .i64 e.k, .int .i64 e.c.q, .int .i64 e.c.r, .int .i64 e.c.oq, .int .i64 e.c.or_, .int .i64 e.c.mem, .bool e.c.tr, .int .i64 e.c.st, .int .i64 e.d.q, .int .i64 e.d.r, .int .i64 e.d.n, .int .i64 e.d.s, .int .i64 e.d.t, .int .i64 e.d.m.kind, .int .i64 e.d.m.origin, .int .i64 e.d.m.life, .int .i64 e.d.m.id, .int .i64 e.d.m.part, .int .i64 e.d.m.parts, .int .i64 e.d.m.groups, .bool e.d.m.safe, .int .i64 e.d.m.st, .int .i64 e.d.m.rs, .int .i64 e.d.m.rr, .int .i64 e.d.m.sq, v]
def fe : List (Ev × Value) → List Value
  | [] => []
  | d :: r => ecl d.1 d.2 ++ fe r
theorem ecl_len (e : Ev) (v : Value) : (ecl e v).length = 26 := rfl
theorem fe_len : ∀ ds, (fe ds).length = ds.length * 26
  | [] => rfl
  | d :: r => by rw [fe, List.length_append, fe_len r, ecl_len, List.length_cons]; omega
theorem fe_app : ∀ a b, fe (a ++ b) = fe a ++ fe b
  | [], _ => rfl
  | d :: r, b => by rw [List.cons_append, fe, fe, fe_app r b, List.append_assoc]
theorem ecl_lt {e : Ev} {v c : Value} {t : Nat} (h : (ecl e v)[t]? = some c) : t < 26 := by
  rcases Nat.lt_or_ge t 26 with h' | h'
  · exact h'
  · rw [List.getElem?_eq_none (by exact h')] at h; cases h
theorem fe_get : ∀ (ds : List (Ev × Value)) (i : Nat) (d : Ev × Value), ds[i]? = some d → ∀ t c, (ecl d.1 d.2)[t]? = some c → (fe ds)[i * 26 + t]? = some c
  | [], i, d, h => by simp at h
  | x :: r, 0, d, h => fun t c hc => by
    simp at h
    subst h
    rw [fe, List.getElem?_append_left (by have := ecl_lt hc; rw [ecl_len]; omega)]
    simpa using hc
  | x :: r, i + 1, d, h => fun t c hc => by
    rw [fe, List.getElem?_append_right (by rw [ecl_len]; omega), ecl_len, show (i + 1) * 26 + t - 26 = i * 26 + t by omega]
    exact fe_get r i d (by simpa using h) t c hc
theorem ecl_one (e : Ev) (ao : Option Addr) (n cap : Nat) : ∀ c ∈ ecl e (.slice ao n cap), c.oneCell' = true := fun c hc => by
  simp only [ecl, List.mem_cons, List.not_mem_nil, or_false] at hc
  rcases hc with rfl | rfl | rfl | rfl | rfl | rfl | rfl | rfl | rfl | rfl | rfl | rfl | rfl | rfl | rfl | rfl | rfl | rfl | rfl | rfl | rfl | rfl | rfl | rfl | rfl | rfl
  all_goals rfl
theorem infoEv : (Try.prog.info? 52).map (fun i => (i.zero, i.size, i.bytes)) = some (some (.agg #[.int .i64 0, .int .i64 0, .int .i64 0, .int .i64 0, .int .i64 0, .int .i64 0, .bool false, .int .i64 0, .int .i64 0, .int .i64 0, .int .i64 0, .int .i64 0, .int .i64 0, .int .i64 0, .int .i64 0, .int .i64 0, .int .i64 0, .int .i64 0, .int .i64 0, .int .i64 0, .bool false, .int .i64 0, .int .i64 0, .int .i64 0, .int .i64 0, .slice none 0 0]), 26, 224) := by kernel_rfl
theorem elT : El 85 52 26 224 := ⟨Try.underlying85, by
  have h := infoEv
  cases hi : Try.prog.info? 52 with
  | none => rw [hi] at h; cases h
  | some i =>
    rw [hi] at h
    simp only [Option.map_some, Option.some.injEq, Prod.mk.injEq] at h
    exact ⟨i, _, rfl, h.1, h.2.1, h.2.2, rfl⟩⟩
/-- A row of events of the call's own, each with a body of the call's own, all new since b. -/
structure Re (w : World) (b : Nat) (v : Value) (es : List (Ev × Value)) : Prop where
  row : RG w 52 26 v es.length (fe es)
  new : ∀ g, v.ownBlock = some g → b ≤ g
  each : ∀ x ∈ es, Own w x.2 x.1.d.m.body ∧ (∀ g, x.2.ownBlock = some g → b ≤ g) ∧ (∀ c ∈ x.1.d.m.body, 0 ≤ c ∧ c ≤ 255)
theorem Re.nil (w : World) (b : Nat) : Re w b (.slice none 0 0) [] := ⟨RG.nil w _ _, by simp [Value.ownBlock], by simp⟩
theorem Re.mod {S : Nat → Prop} {w w' : World} {b : Nat} {v : Value} {es : List (Ev × Value)} (h : Re w b v es) (hm : Mod S w w') (hS : ∀ g, b ≤ g → g < w.heap.size → ¬ S g) : Re w' b v es :=
  ⟨h.row.mod hm (fun g hg => hS g (h.new g hg) (h.row.lt g hg)), h.new, fun x hx => ⟨(h.each x hx).1.mod hm (fun g hg => hS g ((h.each x hx).2.1 g hg) ((h.each x hx).1.lt g hg)), (h.each x hx).2⟩⟩
theorem Re.keep {w w' : World} {b : Nat} {v : Value} {es : List (Ev × Value)} (h : Re w b v es) (hm : Mod (fun _ => False) w w') : Re w' b v es := h.mod hm (fun _ _ _ h => h)
/-- One more. -/
theorem Re.more {w w' : World} {b : Nat} {v v' u : Value} {es : List (Ev × Value)} {e : Ev} (h : Re w b v es) (hm : Mod (fun k => v.ownBlock = some k) w w') (hr : RG w' 52 26 v' (es.length + 1) (fe es ++ ecl e u)) (hf : Fr w v v') (hb : b ≤ w.heap.size) (ho : Own w u e.d.m.body) (hu : ∀ g, u.ownBlock = some g → b ≤ g) (hc : ∀ c ∈ e.d.m.body, 0 ≤ c ∧ c ≤ 255) : Re w' b v' (es ++ [(e, u)]) := by
  have ne : ∀ x l, Own w x l → ∀ g, x.ownBlock = some g → ¬ v.ownBlock = some g := fun x l hx g hg e => by
    obtain ⟨c1, k1⟩ := h.row.kind e
    obtain ⟨c2, k2⟩ := hx.kind hg
    rw [k1] at k2
    simp at k2
  refine ⟨?_, fun g hg => ?_, fun x hx => ?_⟩
  · rw [List.length_append, fe_app, show fe [(e, u)] = ecl e u by simp [fe]]
    exact hr
  · rcases hf g hg with h1 | h1
    · exact h.new g h1
    · omega
  · rcases List.mem_append.1 hx with hx | hx
    · obtain ⟨a1, a2, a3⟩ := h.each x hx
      exact ⟨a1.mod hm (ne _ _ a1), a2, a3⟩
    · simp at hx
      subst hx
      exact ⟨ho.mod hm (ne _ _ ho), hu, hc⟩
/-- What is told, behind its pointer. -/
structure Tl (w : World) (b t : Nat) (v : Value) (es : List (Ev × Value)) : Prop where
  blk : Bk w t 85 #[v]
  row : Re w b v es
theorem Tl.keep {w w' : World} {b t : Nat} {v : Value} {es : List (Ev × Value)} (h : Tl w b t v es) (hm : Mod (fun _ => False) w w') : Tl w' b t v es := ⟨h.blk.mod hm (fun h => h), h.row.keep hm⟩
theorem Tl.ne {w : World} {b t : Nat} {v : Value} {es : List (Ev × Value)} (h : Tl w b t v es) : v.ownBlock ≠ some t := fun e => by
  obtain ⟨cur, hc⟩ := h.row.row.kind e
  rw [h.blk.at'] at hc
  simp at hc
/-- What telling changes: its pointer's block and its row. -/
def Tb (t : Nat) (v : Value) (i : Nat) : Prop := i = t ∨ v.ownBlock = some i
theorem Tb.and {t : Nat} {v v1 : Value} {w w1 w2 : World} (h : Mod (Tb t v) w w1) (hf : Fr w v v1) (h2 : Mod (Tb t v1) w1 w2) : Mod (Tb t v) w w2 :=
  h.trans h2 (V := Tb t v) (fun _ _ h => h) (fun i hi hq => by
    rcases hq with rfl | hq
    · exact .inl rfl
    · rcases hf i hq with h1 | h1
      · exact .inr h1
      · omega)
theorem Fr.and {v v1 v2 : Value} {w w1 : World} (hs : w.heap.size ≤ w1.heap.size) (h : Fr w v v1) (h2 : Fr w1 v1 v2) : Fr w v v2 := fun g hg => by
  rcases h2 g hg with h1 | h1
  · exact h g h1
  · exact .inr (Nat.le_trans hs h1)
theorem Fr.early {v v1 : Value} {w w1 : World} (hs : w.heap.size ≤ w1.heap.size) (h2 : Fr w1 v v1) : Fr w v v1 := fun g hg => by
  rcases h2 g hg with h1 | h1
  · exact .inl h1
  · exact .inr (Nat.le_trans hs h1)
/-- What is told gets one more. -/
structure Tp (w w' : World) (b t : Nat) (v v' : Value) (es : List (Ev × Value)) : Prop where
  tl : Tl w' b t v' es
  mod : Mod (Tb t v) w w'
  fr : Fr w v v'
theorem Tl.store {w w2 : World} {b t : Nat} {v v' : Value} {es es' : List (Ev × Value)} (h : Tl w b t v es) (hm : Mod (fun k => v.ownBlock = some k) w w2) (hf : Fr w v v') (hr : Re w2 b v' es') (hne : v'.ownBlock ≠ some t) (hes : ∀ x ∈ es', x.2.ownBlock ≠ some t) : Tp w (w2.setCell ⟨t, 0, none⟩ v') b t v v' es' := by
  have hb := h.blk.mod hm h.ne
  have hs := (Mod.refl (fun i => i = t) w2).setCell ⟨t, 0, none⟩ v' (.inl rfl)
  refine ⟨⟨hb.set 0 v', ⟨hr.row.mod hs (fun g hg e => hne (e ▸ hg)), hr.new, fun x hx => ⟨(hr.each x hx).1.mod hs (fun g hg e => hes x hx (e ▸ hg)), (hr.each x hx).2⟩⟩⟩, ?_, hf⟩
  exact hm.trans hs (V := Tb t v) (fun i _ h => .inr h) (fun i _ h => .inl h)
theorem Re.ne {w : World} {b t : Nat} {v x : Value} {es : List (Ev × Value)} (h : Re w b v es) (hb : Bk w t 85 #[x]) : v.ownBlock ≠ some t ∧ ∀ x ∈ es, x.2.ownBlock ≠ some t := ⟨fun e => by
  obtain ⟨cur, hc⟩ := h.row.kind e
  rw [hb.at'] at hc
  simp at hc, fun x hx e => by
  obtain ⟨cur, hc⟩ := (h.each x hx).1.kind e
  rw [hb.at'] at hc
  simp at hc⟩
set_option maxRecDepth 100000 in
set_option maxHeartbeats 4000000 in
theorem config_w {w : World} {b t : Nat} {v : Value} {es : List (Ev × Value)} (h : Tl w b t v es) (hb : b ≤ w.heap.size) (hn : es.length ≤ 100000000000) (c : Cg) : Calls Try.prog 39 #[.pointer (some ⟨t, 0, none⟩), .agg (cgl c).toArray] w fun e w' => e = .returned (.tuple #[]) ∧ ∃ v', Tp w w' b t v v' (es ++ [(evC c, .slice none 0 0)]) := by
  obtain ⟨av, cv, rfl⟩ := h.row.row.shape
  obtain ⟨wb, ewb⟩ : ∃ W, W = w.alloc (.cells #[.int .i64 c.q, .int .i64 c.r, .int .i64 c.oq, .int .i64 c.or_, .int .i64 c.mem, .bool c.tr, .int .i64 c.st] 25) := ⟨_, rfl⟩
  obtain ⟨kb, ekb⟩ : ∃ k, k = w.heap.size := ⟨_, rfl⟩
  have hmw : Mod (fun _ => False) w wb := by rw [ewb]; exact (Mod.refl _ w).alloc _
  have hkB : Bk wb kb 25 #[.int .i64 c.q, .int .i64 c.r, .int .i64 c.oq, .int .i64 c.or_, .int .i64 c.mem, .bool c.tr, .int .i64 c.st] := by rw [ewb, ekb]; exact Bk.new w _ _
  have HT : Hid (Tl wb b t (.slice av es.length cv) es) := h.keep hmw
  have HBL : Hid (b ≤ wb.heap.size) := Nat.le_trans hb hmw.size
  have HMW : Hid (Mod (fun _ => False) w wb) := hmw
  have HBND : Hid ((es.length + 1) * 224 ≤ 140737488355328 ∧ es.length + 1 ≤ 9223372036854775807) := by constructor <;> omega
  have k0 : wb.cell? ⟨kb, 0, none⟩ = some (.int .i64 c.q) := hkB.cellv (j := 0) rfl
  have k1 : wb.cell? ⟨kb, 1, none⟩ = some (.int .i64 c.r) := hkB.cellv (j := 1) rfl
  have k2 : wb.cell? ⟨kb, 2, none⟩ = some (.int .i64 c.oq) := hkB.cellv (j := 2) rfl
  have k3 : wb.cell? ⟨kb, 3, none⟩ = some (.int .i64 c.or_) := hkB.cellv (j := 3) rfl
  have k4 : wb.cell? ⟨kb, 4, none⟩ = some (.int .i64 c.mem) := hkB.cellv (j := 4) rfl
  have k5 : wb.cell? ⟨kb, 5, none⟩ = some (.bool c.tr) := hkB.cellv (j := 5) rfl
  have k6 : wb.cell? ⟨kb, 6, none⟩ = some (.int .i64 c.st) := hkB.cellv (j := 6) rfl
  clear hkB hmw h hb hn
  unfold cgl
  go_enter Try.func39, Try.ntmps39
  go_upto_region 1 with (fail)
  rw [← ewb, ← ekb]
  clear ewb ekb
  have hA3 := (Mod.refl (fun _ => False) wb).alloc (.cells (ecl (evC c) (.slice none 0 0)).toArray 52)
  have hdr := (Mod.refl (fun _ => False) (wb.alloc (.cells (ecl (evC c) (.slice none 0 0)).toArray 52))).drew
  have hSG : SG (wb.alloc (.cells (ecl (evC c) (.slice none 0 0)).toArray 52)).drew 26 (.slice (some ⟨wb.heap.size, 0, none⟩) 1 1) 1 (ecl (evC c) (.slice none 0 0)) := SG.lit wb.drew 52 (ecl (evC c) (.slice none 0 0)) (ecl_one (evC c) _ _ _)
  have HT3 : Hid (Tl (wb.alloc (.cells (ecl (evC c) (.slice none 0 0)).toArray 52)).drew b t (.slice av es.length cv) es) := (HT.out.keep hA3).keep hdr
  have hR3 := HT3.out.row.row
  have c1 : wb.cell? ⟨t, 0, none⟩ = some (.slice av es.length cv) := HT.out.blk.cellv (j := 0) rfl
  have c1a : (wb.alloc (.cells (ecl (evC c) (.slice none 0 0)).toArray 52)).cell? ⟨t, 0, none⟩ = some (.slice av es.length cv) := hA3.cell c1 (fun h => h)
  have HC1B : Hid ((wb.alloc (.cells (ecl (evC c) (.slice none 0 0)).toArray 52)).drew.cell? ⟨t, 0, none⟩ = some (.slice av es.length cv)) := hdr.cell c1a (fun h => h)
  have HKA : Hid (Bk (wb.alloc (.cells (ecl (evC c) (.slice none 0 0)).toArray 52)).drew t 85 #[.slice av es.length cv]) := HT3.out.blk
  have HDA : Hid (Mod (fun _ => False) wb (wb.alloc (.cells (ecl (evC c) (.slice none 0 0)).toArray 52)).drew) := hA3.and hdr
  have HQN : Hid (¬ (Value.slice av es.length cv).ownBlock = some t) := HT.out.ne
  have HOW : Hid (Own (wb.alloc (.cells (ecl (evC c) (.slice none 0 0)).toArray 52)).drew (.slice none 0 0) (evC c).d.m.body) := (Own.nil wb).mod HDA.out (fun _ _ h => h)
  have HBB : Hid (b ≤ (wb.alloc (.cells (ecl (evC c) (.slice none 0 0)).toArray 52)).drew.heap.size) := Nat.le_trans HBL.out HDA.out.size
  clear hA3 hdr
  unfold ecl evC at hSG hR3 c1a
  simp only [d0] at hSG c1a
  go_region_law (refine step_appG elT (by rfl) _ _ (by rfl) _ _ es.length 1 (fe es) _ (by rfl) (by rfl) hR3 hSG HBND.out.1 HBND.out.2 (es.length + 1) rfl ?_; intro ax4 cx4 w5 hRG5 hm5 hf5; have HF5 : Hid (Fr _ _ _) := hf5; clear hf5; have c15 : w5.cell? ⟨t, 0, none⟩ = some (.slice av es.length cv) := hm5.cell HC1B.out HQN.out; have f15 : w5.frozen? ⟨t, 0, none⟩ = false := (HKA.out.mod hm5 HQN.out).frz 0)
  all_goals have hR6 := HT3.out.row.more (e := evC c) (u := .slice none 0 0) hm5 hRG5 HF5.out HBB.out HOW.out (by simp [Value.ownBlock]) (by simp [evC, d0])
  all_goals have hn6 := hR6.ne (HKA.out.mod hm5 HQN.out)
  all_goals have HFIN : Hid (Tp _ (w5.setCell ⟨t, 0, none⟩ (.slice ax4 (es.length + 1) cx4)) b t _ (.slice ax4 (es.length + 1) cx4) (es ++ [(evC c, .slice none 0 0)])) := HT3.out.store hm5 HF5.out hR6 hn6.1 hn6.2
  all_goals clear hR6 hn6 hm5 hRG5 HF5
  all_goals go_wp2
  all_goals exact bodyPost_end (results_none rfl _ _ _) rfl ⟨rfl, _, HFIN.out.tl, (HMW.out.and HDA.out).trans HFIN.out.mod (V := Tb t _) (fun _ _ h => h.elim) (fun i hi h => h), HFIN.out.fr.early (HMW.out.and HDA.out).size⟩
set_option maxRecDepth 100000 in
set_option maxHeartbeats 4000000 in
theorem message_w {w : World} {b t : Nat} {v : Value} {es : List (Ev × Value)} (h : Tl w b t v es) (hb : b ≤ w.heap.size) (hn : es.length ≤ 100000000000) (d : Dt) (u : Value) (ho : Own w u d.m.body) (hu : ∀ g, u.ownBlock = some g → b ≤ g) (hc : ∀ c ∈ d.m.body, 0 ≤ c ∧ c ≤ 255) : Calls Try.prog 61 #[.pointer (some ⟨t, 0, none⟩), dv d u] w fun e w' => e = .returned (.tuple #[]) ∧ ∃ v', Tp w w' b t v v' (if d.m.kind = 5 then es else es ++ [(evD d, u)]) := by
  obtain ⟨av, cv, rfl⟩ := h.row.row.shape
  obtain ⟨ao, cp, rfl⟩ := ho.shape
  obtain ⟨wb, ewb⟩ : ∃ W, W = w.alloc (.cells #[.int .i64 d.q, .int .i64 d.r, .int .i64 d.n, .int .i64 d.s, .int .i64 d.t, .int .i64 d.m.kind, .int .i64 d.m.origin, .int .i64 d.m.life, .int .i64 d.m.id, .int .i64 d.m.part, .int .i64 d.m.parts, .int .i64 d.m.groups, .bool d.m.safe, .int .i64 d.m.st, .int .i64 d.m.rs, .int .i64 d.m.rr, .int .i64 d.m.sq, .slice ao d.m.body.length cp] 44) := ⟨_, rfl⟩
  obtain ⟨kb, ekb⟩ : ∃ k, k = w.heap.size := ⟨_, rfl⟩
  have hmw : Mod (fun _ => False) w wb := by rw [ewb]; exact (Mod.refl _ w).alloc _
  have hkB : Bk wb kb 44 #[.int .i64 d.q, .int .i64 d.r, .int .i64 d.n, .int .i64 d.s, .int .i64 d.t, .int .i64 d.m.kind, .int .i64 d.m.origin, .int .i64 d.m.life, .int .i64 d.m.id, .int .i64 d.m.part, .int .i64 d.m.parts, .int .i64 d.m.groups, .bool d.m.safe, .int .i64 d.m.st, .int .i64 d.m.rs, .int .i64 d.m.rr, .int .i64 d.m.sq, .slice ao d.m.body.length cp] := by rw [ewb, ekb]; exact Bk.new w _ _
  have HT : Hid (Tl wb b t (.slice av es.length cv) es) := h.keep hmw
  have HBL : Hid (b ≤ wb.heap.size) := Nat.le_trans hb hmw.size
  have HMW : Hid (Mod (fun _ => False) w wb) := hmw
  have HBND : Hid ((es.length + 1) * 224 ≤ 140737488355328 ∧ es.length + 1 ≤ 9223372036854775807) := by constructor <;> omega
  have HO : Hid (Own wb (.slice ao d.m.body.length cp) d.m.body) := ho.mod hmw (fun _ _ h => h)
  have HU : Hid (∀ g, (.slice ao d.m.body.length cp : Value).ownBlock = some g → b ≤ g) := hu
  have HC : Hid (∀ c ∈ d.m.body, 0 ≤ c ∧ c ≤ 255) := hc
  have k0 : wb.cell? ⟨kb, 0, none⟩ = some (.int .i64 d.q) := hkB.cellv (j := 0) rfl
  have k1 : wb.cell? ⟨kb, 1, none⟩ = some (.int .i64 d.r) := hkB.cellv (j := 1) rfl
  have k2 : wb.cell? ⟨kb, 2, none⟩ = some (.int .i64 d.n) := hkB.cellv (j := 2) rfl
  have k3 : wb.cell? ⟨kb, 3, none⟩ = some (.int .i64 d.s) := hkB.cellv (j := 3) rfl
  have k4 : wb.cell? ⟨kb, 4, none⟩ = some (.int .i64 d.t) := hkB.cellv (j := 4) rfl
  have k5 : wb.cell? ⟨kb, 5, none⟩ = some (.int .i64 d.m.kind) := hkB.cellv (j := 5) rfl
  have k6 : wb.cell? ⟨kb, 6, none⟩ = some (.int .i64 d.m.origin) := hkB.cellv (j := 6) rfl
  have k7 : wb.cell? ⟨kb, 7, none⟩ = some (.int .i64 d.m.life) := hkB.cellv (j := 7) rfl
  have k8 : wb.cell? ⟨kb, 8, none⟩ = some (.int .i64 d.m.id) := hkB.cellv (j := 8) rfl
  have k9 : wb.cell? ⟨kb, 9, none⟩ = some (.int .i64 d.m.part) := hkB.cellv (j := 9) rfl
  have k10 : wb.cell? ⟨kb, 10, none⟩ = some (.int .i64 d.m.parts) := hkB.cellv (j := 10) rfl
  have k11 : wb.cell? ⟨kb, 11, none⟩ = some (.int .i64 d.m.groups) := hkB.cellv (j := 11) rfl
  have k12 : wb.cell? ⟨kb, 12, none⟩ = some (.bool d.m.safe) := hkB.cellv (j := 12) rfl
  have k13 : wb.cell? ⟨kb, 13, none⟩ = some (.int .i64 d.m.st) := hkB.cellv (j := 13) rfl
  have k14 : wb.cell? ⟨kb, 14, none⟩ = some (.int .i64 d.m.rs) := hkB.cellv (j := 14) rfl
  have k15 : wb.cell? ⟨kb, 15, none⟩ = some (.int .i64 d.m.rr) := hkB.cellv (j := 15) rfl
  have k16 : wb.cell? ⟨kb, 16, none⟩ = some (.int .i64 d.m.sq) := hkB.cellv (j := 16) rfl
  have k17 : wb.cell? ⟨kb, 17, none⟩ = some (.slice ao d.m.body.length cp) := hkB.cellv (j := 17) rfl
  clear hkB hmw h hb hn ho hu hc
  unfold dv
  by_cases hk : d.m.kind = 5
  · rw [if_pos hk]
    have HK : Hid (_ : Prop) := hk
    clear hk
    go_enter Try.func61, Try.ntmps61
    go_upto_region 1 with (fail)
    rw [← ewb, ← ekb]
    clear ewb ekb
    have hk := HK.out
    go_wp2
    exact bodyPost_end (results_none rfl _ _ _) rfl ⟨rfl, _, HT.out, HMW.out.mono (fun _ _ h => h.elim), Fr.refl _ _⟩
  · rw [if_neg hk]
    have HK : Hid (_ : Prop) := hk
    clear hk
    go_enter Try.func61, Try.ntmps61
    go_upto_region 1 with (fail)
    rw [← ewb, ← ekb]
    clear ewb ekb
    have hk : (d.m.kind == 5) = false := by have hz : ¬ d.m.kind = 5 := HK.out; simp [hz]
    have hA3 := (Mod.refl (fun _ => False) wb).alloc (.cells (ecl (evD d) (.slice ao d.m.body.length cp)).toArray 52)
    have hdr := (Mod.refl (fun _ => False) (wb.alloc (.cells (ecl (evD d) (.slice ao d.m.body.length cp)).toArray 52))).drew
    have hSG : SG (wb.alloc (.cells (ecl (evD d) (.slice ao d.m.body.length cp)).toArray 52)).drew 26 (.slice (some ⟨wb.heap.size, 0, none⟩) 1 1) 1 (ecl (evD d) (.slice ao d.m.body.length cp)) := SG.lit wb.drew 52 (ecl (evD d) (.slice ao d.m.body.length cp)) (ecl_one (evD d) _ _ _)
    have HT3 : Hid (Tl (wb.alloc (.cells (ecl (evD d) (.slice ao d.m.body.length cp)).toArray 52)).drew b t (.slice av es.length cv) es) := (HT.out.keep hA3).keep hdr
    have hR3 := HT3.out.row.row
    have c1 : wb.cell? ⟨t, 0, none⟩ = some (.slice av es.length cv) := HT.out.blk.cellv (j := 0) rfl
    have c1a : (wb.alloc (.cells (ecl (evD d) (.slice ao d.m.body.length cp)).toArray 52)).cell? ⟨t, 0, none⟩ = some (.slice av es.length cv) := hA3.cell c1 (fun h => h)
    have HC1B : Hid ((wb.alloc (.cells (ecl (evD d) (.slice ao d.m.body.length cp)).toArray 52)).drew.cell? ⟨t, 0, none⟩ = some (.slice av es.length cv)) := hdr.cell c1a (fun h => h)
    have HKA : Hid (Bk (wb.alloc (.cells (ecl (evD d) (.slice ao d.m.body.length cp)).toArray 52)).drew t 85 #[.slice av es.length cv]) := HT3.out.blk
    have HDA : Hid (Mod (fun _ => False) wb (wb.alloc (.cells (ecl (evD d) (.slice ao d.m.body.length cp)).toArray 52)).drew) := hA3.and hdr
    have HQN : Hid (¬ (Value.slice av es.length cv).ownBlock = some t) := HT.out.ne
    have HOW : Hid (Own (wb.alloc (.cells (ecl (evD d) (.slice ao d.m.body.length cp)).toArray 52)).drew (.slice ao d.m.body.length cp) (evD d).d.m.body) := (HO.out).mod HDA.out (fun _ _ h => h)
    have HBB : Hid (b ≤ (wb.alloc (.cells (ecl (evD d) (.slice ao d.m.body.length cp)).toArray 52)).drew.heap.size) := Nat.le_trans HBL.out HDA.out.size
    clear hA3 hdr
    unfold ecl evD at hSG hR3 c1a
    simp only [cg0] at hSG c1a
    go_upto_region 2 with (fail)
    clear hk
    go_region_law (refine step_appG elT (by rfl) _ _ (by rfl) _ _ es.length 1 (fe es) _ (by rfl) (by rfl) hR3 hSG HBND.out.1 HBND.out.2 (es.length + 1) rfl ?_; intro ax4 cx4 w5 hRG5 hm5 hf5; have HF5 : Hid (Fr _ _ _) := hf5; clear hf5; have c15 : w5.cell? ⟨t, 0, none⟩ = some (.slice av es.length cv) := hm5.cell HC1B.out HQN.out; have f15 : w5.frozen? ⟨t, 0, none⟩ = false := (HKA.out.mod hm5 HQN.out).frz 0)
    all_goals have hR6 := HT3.out.row.more (e := evD d) (u := .slice ao d.m.body.length cp) hm5 hRG5 HF5.out HBB.out HOW.out (HU.out) (HC.out)
    all_goals have hn6 := hR6.ne (HKA.out.mod hm5 HQN.out)
    all_goals have HFIN : Hid (Tp _ (w5.setCell ⟨t, 0, none⟩ (.slice ax4 (es.length + 1) cx4)) b t _ (.slice ax4 (es.length + 1) cx4) (es ++ [(evD d, .slice ao d.m.body.length cp)])) := HT3.out.store hm5 HF5.out hR6 hn6.1 hn6.2
    all_goals clear hR6 hn6 hm5 hRG5 HF5
    all_goals go_wp2
    all_goals exact bodyPost_end (results_none rfl _ _ _) rfl ⟨rfl, _, HFIN.out.tl, (HMW.out.and HDA.out).trans HFIN.out.mod (V := Tb t _) (fun _ _ h => h.elim) (fun i hi h => h), HFIN.out.fr.early (HMW.out.and HDA.out).size⟩
end Go.Proofs.Ytampdkbcijdpcaa
