/- Rows of messages in memory: how they read, append to them, cut them. Conditions: sizes that a slice has. -/
import Derived.Test.YthiijonmnebjgaaWi
import Derived.Test.YthiijonmnebjgaaPn
import Derived.Deep.AppendSrc
import Derived.Deep.DeepCutAuto
import Derived.Deep.Light
namespace Go.Proofs.Ythiijonmnebjgaa
open Go.RowKit
/-- A message's cells. -/
def mcl (m : Ms) (v : Value) : List Value := [.int .i64 m.kind, .int .i64 m.origin, .int .i64 m.life, .int .i64 m.id, .int .i64 m.part, .int .i64 m.parts, .int .i64 m.groups, .bool m.safe, .int .i64 m.st, .int .i64 m.rs, .int .i64 m.rr, .int .i64 m.sq, v]
theorem mcl_len (m : Ms) (v : Value) : (mcl m v).length = 13 := rfl
theorem mcl_lt {m : Ms} {v c : Value} {t : Nat} (h : (mcl m v)[t]? = some c) : t < 13 := by
  rcases Nat.lt_or_ge t 13 with h' | h'
  · exact h'
  · rw [List.getElem?_eq_none (by exact h')] at h; cases h
/-- The cells of messages, one behind the other. -/
def fm : List (Ms × Value) → List Value
  | [] => []
  | d :: r => mcl d.1 d.2 ++ fm r
theorem fm_len : ∀ ds, (fm ds).length = ds.length * 13
  | [] => rfl
  | d :: r => by rw [fm, List.length_append, fm_len r, mcl_len, List.length_cons]; omega
theorem fm_app : ∀ a b, fm (a ++ b) = fm a ++ fm b
  | [], _ => rfl
  | d :: r, b => by rw [List.cons_append, fm, fm, fm_app r b, List.append_assoc]
theorem fm_get : ∀ (ds : List (Ms × Value)) (i : Nat) (d : Ms × Value), ds[i]? = some d → ∀ t c, (mcl d.1 d.2)[t]? = some c → (fm ds)[i * 13 + t]? = some c
  | [], i, d, h => by simp at h
  | x :: r, 0, d, h => fun t c hc => by
    simp at h
    subst h
    rw [fm, List.getElem?_append_left (by have := mcl_lt hc; rw [mcl_len]; omega)]
    simpa using hc
  | x :: r, i + 1, d, h => fun t c hc => by
    rw [fm, List.getElem?_append_right (by rw [mcl_len]; omega), mcl_len, show (i + 1) * 13 + t - 13 = i * 13 + t by omega]
    exact fm_get r i d (by simpa using h) t c hc
theorem fm_one : ∀ (ds : List (Ms × Value)), (∀ d ∈ ds, d.2.oneCell' = true) → ∀ u ∈ fm ds, u.oneCell' = true
  | [], _ => fun u hu => by cases hu
  | d :: r, h => fun u hu => by
    rw [fm, List.mem_append] at hu
    rcases hu with hu | hu
    · simp only [mcl, List.mem_cons, List.not_mem_nil, or_false] at hu
      rcases hu with rfl | rfl | rfl | rfl | rfl | rfl | rfl | rfl | rfl | rfl | rfl | rfl | rfl
      all_goals first | rfl | exact h d (List.mem_cons_self ..)
    · exact fm_one r (fun x hx => h x (List.mem_cons_of_mem _ hx)) u hu
/-- A slice of messages. -/
structure Mgs (w : World) (val : Value) (ds : List (Ms × Value)) : Prop where
  form : ∃ ao cap, val = .slice ao ds.length cap ∧ ds.length * 120 ≤ 140737488355328 ∧ (ds ≠ [] → ∃ b off, ao = some ⟨b, off, none⟩ ∧ ∀ i d, ds[i]? = some d → w.rangeAt b (off + i * 13) (mcl d.1 d.2))
  each : ∀ d ∈ ds, Sl w d.2 d.1.body ∧ d.1.body.length ≤ 140737488355328
theorem Sl.one {w : World} {v : Value} {l : List Int} (h : Sl w v l) : v.oneCell' = true := by
  obtain ⟨ao, cap, rfl, _⟩ := h.form
  rfl
/-- A row of messages of the call's own, maybe cut at its front. -/
structure RM (w : World) (v : Value) (ds : List (Ms × Value)) : Prop where
  form : ∃ ao cap, v = .slice ao ds.length cap ∧ ds.length ≤ cap ∧ ((ao = none ∧ cap = 0) ∨ ∃ g off cur, ao = some ⟨g, off, none⟩ ∧ Bk w g 39 cur ∧ off + cap * 13 ≤ cur.size ∧ ∀ j c, (fm ds)[j]? = some c → cur[off + j]? = some c)
theorem RM.nil (w : World) : RM w (.slice none 0 0) [] := ⟨⟨none, 0, rfl, Nat.le_refl _, .inl ⟨rfl, rfl⟩⟩⟩
theorem RM.shape {w : World} {v : Value} {ds : List (Ms × Value)} (h : RM w v ds) : ∃ ao cap, v = .slice ao ds.length cap := by
  obtain ⟨ao, cap, e, _⟩ := h.form
  exact ⟨ao, cap, e⟩
theorem RM.mod {S : Nat → Prop} {w w' : World} {v : Value} {ds : List (Ms × Value)} (h : RM w v ds) (hm : Mod S w w') (hv : ∀ g, v.ownBlock = some g → ¬ S g) : RM w' v ds := by
  obtain ⟨ao, cap, rfl, h1, h2⟩ := h.form
  refine ⟨⟨ao, cap, rfl, h1, ?_⟩⟩
  rcases h2 with h2 | ⟨g, off, cur, rfl, hB, hs, hc⟩
  · exact .inl h2
  · exact .inr ⟨g, off, cur, rfl, hB.mod hm (hv g rfl), hs, hc⟩
theorem RM.lt {w : World} {v : Value} {ds : List (Ms × Value)} (h : RM w v ds) : ∀ g, v.ownBlock = some g → g < w.heap.size := by
  obtain ⟨ao, cap, rfl, h1, h2⟩ := h.form
  intro g hg
  rcases h2 with ⟨rfl, _⟩ | ⟨g', off, cur, rfl, hB, _⟩
  · cases hg
  · simp only [Value.ownBlock, Option.some.injEq] at hg
    subst hg
    exact hB.lt
theorem RM.kind {w : World} {v : Value} {ds : List (Ms × Value)} (h : RM w v ds) {g : Nat} (hg : v.ownBlock = some g) : ∃ cur, w.heap[g]? = some (.cells cur 39 (0, 0)) := by
  obtain ⟨ao, cap, rfl, h1, h2⟩ := h.form
  rcases h2 with ⟨rfl, _⟩ | ⟨g', off, cur, rfl, hB, _⟩
  · cases hg
  · simp only [Value.ownBlock, Option.some.injEq] at hg
    subst hg
    exact ⟨cur, hB.at'⟩
theorem RM.own_ne {w : World} {v u : Value} {ds : List (Ms × Value)} {l : List Int} (h : RM w v ds) (ho : Own w u l) {g : Nat} (hg : u.ownBlock = some g) : v.ownBlock ≠ some g := fun e => by
  obtain ⟨c1, h1⟩ := h.kind e
  obtain ⟨c2, h2⟩ := ho.kind hg
  rw [h1] at h2
  simp at h2
/-- It reads as messages. -/
theorem RM.mgs {w : World} {v : Value} {ds : List (Ms × Value)} (h : RM w v ds) (hl : ds.length * 120 ≤ 140737488355328) (he : ∀ d ∈ ds, Sl w d.2 d.1.body ∧ d.1.body.length ≤ 140737488355328) : Mgs w v ds := by
  obtain ⟨ao, cap, rfl, h1, h2⟩ := h.form
  refine ⟨⟨ao, cap, rfl, hl, fun hne => ?_⟩, he⟩
  rcases h2 with ⟨rfl, rfl⟩ | ⟨g, off, cur, rfl, hB, hs, hc⟩
  · exact absurd (List.eq_nil_of_length_eq_zero (by omega)) hne
  · refine ⟨g, off, rfl, fun i d hd => hB.range _ _ fun j c hj => ?_⟩
    have := hc _ _ (fm_get ds i d hd j c hj)
    rw [Nat.add_assoc]
    exact this
/-- What is appended. -/
structure Sc (w : World) (u : Value) (es : List (Ms × Value)) : Prop where
  form : ∃ ao cap, u = .slice ao es.length cap ∧ (ao = none → es = []) ∧ ∀ a, ao = some a → ∀ j c, (fm es)[j]? = some c → w.cell? (a.add j) = some c
  one : ∀ d ∈ es, d.2.oneCell' = true
theorem Sc.of {w : World} {u : Value} {es : List (Ms × Value)} (h : RM w u es) (h1 : ∀ d ∈ es, d.2.oneCell' = true) : Sc w u es := by
  obtain ⟨ao, cap, rfl, h2, h3⟩ := h.form
  refine ⟨⟨ao, cap, rfl, fun e => ?_, fun a ha j c hj => ?_⟩, h1⟩
  · rcases h3 with ⟨_, rfl⟩ | ⟨g, off, cur, rfl, _⟩
    · exact List.eq_nil_of_length_eq_zero (by omega)
    · cases e
  · rcases h3 with ⟨rfl, _⟩ | ⟨g, off, cur, rfl, hB, _, hc⟩
    · cases ha
    · simp only [Option.some.injEq] at ha
      subst ha
      rw [Addr.add_mid, hB.cell]
      exact hc j c hj
theorem infoMq : (Try.prog.info? 39).map (fun i => (i.zero, i.size, i.bytes)) = some (some (.agg #[.int .i64 0, .int .i64 0, .int .i64 0, .int .i64 0, .int .i64 0, .int .i64 0, .int .i64 0, .bool false, .int .i64 0, .int .i64 0, .int .i64 0, .int .i64 0, .slice none 0 0]), 13, 120) := by kernel_rfl
theorem infoMs : ∃ i z, Try.prog.info? 39 = some i ∧ i.zero = some z ∧ i.size = 13 ∧ i.bytes = 120 ∧ z.cells.size = 13 := by
  have h := infoMq
  cases hi : Try.prog.info? 39 with
  | none => rw [hi] at h; cases h
  | some i =>
    rw [hi] at h
    simp only [Option.map_some, Option.some.injEq, Prod.mk.injEq] at h
    exact ⟨i, _, rfl, h.1, h.2.1, h.2.2, rfl⟩
theorem Sc.src {w : World} {u : Value} {es : List (Ms × Value)} (h : Sc w u es) {i : TypeInfo} (hs : i.size = 13) : Src Try.prog i.size 43 u es.length (fm es) w := by
  obtain ⟨ao, cap, rfl, h1, h2⟩ := h.form
  rw [hs]
  cases ao with
  | none =>
    obtain rfl := h1 rfl
    exact Src.ofNil w Try.underlying43 cap
  | some a => exact Src.ofSlice w Try.underlying43 a es.length cap (fm es) (fm_len es) (h2 a rfl) (fm_one es h.one)
/-- append of messages, with room or without. -/
theorem run_appM (w : World) (v u : Value) (ds es : List (Ms × Value)) (hv : RM w v ds) (hu : Sc w u es) (hb : (ds.length + es.length) * 120 ≤ 140737488355328) (n : Nat) (hn : n = ds.length + es.length) (ty : TypeId) :
    ∃ ax cx w', (Builtin.append_ #[43, 43] ty #[v, u]).run Try.prog w = .ok (.slice ax n cx) w' ∧ RM w' (.slice ax n cx) (ds ++ es) ∧ Mod (fun k => v.ownBlock = some k) w w' ∧ Fr w v (.slice ax n cx) := by
  subst hn
  obtain ⟨i, z, hi, hz, hs, hby, hzs⟩ := infoMs
  have hsrc := hu.src hs
  obtain ⟨ao, cap, rfl, h1, h2⟩ := hv.form
  have grow : cap < ds.length + es.length → (Builtin.firstCells i.size ds.length (.slice ao ds.length cap)).run Try.prog w.drew = .ok (fm ds).toArray w.drew → ∃ ax cx w', (Builtin.append_ #[43, 43] ty #[.slice ao ds.length cap, u]).run Try.prog w = .ok (.slice ax (ds.length + es.length) cx) w' ∧ RM w' (.slice ax (ds.length + es.length) cx) (ds ++ es) ∧ Mod (fun k => (Value.slice ao ds.length cap).ownBlock = some k) w w' ∧ Fr w (.slice ao ds.length cap) (.slice ax (ds.length + es.length) cx) := fun hg hold => by
    have hr := run_append_grow_src (P := Try.prog) w 43 43 ty 39 i z Try.underlying43 hi hz ao ds.length cap (fm ds) hold u es.length (fm es) hsrc hg (by omega) (growslice_fits hg (by rw [hby]; exact hb))
    have hge := grownCap_ge w (ds.length + es.length) cap 39
    refine ⟨_, _, _, hr, ⟨⟨_, _, by rw [List.length_append], by rw [List.length_append]; exact hge, .inr ⟨w.heap.size, 0, _, rfl, ⟨heap_alloc_new w.drew _⟩, ?_, fun j c hj => ?_⟩⟩⟩, ((Mod.refl _ w).drew).alloc _, fun g hg => ?_⟩
    · simp only [Array.size_append, List.size_toArray, List.length_append, fm_len, size_zeroCells, hzs]
      omega
    · rw [fm_app] at hj
      rw [Nat.zero_add, Array.getElem?_append_left (by
        rcases Nat.lt_or_ge j (fm ds ++ fm es).length with h | h
        · simpa using h
        · rw [List.getElem?_eq_none h] at hj; cases hj)]
      simpa using hj
    · simp only [Value.ownBlock, Option.some.injEq] at hg
      subst hg
      exact .inr (Nat.le_refl _)
  rcases h2 with ⟨rfl, rfl⟩ | ⟨g, off, cur, rfl, hB, hsz, hc⟩
  · have e0 : ds = [] := List.eq_nil_of_length_eq_zero (by omega)
    subst e0
    by_cases he : es = []
    · subst he
      obtain ⟨ao, cu, rfl, _, _⟩ := hu.form
      refine ⟨none, 0, w, ?_, RM.nil w, Mod.refl _ w, Fr.refl _ _⟩
      have := hsrc.cells
      rcases hsrc.kind with ⟨e', hk⟩ | hk <;> simp [Builtin.append_, run_underlying Try.underlying43, sizeOf, typeInfo, hi, Builtin.lenOf]
      all_goals
        rw [hs] at this
        cases ao <;> simp [hs, Builtin.firstCells, loadCells, loadCellsFrom]
    · refine grow (by have := List.length_pos_iff.2 he; simpa using this) ?_
      exact run_firstCells_none w.drew i.size 0 0 0
  · by_cases hroom : ds.length + es.length ≤ cap
    · have hth : ∀ j, j < (fm es).length → off + ds.length * i.size + j < cur.size := fun j hj => by
        rw [fm_len] at hj
        rw [hs]
        omega
      have hr := run_append_room_src (P := Try.prog) w 43 43 ty 39 i Try.underlying43 hi g off ds.length cap u es.length (fm es) hsrc hroom
        (fun j hj => by rw [hB.cell, Array.getElem?_eq_getElem (hth j hj)]; rfl) (fun j hj => hB.frz _)
      rw [hs] at hr hth
      have hB' := Bk.stores (fm es) (off + ds.length * 13) hB
      refine ⟨_, _, _, hr, ⟨⟨_, cap, by rw [List.length_append], by rw [List.length_append]; exact hroom, .inr ⟨g, off, _, rfl, hB', by rw [sets'_size]; exact hsz, fun j c hj => ?_⟩⟩⟩, (setCells_mod g (fm es) _ w).mono (fun k _ hk => by subst hk; rfl), Fr.refl _ _⟩
      rw [sets'_get _ _ _ _ (by rw [fm_len]; omega)]
      rw [fm_app] at hj
      by_cases hj1 : j < (fm ds).length
      · rw [List.getElem?_append_left hj1] at hj
        rw [fm_len] at hj1
        rw [if_neg (by omega)]
        exact hc j c hj
      · rw [List.getElem?_append_right (by omega)] at hj
        have hj2 : j - (fm ds).length < (fm es).length := by
          rcases Nat.lt_or_ge (j - (fm ds).length) (fm es).length with h | h
          · exact h
          · rw [List.getElem?_eq_none h] at hj; cases hj
        rw [fm_len] at hj1 hj hj2
        rw [if_pos (by omega), show off + j - (off + ds.length * 13) = j - ds.length * 13 by omega]
        exact hj
    · refine grow (by omega) (run_firstCells_some w.drew i.size ds.length ⟨g, off, none⟩ ds.length cap (fm ds) (by rw [hs, fm_len]) fun j c hj => ?_)
      have := hB.cell (off + j)
      rw [hc j c hj] at this
      rw [Addr.add_mid]
      simpa using this
theorem wpList_appM {ops : Array Oper} {rest : List Oper} {o : Oper} {a : Act} {w : World} {Q : Exit → Act → World → Prop} (hgd : o.guard = none) (s x : Operand) (ho : o.op = .call { callee := .builtin .append, args := #[s, x], argTypes := #[43, 43] })
    (v u : Value) (ds es : List (Ms × Value)) (hs : a.eval s = v) (hx : a.eval x = u) (hv : RM w v ds) (hu : Sc w u es) (hb : (ds.length + es.length) * 120 ≤ 140737488355328) (n : Nat) (hn : n = ds.length + es.length)
    (h : ∀ ax cx w', RM w' (.slice ax n cx) (ds ++ es) → Mod (fun k => v.ownBlock = some k) w w' → Fr w v (.slice ax n cx) → wpList Try.prog ops Q rest (a.put o.dst (.slice ax n cx)) w') : wpList Try.prog ops Q (o :: rest) a w := by
  refine wpList_plain hgd fun K hK => ?_
  obtain ⟨ax, cx, w', hrun, h1, h2, h3⟩ := run_appM w v u ds es hv hu hb n hn o.type
  unfold Oper.wp execOp
  simp only [ho, resolve, invoke, builtin, Sem.run_bind, Sem.run_pure, Result.andThen_ok, List.map_toArray, List.map_cons, List.map_nil, hs, hx, hrun]
  exact hK _ _ (h ax cx w' h1 h2 h3)
theorem step_appM {ops : Array Oper} {o : Oper} {a : Act} {w : World} {K : Act → World → Prop} {Q : Exit → Act → World → Prop} {E : Prop} (hgd : o.guard = none) (s x : Operand) (ho : o.op = .call { callee := .builtin .append, args := #[s, x], argTypes := #[43, 43] })
    (v u : Value) (ds es : List (Ms × Value)) (hs : a.eval s = v) (hx : a.eval x = u) (hv : RM w v ds) (hu : Sc w u es) (hb : (ds.length + es.length) * 120 ≤ 140737488355328) (n : Nat) (hn : n = ds.length + es.length)
    (h : ∀ ax cx w', RM w' (.slice ax n cx) (ds ++ es) → Mod (fun k => v.ownBlock = some k) w w' → Fr w v (.slice ax n cx) → K (a.put o.dst (.slice ax n cx)) w') :
    if Region.wanted o (yielded ops a.tmps) = true then Oper.wp Try.prog o a w K Q else E := by
  rw [if_pos (by simp [Region.wanted, hgd])]
  obtain ⟨ax, cx, w', hrun, h1, h2, h3⟩ := run_appM w v u ds es hv hu hb n hn o.type
  unfold Oper.wp execOp
  simp only [ho, resolve, invoke, builtin, Sem.run_bind, Sem.run_pure, Result.andThen_ok, List.map_toArray, List.map_cons, List.map_nil, hs, hx, hrun]
  exact h ax cx w' h1 h2 h3
theorem elemM : Try.prog.elem 43 = 39 := by kernel_rfl
theorem undM : Try.prog.underlying 43 = some (.slice (Try.prog.elem 43)) := by rw [elemM]; exact Try.underlying43
theorem sizeM (w : World) : (sizeOf 39).run Try.prog w = .ok 13 w := by
  obtain ⟨i, z, hi, hz, hs, hby, hzs⟩ := infoMs
  simp [sizeOf, typeInfo, hi, hs]
/-- The first one cut off. -/
theorem run_cutM (ao : Option Addr) (n cap : Nat) (w : World) (hk : 1 ≤ n) : (Instr.sliceAt 43 (.slice ao n cap) (some (.int .i64 1)) none none).run Try.prog w = .ok (.slice (if cap = 1 then ao else ao.map (·.add 13)) (n - 1) (cap - 1)) w := by
  rw [run_sliceAt_slice (h := undM), run_slice_l (ht := undM) (h0 := by omega) (h1 := by omega), elemM, sizeM]
  simp [Result.andThen, sliced]
theorem RM.tail {w : World} {ao : Option Addr} {cap : Nat} {d : Ms × Value} {ds : List (Ms × Value)} (h : RM w (.slice ao (ds.length + 1) cap) (d :: ds)) : RM w (.slice (if cap = 1 then ao else ao.map (·.add 13)) ds.length (cap - 1)) ds := by
  obtain ⟨ao', cap', e, h1, h2⟩ := h.form
  simp only [List.length_cons, Value.slice.injEq, true_and] at e
  obtain ⟨rfl, rfl⟩ := e
  simp only [List.length_cons] at h1
  rcases h2 with ⟨rfl, rfl⟩ | ⟨g, off, cur, rfl, hB, hsz, hc⟩
  · omega
  · by_cases e1 : cap = 1
    · subst e1
      have e0 : ds = [] := List.eq_nil_of_length_eq_zero (by omega)
      subst e0
      exact ⟨⟨some ⟨g, off, none⟩, 0, rfl, by simp, .inr ⟨g, off, cur, rfl, hB, by omega, fun j c hj => by simp [fm] at hj⟩⟩⟩
    · rw [if_neg e1]
      refine ⟨⟨some ⟨g, off + 13, none⟩, cap - 1, by simp [Addr.add_mid], by omega, .inr ⟨g, off + 13, cur, rfl, hB, by omega, fun j c hj => ?_⟩⟩⟩
      have := hc (13 + j) c (by rw [fm, List.getElem?_append_right (by rw [mcl_len]; omega), mcl_len, show 13 + j - 13 = j by omega]; exact hj)
      rw [Nat.add_assoc]
      exact this
end Go.Proofs.Ythiijonmnebjgaa
