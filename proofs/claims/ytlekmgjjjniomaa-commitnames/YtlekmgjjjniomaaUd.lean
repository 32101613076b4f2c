/- Rows of entries in memory, of the call's own: append to them, with room or without. Conditions: sizes that a slice has. -/
import Derived.Test.YtlekmgjjjniomaaUb
import Derived.Deep.AppendSrc
import Derived.Lib.AppendZerosOnto
namespace Go.Proofs.Ytlekmgjjjniomaa
open Go.RowKit
/-- An entry's cells. -/
def ecl (e : Ey) : List Value := [.int .i64 e.nd, .int .i64 e.os, .int .i64 e.od, .int .i64 e.aru, .int .i64 e.high, .int .i64 e.ck]
theorem ecl_len (e : Ey) : (ecl e).length = 6 := rfl
theorem ecl_lt {e : Ey} {c : Value} {t : Nat} (h : (ecl e)[t]? = some c) : t < 6 := by
  rcases Nat.lt_or_ge t 6 with h' | h'
  · exact h'
  · rw [List.getElem?_eq_none (by exact h')] at h; cases h
/-- The cells of entries, one behind the other. -/
def fE : List Ey → List Value
  | [] => []
  | d :: r => ecl d ++ fE r
theorem fE_len : ∀ ds, (fE ds).length = ds.length * 6
  | [] => rfl
  | d :: r => by rw [fE, List.length_append, fE_len r, ecl_len, List.length_cons]; omega
theorem fE_app : ∀ a b, fE (a ++ b) = fE a ++ fE b
  | [], _ => rfl
  | d :: r, b => by rw [List.cons_append, fE, fE, fE_app r b, List.append_assoc]
theorem fE_get : ∀ (ds : List Ey) (i : Nat) (d : Ey), ds[i]? = some d → ∀ t c, (ecl d)[t]? = some c → (fE ds)[i * 6 + t]? = some c
  | [], i, d, h => by simp at h
  | x :: r, 0, d, h => fun t c hc => by
    simp at h
    subst h
    rw [fE, List.getElem?_append_left (by have := ecl_lt hc; rw [ecl_len]; omega)]
    simpa using hc
  | x :: r, i + 1, d, h => fun t c hc => by
    rw [fE, List.getElem?_append_right (by rw [ecl_len]; omega), ecl_len, show (i + 1) * 6 + t - 6 = i * 6 + t by omega]
    exact fE_get r i d (by simpa using h) t c hc
theorem fE_inv : ∀ (ds : List Ey) (j : Nat) (c : Value), (fE ds)[j]? = some c → ∃ i d t, ds[i]? = some d ∧ (ecl d)[t]? = some c ∧ j = i * 6 + t
  | [], j, c, h => by simp [fE] at h
  | x :: r, j, c, h => by
    rcases Nat.lt_or_ge j 6 with hj | hj
    · rw [fE, List.getElem?_append_left (by rw [ecl_len]; exact hj)] at h
      exact ⟨0, x, j, rfl, h, by omega⟩
    · rw [fE, List.getElem?_append_right (by rw [ecl_len]; exact hj), ecl_len] at h
      obtain ⟨i, d, t, h1, h2, h3⟩ := fE_inv r (j - 6) c h
      exact ⟨i + 1, d, t, by simpa using h1, h2, by omega⟩
theorem fE_one : ∀ (ds : List Ey), ∀ u ∈ fE ds, u.oneCell' = true
  | [] => fun u hu => by cases hu
  | d :: r => fun u hu => by
    rw [fE, List.mem_append] at hu
    rcases hu with hu | hu
    · simp only [ecl, List.mem_cons, List.not_mem_nil, or_false] at hu
      rcases hu with rfl | rfl | rfl | rfl | rfl | rfl
      all_goals rfl
    · exact fE_one r u hu
theorem SlE.cellj {w : World} {b off n cap : Nat} {l : List Ey} (h : SlE w (.slice (some ⟨b, off, none⟩) n cap) l) : ∀ j c, (fE l)[j]? = some c → w.cell? ⟨b, off + j, none⟩ = some c := by
  intro j c hj
  obtain ⟨i, d, t, h1, h2, rfl⟩ := fE_inv l j c hj
  obtain ⟨b', off', e, hc⟩ := h.at h1
  simp only [Option.some.injEq, Addr.mk.injEq, and_true] at e
  obtain ⟨rfl, rfl⟩ := e
  obtain ⟨c0, c1, c2, c3, c4, c5⟩ := hc w (Mod.refl _ w)
  have ht := ecl_lt h2
  rw [← Nat.add_assoc]
  match t, ht, h2 with
  | 0, _, h2 => simp [ecl] at h2; subst h2; exact c0
  | 1, _, h2 => simp [ecl] at h2; subst h2; exact c1
  | 2, _, h2 => simp [ecl] at h2; subst h2; exact c2
  | 3, _, h2 => simp [ecl] at h2; subst h2; exact c3
  | 4, _, h2 => simp [ecl] at h2; subst h2; exact c4
  | 5, _, h2 => simp [ecl] at h2; subst h2; exact c5
/-- A row of entries of the call's own. -/
structure RE (w : World) (v : Value) (ds : List Ey) : Prop where
  form : ∃ ao cap, v = .slice ao ds.length cap ∧ ds.length ≤ cap ∧ cap ≤ maxLen ∧ ((ao = none ∧ cap = 0) ∨ ∃ (g : Nat) (cur : Array Value), ao = some ⟨g, 0, none⟩ ∧ Bk w g 28 cur ∧ cap * 6 ≤ cur.size ∧ ∀ (j : Nat) (c : Value), (fE ds)[j]? = some c → cur[j]? = some c)
theorem RE.nil (w : World) : RE w (.slice none 0 0) [] := ⟨⟨none, 0, rfl, Nat.le_refl _, by simp [maxLen], .inl ⟨rfl, rfl⟩⟩⟩
theorem RE.shape {w : World} {v : Value} {ds : List Ey} (h : RE w v ds) : ∃ ao cap, v = .slice ao ds.length cap := by
  obtain ⟨ao, cap, e, _⟩ := h.form
  exact ⟨ao, cap, e⟩
theorem RE.mod {S : Nat → Prop} {w w' : World} {v : Value} {ds : List Ey} (h : RE w v ds) (hm : Mod S w w') (hv : ∀ g, v.ownBlock = some g → ¬ S g) : RE w' v ds := by
  obtain ⟨ao, cap, rfl, h1, h0, h2⟩ := h.form
  refine ⟨⟨ao, cap, rfl, h1, h0, ?_⟩⟩
  rcases h2 with h2 | ⟨g, cur, rfl, hB, hs, hc⟩
  · exact .inl h2
  · exact .inr ⟨g, cur, rfl, hB.mod hm (hv g rfl), hs, hc⟩
theorem RE.lt {w : World} {v : Value} {ds : List Ey} (h : RE w v ds) : ∀ g, v.ownBlock = some g → g < w.heap.size := by
  obtain ⟨ao, cap, rfl, h1, h0, h2⟩ := h.form
  intro g hg
  rcases h2 with ⟨rfl, _⟩ | ⟨g', cur, rfl, hB, _⟩
  · cases hg
  · simp only [Value.ownBlock, Option.some.injEq] at hg
    subst hg
    exact hB.lt
/-- It reads as entries. -/
theorem RE.sl {w : World} {v : Value} {ds : List Ey} (h : RE w v ds) : SlE w v ds := by
  obtain ⟨ao, cap, rfl, h1, h0, h2⟩ := h.form
  refine ⟨ao, cap, rfl, h1, h0, fun e => ?_, fun hne => ?_⟩
  · rcases h2 with ⟨_, rfl⟩ | ⟨g, cur, rfl, _⟩
    · rfl
    · cases e
  · rcases h2 with ⟨rfl, rfl⟩ | ⟨g, cur, rfl, hB, hs, hc⟩
    · exact absurd (List.eq_nil_of_length_eq_zero (by omega)) hne
    · refine ⟨g, 0, rfl, fun j e he => ?_⟩
      have q := fun t c (ht : (ecl e)[t]? = some c) => hB.cellv (hc _ _ (fE_get ds j e he t c ht))
      simp only [Nat.zero_add]
      exact ⟨q 0 _ rfl, q 1 _ rfl, q 2 _ rfl, q 3 _ rfl, q 4 _ rfl, q 5 _ rfl⟩
theorem infoEq : (Try.prog.info? 28).map (fun i => (i.zero, i.size, i.bytes)) = some (some (.agg #[.int .i64 0, .int .i64 0, .int .i64 0, .int .i64 0, .int .i64 0, .int .i64 0]), 6, 48) := by kernel_rfl
theorem infoEs : ∃ i z, Try.prog.info? 28 = some i ∧ i.zero = some z ∧ i.size = 6 ∧ i.bytes = 48 ∧ z.cells.size = 6 := by
  have h := infoEq
  cases hi : Try.prog.info? 28 with
  | none => rw [hi] at h; cases h
  | some i =>
    rw [hi] at h
    simp only [Option.map_some, Option.some.injEq, Prod.mk.injEq] at h
    exact ⟨i, _, rfl, h.1, h.2.1, h.2.2, rfl⟩
theorem SlE.src {w : World} {u : Value} {es : List Ey} (h : SlE w u es) {i : TypeInfo} (hs : i.size = 6) : Src Try.prog i.size 24 u es.length (fE es) w := by
  obtain ⟨ao, cap, rfl, h1, h2, h3, h4⟩ := h.form
  rw [hs]
  by_cases he : es = []
  · subst he
    cases ao with
    | none => exact Src.ofNil w Try.underlying24 cap
    | some a => exact Src.ofSlice w Try.underlying24 a 0 cap (fE []) (fE_len []) (fun j c hj => by simp [fE] at hj) (fE_one [])
  · obtain ⟨b, off, rfl, _⟩ := h4 he
    exact Src.ofSlice w Try.underlying24 ⟨b, off, none⟩ es.length cap (fE es) (fE_len es) (fun j c hj => by rw [Addr.add_mid]; exact h.cellj j c hj) (fE_one es)
/-- append of entries, with room or without. -/
theorem run_appE (w : World) (v u : Value) (ds es : List Ey) (hv : RE w v ds) (hu : SlE w u es) (hb : (ds.length + es.length) * 48 ≤ 140737488355328) (n : Nat) (hn : n = ds.length + es.length) (ty : TypeId) :
    ∃ ax cx w', (Builtin.append_ #[24, 24] ty #[v, u]).run Try.prog w = .ok (.slice ax n cx) w' ∧ RE w' (.slice ax n cx) (ds ++ es) ∧ Mod (fun k => v.ownBlock = some k) w w' ∧ Fr w v (.slice ax n cx) := by
  subst hn
  obtain ⟨i, z, hi, hz, hs, hby, hzs⟩ := infoEs
  have hsrc := hu.src hs
  obtain ⟨ao, cap, rfl, h1, h0, h2⟩ := hv.form
  have grow : cap < ds.length + es.length → (Builtin.firstCells i.size ds.length (.slice ao ds.length cap)).run Try.prog w.drew = .ok (fE ds).toArray w.drew → ∃ ax cx w', (Builtin.append_ #[24, 24] ty #[.slice ao ds.length cap, u]).run Try.prog w = .ok (.slice ax (ds.length + es.length) cx) w' ∧ RE w' (.slice ax (ds.length + es.length) cx) (ds ++ es) ∧ Mod (fun k => (Value.slice ao ds.length cap).ownBlock = some k) w w' ∧ Fr w (.slice ao ds.length cap) (.slice ax (ds.length + es.length) cx) := fun hg hold => by
    have hr := run_append_grow_src (P := Try.prog) w 24 24 ty 28 i z Try.underlying24 hi hz ao ds.length cap (fE ds) hold u es.length (fE es) hsrc hg (by omega) (growslice_fits hg (by rw [hby]; exact hb))
    have hge := grownCap_ge w (ds.length + es.length) cap 28
    have hle := grownCap_le_maxLen w (ds.length + es.length) cap 28 (by unfold maxLen; omega)
    refine ⟨_, _, _, hr, ⟨⟨_, _, by rw [List.length_append], by rw [List.length_append]; exact hge, hle, .inr ⟨w.heap.size, _, rfl, ⟨heap_alloc_new w.drew _⟩, ?_, fun j c hj => ?_⟩⟩⟩, ((Mod.refl _ w).drew).alloc _, fun g hg => ?_⟩
    · simp only [Array.size_append, List.size_toArray, List.length_append, fE_len, size_zeroCells, hzs]
      omega
    · rw [fE_app] at hj
      rw [Array.getElem?_append_left (by
        rcases Nat.lt_or_ge j (fE ds ++ fE es).length with h | h
        · simpa using h
        · rw [List.getElem?_eq_none h] at hj; cases hj)]
      simpa using hj
    · simp only [Value.ownBlock, Option.some.injEq] at hg
      subst hg
      exact .inr (Nat.le_refl _)
  rcases h2 with ⟨rfl, rfl⟩ | ⟨g, cur, rfl, hB, hsz, hc⟩
  · have e0 : ds = [] := List.eq_nil_of_length_eq_zero (by omega)
    subst e0
    by_cases he : es = []
    · subst he
      obtain ⟨ao, cu, rfl, _, _⟩ := hu.form
      refine ⟨none, 0, w, ?_, RE.nil w, Mod.refl _ w, Fr.refl _ _⟩
      have := hsrc.cells
      rcases hsrc.kind with ⟨e', hk⟩ | hk <;> simp [Builtin.append_, run_underlying Try.underlying24, sizeOf, typeInfo, hi, Builtin.lenOf]
      all_goals
        rw [hs] at this
        cases ao <;> simp [hs, Builtin.firstCells, loadCells, loadCellsFrom]
    · refine grow (by have := List.length_pos_iff.2 he; simpa using this) ?_
      exact run_firstCells_none w.drew i.size 0 0 0
  · by_cases hroom : ds.length + es.length ≤ cap
    · have hth : ∀ j, j < (fE es).length → 0 + ds.length * i.size + j < cur.size := fun j hj => by
        rw [fE_len] at hj
        rw [hs]
        omega
      have hr := run_append_room_src (P := Try.prog) w 24 24 ty 28 i Try.underlying24 hi g 0 ds.length cap u es.length (fE es) hsrc hroom
        (fun j hj => by rw [hB.cell, Array.getElem?_eq_getElem (hth j hj)]; rfl) (fun j hj => hB.frz _)
      rw [hs] at hr hth
      have hB' := Bk.stores (fE es) (0 + ds.length * 6) hB
      refine ⟨_, _, _, hr, ⟨⟨_, cap, by rw [List.length_append], by rw [List.length_append]; exact hroom, h0, .inr ⟨g, _, rfl, hB', by rw [sets'_size]; exact hsz, fun j c hj => ?_⟩⟩⟩, (setCells_mod g (fE es) _ w).mono (fun k _ hk => by subst hk; rfl), Fr.refl _ _⟩
      rw [sets'_get _ _ _ _ (by rw [fE_len]; omega)]
      rw [fE_app] at hj
      by_cases hj1 : j < (fE ds).length
      · rw [List.getElem?_append_left hj1] at hj
        rw [fE_len] at hj1
        rw [if_neg (by omega)]
        exact hc j c hj
      · rw [List.getElem?_append_right (by omega)] at hj
        have hj2 : j - (fE ds).length < (fE es).length := by
          rcases Nat.lt_or_ge (j - (fE ds).length) (fE es).length with h | h
          · exact h
          · rw [List.getElem?_eq_none h] at hj; cases hj
        rw [fE_len] at hj1 hj hj2
        rw [if_pos (by omega), show j - (0 + ds.length * 6) = j - ds.length * 6 by omega]
        exact hj
    · refine grow (by omega) (run_firstCells_some w.drew i.size ds.length ⟨g, 0, none⟩ ds.length cap (fE ds) (by rw [hs, fE_len]) fun j c hj => ?_)
      have := hB.cell j
      rw [hc j c hj] at this
      rw [Addr.add_mid]
      simpa using this
theorem wpList_appE {ops : Array Oper} {rest : List Oper} {o : Oper} {a : Act} {w : World} {Q : Exit → Act → World → Prop} (hgd : o.guard = none) (s x : Operand) (ho : o.op = .call { callee := .builtin .append, args := #[s, x], argTypes := #[24, 24] })
    (v u : Value) (ds es : List Ey) (hs : a.eval s = v) (hx : a.eval x = u) (hv : RE w v ds) (hu : SlE w u es) (hb : (ds.length + es.length) * 48 ≤ 140737488355328) (n : Nat) (hn : n = ds.length + es.length)
    (h : ∀ ax cx w', RE w' (.slice ax n cx) (ds ++ es) → Mod (fun k => v.ownBlock = some k) w w' → Fr w v (.slice ax n cx) → wpList Try.prog ops Q rest (a.put o.dst (.slice ax n cx)) w') : wpList Try.prog ops Q (o :: rest) a w := by
  refine wpList_plain hgd fun K hK => ?_
  obtain ⟨ax, cx, w', hrun, h1, h2, h3⟩ := run_appE w v u ds es hv hu hb n hn o.type
  unfold Oper.wp execOp
  simp only [ho, resolve, invoke, builtin, Sem.run_bind, Sem.run_pure, Result.andThen_ok, List.map_toArray, List.map_cons, List.map_nil, hs, hx, hrun]
  exact hK _ _ (h ax cx w' h1 h2 h3)
theorem infoEz : ∃ i, Try.prog.info? 28 = some i ∧ i.zero = some (.agg #[.int .i64 0, .int .i64 0, .int .i64 0, .int .i64 0, .int .i64 0, .int .i64 0]) ∧ i.size = 6 ∧ i.bytes = 48 := by
  have h := infoEq
  cases hi : Try.prog.info? 28 with
  | none => rw [hi] at h; cases h
  | some i =>
    rw [hi] at h
    simp only [Option.map_some, Option.some.injEq, Prod.mk.injEq] at h
    exact ⟨i, rfl, h.1, h.2.1, h.2.2⟩
/-- Grow of none. -/
theorem grow_zero (w : World) : Calls Try.prog 64 #[.slice none 0 0, .int .i64 0] w fun e w' => e = .returned (.slice none 0 0) ∧ w' = w := by
  go_enter Try.func64, Try.ntmps64
  go_wp2
  go_ret
  exact ⟨rfl, rfl⟩
set_option maxHeartbeats 4000000 in
set_option maxRecDepth 100000 in
theorem grow_some (n : Nat) (w : World) (hn : 0 < n) (hb : n * 48 ≤ 140737488355328) : Calls Try.prog 64 #[.slice none 0 0, .int .i64 (n : Int)] w fun e w' => ∃ v, e = .returned v ∧ RE w' v [] ∧ Mod (fun _ => False) w w' ∧ (∀ g, v.ownBlock = some g → w.heap.size ≤ g) := by
  obtain ⟨i, hi, hz, hs, hby⟩ := infoEz
  have hni : ¬ ((n : Int) ≤ 0) := by omega
  have hn0 : (0 : Int) < n := by omega
  have hold := run_firstCells_none (P := Try.prog) w.drew i.size 0 0 0
  have hrz := fun ty => Lib.run_append_grow_zeros (P := Try.prog) w 24 3 ty 28 i _ .i64 .i64 Try.underlying24 Try.underlying3 hi hz none 0 0 [] hold n hn (by omega) (by omega) (by simp; omega) (by rw [hby]; omega) (by rw [Nat.zero_add]; exact growslice_fits (by simpa using hn) (by rw [hby]; exact hb))
  have hle := grownCap_le_maxLen w (0 + n) 0 28 (by unfold maxLen; omega)
  have hge := grownCap_ge w (0 + n) 0 28
  generalize grownCap w (0 + n) 0 28 = G at *
  have hG : Hid (0 + n ≤ G) := hge
  have hL : Hid (G ≤ maxLen) := hle
  have hG63 : G ≤ 9223372036854775807 := by unfold maxLen at hle; omega
  clear hge hle
  go_enter Try.func64, Try.ntmps64
  go_wp2_with (at_builtin; refine Lib.wpList_append_run _ rfl _ _ _ _ rfl _ _ rfl rfl _ _ (hrz _) ?_)
  all_goals
    go_ret
    refine ⟨_, rfl, ⟨⟨_, _, rfl, Nat.zero_le _, hL.out, .inr ⟨w.heap.size, _, rfl, ⟨heap_alloc_new w.drew _⟩, ?_, fun j c hj => by simp [fE] at hj⟩⟩⟩, ((Mod.refl _ w).drew).alloc _, fun g hg => ?_⟩
    · have := hG.out
      simp only [Array.size_append, List.size_toArray, List.length_nil, size_zeroCells, List.length_cons]
      omega
    · cases hg
      exact Nat.le_refl _
end Go.Proofs.Ytlekmgjjjniomaa
