/- Rows of elements of any one size in memory: how they read, append to them, cut them. Conditions: sizes that a slice has. -/
import Derived.Test.YtampdkbcijdpcaaWi
import Derived.Deep.AppendSrc
namespace Go.Proofs.Ytampdkbcijdpcaa
open Go.RowKit
/-- What is known of an element's type. -/
structure El (t et : TypeId) (sz by' : Nat) : Prop where
  und : Try.prog.underlying t = some (.slice et)
  info : ∃ i z, Try.prog.info? et = some i ∧ i.zero = some z ∧ i.size = sz ∧ i.bytes = by' ∧ z.cells.size = sz
/-- A row of n elements of the call's own, maybe cut at its front. -/
structure RG (w : World) (et : TypeId) (sz : Nat) (v : Value) (n : Nat) (cs : List Value) : Prop where
  len : cs.length = n * sz
  form : ∃ ao cap, v = .slice ao n cap ∧ n ≤ cap ∧ ((ao = none ∧ cap = 0) ∨ ∃ g off cur, ao = some ⟨g, off, none⟩ ∧ Bk w g et cur ∧ off + cap * sz ≤ cur.size ∧ ∀ j c, cs[j]? = some c → cur[off + j]? = some c)
theorem RG.nil (w : World) (et : TypeId) (sz : Nat) : RG w et sz (.slice none 0 0) 0 [] := ⟨by simp, ⟨none, 0, rfl, Nat.le_refl _, .inl ⟨rfl, rfl⟩⟩⟩
theorem RG.shape {w : World} {et : TypeId} {sz : Nat} {v : Value} {n : Nat} {cs : List Value} (h : RG w et sz v n cs) : ∃ ao cap, v = .slice ao n cap := by
  obtain ⟨ao, cap, e, _⟩ := h.form
  exact ⟨ao, cap, e⟩
theorem RG.mod {S : Nat → Prop} {w w' : World} {et : TypeId} {sz : Nat} {v : Value} {n : Nat} {cs : List Value} (h : RG w et sz v n cs) (hm : Mod S w w') (hv : ∀ g, v.ownBlock = some g → ¬ S g) : RG w' et sz v n cs := by
  obtain ⟨ao, cap, rfl, h1, h2⟩ := h.form
  refine ⟨h.len, ⟨ao, cap, rfl, h1, ?_⟩⟩
  rcases h2 with h2 | ⟨g, off, cur, rfl, hB, hs, hc⟩
  · exact .inl h2
  · exact .inr ⟨g, off, cur, rfl, hB.mod hm (hv g rfl), hs, hc⟩
theorem RG.kind {w : World} {et : TypeId} {sz : Nat} {v : Value} {n : Nat} {cs : List Value} (h : RG w et sz v n cs) {g : Nat} (hg : v.ownBlock = some g) : ∃ cur, w.heap[g]? = some (.cells cur et (0, 0)) := by
  obtain ⟨ao, cap, rfl, h1, h2⟩ := h.form
  rcases h2 with ⟨rfl, _⟩ | ⟨g', off, cur, rfl, hB, _⟩
  · cases hg
  · simp only [Value.ownBlock, Option.some.injEq] at hg
    subst hg
    exact ⟨cur, hB.at'⟩
theorem RG.lt {w : World} {et : TypeId} {sz : Nat} {v : Value} {n : Nat} {cs : List Value} (h : RG w et sz v n cs) : ∀ g, v.ownBlock = some g → g < w.heap.size := fun g hg => by
  obtain ⟨cur, hc⟩ := h.kind hg
  exact lt_of_block hc
/-- Where its elements lie. -/
theorem RG.range {w : World} {et : TypeId} {sz : Nat} {v : Value} {n : Nat} {cs : List Value} (h : RG w et sz v n cs) (hn : 0 < n) : ∃ g off cap, v = .slice (some ⟨g, off, none⟩) n cap ∧ w.rangeAt g off cs := by
  obtain ⟨ao, cap, rfl, h1, h2⟩ := h.form
  rcases h2 with ⟨rfl, rfl⟩ | ⟨g, off, cur, rfl, hB, hs, hc⟩
  · omega
  · exact ⟨g, off, cap, rfl, hB.range _ _ hc⟩
/-- What is appended: m elements. -/
structure SG (w : World) (sz : Nat) (u : Value) (m : Nat) (ns : List Value) : Prop where
  len : ns.length = m * sz
  form : ∃ ao cap, u = .slice ao m cap ∧ (ao = none → m = 0) ∧ ∀ a, ao = some a → ∀ j c, ns[j]? = some c → w.cell? (a.add j) = some c
  one : ∀ c ∈ ns, c.oneCell' = true
theorem SG.of {w : World} {et : TypeId} {sz : Nat} {u : Value} {m : Nat} {ns : List Value} (h : RG w et sz u m ns) (h1 : ∀ c ∈ ns, c.oneCell' = true) : SG w sz u m ns := by
  obtain ⟨ao, cap, rfl, h2, h3⟩ := h.form
  refine ⟨h.len, ⟨ao, cap, rfl, fun e => ?_, fun a ha j c hj => ?_⟩, h1⟩
  · rcases h3 with ⟨_, rfl⟩ | ⟨g, off, cur, rfl, _⟩
    · omega
    · cases e
  · rcases h3 with ⟨rfl, _⟩ | ⟨g, off, cur, rfl, hB, _, hc⟩
    · cases ha
    · simp only [Option.some.injEq] at ha
      subst ha
      rw [Addr.add_mid, hB.cell]
      exact hc j c hj
/-- One element, in a block that was just laid. -/
theorem SG.lit (w : World) (et : TypeId) (ns : List Value) (h : ∀ c ∈ ns, c.oneCell' = true) : SG (w.alloc (.cells ns.toArray et)) ns.length (.slice (some ⟨w.heap.size, 0, none⟩) 1 1) 1 ns := by
  refine ⟨by omega, ⟨some ⟨w.heap.size, 0, none⟩, 1, rfl, fun e => absurd e (by simp), fun a ha j c hj => ?_⟩, h⟩
  simp only [Option.some.injEq] at ha
  subst ha
  rw [Addr.add_mid, (Bk.new w ns.toArray et).cell]
  simpa using hj
theorem SG.src {w : World} {t et : TypeId} {sz by' : Nat} {u : Value} {m : Nat} {ns : List Value} (h : SG w sz u m ns) (he : El t et sz by') {i : TypeInfo} (hs : i.size = sz) : Src Try.prog i.size t u m ns w := by
  obtain ⟨ao, cap, rfl, h1, h2⟩ := h.form
  have hl := h.len
  rw [hs]
  cases ao with
  | none =>
    obtain rfl := h1 rfl
    obtain rfl : ns = [] := List.eq_nil_of_length_eq_zero (by omega)
    exact Src.ofNil w he.und cap
  | some a => exact Src.ofSlice w he.und a m cap ns hl (h2 a rfl) h.one
/-- append of elements, with room or without. -/
theorem run_appG {t et : TypeId} {sz by' : Nat} (he : El t et sz by') (w : World) (v u : Value) (n m : Nat) (cs ns : List Value) (hv : RG w et sz v n cs) (hu : SG w sz u m ns) (hb : (n + m) * by' ≤ 140737488355328) (h63 : n + m ≤ 9223372036854775807) (ty : TypeId) :
    ∃ ax cx w', (Builtin.append_ #[t, t] ty #[v, u]).run Try.prog w = .ok (.slice ax (n + m) cx) w' ∧ RG w' et sz (.slice ax (n + m) cx) (n + m) (cs ++ ns) ∧ Mod (fun k => v.ownBlock = some k) w w' ∧ Fr w v (.slice ax (n + m) cx) := by
  obtain ⟨i, z, hi, hz, hs, hby, hzs⟩ := he.info
  have hsrc := hu.src he hs
  have hlv := hv.len
  have hlu := hu.len
  have hlen : (cs ++ ns).length = (n + m) * sz := by rw [List.length_append, hlv, hlu, Nat.add_mul]
  obtain ⟨ao, cap, rfl, h1, h2⟩ := hv.form
  have grow : cap < n + m → (Builtin.firstCells i.size n (.slice ao n cap)).run Try.prog w.drew = .ok cs.toArray w.drew → ∃ ax cx w', (Builtin.append_ #[t, t] ty #[.slice ao n cap, u]).run Try.prog w = .ok (.slice ax (n + m) cx) w' ∧ RG w' et sz (.slice ax (n + m) cx) (n + m) (cs ++ ns) ∧ Mod (fun k => (Value.slice ao n cap).ownBlock = some k) w w' ∧ Fr w (.slice ao n cap) (.slice ax (n + m) cx) := fun hg hold => by
    have hr := run_append_grow_src (P := Try.prog) w t t ty et i z he.und hi hz ao n cap cs hold u m ns hsrc hg (by omega) (growslice_fits hg (by rw [hby]; exact hb))
    have hge := grownCap_ge w (n + m) cap et
    refine ⟨_, _, _, hr, ⟨hlen, ⟨_, _, rfl, hge, .inr ⟨w.heap.size, 0, _, rfl, ⟨heap_alloc_new w.drew _⟩, ?_, fun j c hj => ?_⟩⟩⟩, ((Mod.refl _ w).drew).alloc _, fun g hg => ?_⟩
    · rw [Array.size_append, List.size_toArray, hlen, size_zeroCells, hzs, ← Nat.add_mul, Nat.add_sub_cancel' hge, Nat.zero_add]
      exact Nat.le_refl _
    · rw [Nat.zero_add, Array.getElem?_append_left (by
        rcases Nat.lt_or_ge j (cs ++ ns).length with h | h
        · simpa using h
        · rw [List.getElem?_eq_none h] at hj; cases hj)]
      simpa using hj
    · simp only [Value.ownBlock, Option.some.injEq] at hg
      subst hg
      exact .inr (Nat.le_refl _)
  rcases h2 with ⟨rfl, rfl⟩ | ⟨g, off, cur, rfl, hB, hsz', hc⟩
  · obtain rfl : n = 0 := by omega
    obtain rfl : cs = [] := List.eq_nil_of_length_eq_zero (by omega)
    by_cases hm0 : m = 0
    · subst hm0
      obtain rfl : ns = [] := List.eq_nil_of_length_eq_zero (by omega)
      obtain ⟨ao, cu, rfl, _, _⟩ := hu.form
      refine ⟨none, 0, w, ?_, RG.nil w et sz, Mod.refl _ w, Fr.refl _ _⟩
      cases ao <;> simp [Builtin.append_, run_underlying he.und, sizeOf, typeInfo, hi, Builtin.lenOf, Builtin.firstCells, loadCells, loadCellsFrom]
    · exact grow (by omega) (run_firstCells_none w.drew i.size 0 0 0)
  · by_cases hroom : n + m ≤ cap
    · have hmul : (n + m) * sz ≤ cap * sz := Nat.mul_le_mul_right _ hroom
      rw [Nat.add_mul] at hmul
      have hth : ∀ j, j < ns.length → off + n * i.size + j < cur.size := fun j hj => by
        rw [hs]
        omega
      have hr := run_append_room_src (P := Try.prog) w t t ty et i he.und hi g off n cap u m ns hsrc hroom
        (fun j hj => by rw [hB.cell, Array.getElem?_eq_getElem (hth j hj)]; rfl) (fun j hj => hB.frz _)
      rw [hs] at hr hth
      have hB' := Bk.stores ns (off + n * sz) hB
      refine ⟨_, _, _, hr, ⟨hlen, ⟨_, cap, rfl, hroom, .inr ⟨g, off, _, rfl, hB', by rw [sets'_size]; exact hsz', fun j c hj => ?_⟩⟩⟩, (setCells_mod g ns _ w).mono (fun k _ hk => by subst hk; rfl), Fr.refl _ _⟩
      rw [sets'_get _ _ _ _ (by omega)]
      by_cases hj1 : j < cs.length
      · rw [List.getElem?_append_left hj1] at hj
        rw [if_neg (by omega)]
        exact hc j c hj
      · rw [List.getElem?_append_right (by omega)] at hj
        have hj2 : j - cs.length < ns.length := by
          rcases Nat.lt_or_ge (j - cs.length) ns.length with h | h
          · exact h
          · rw [List.getElem?_eq_none h] at hj; cases hj
        rw [if_pos (by omega), show off + j - (off + n * sz) = j - cs.length by omega]
        exact hj
    · refine grow (by omega) (run_firstCells_some w.drew i.size n ⟨g, off, none⟩ n cap cs (by rw [hs]; exact hlv) fun j c hj => ?_)
      have := hB.cell (off + j)
      rw [hc j c hj] at this
      rw [Addr.add_mid]
      simpa using this
theorem wpList_appG {t et : TypeId} {sz by' : Nat} (he : El t et sz by') {ops : Array Oper} {rest : List Oper} {o : Oper} {a : Act} {w : World} {Q : Exit → Act → World → Prop} (hw : Region.wanted o (yielded ops a.tmps) = true) (s x : Operand) (ho : o.op = .call { callee := .builtin .append, args := #[s, x], argTypes := #[t, t] })
    (v u : Value) (n m : Nat) (cs ns : List Value) (hs : a.eval s = v) (hx : a.eval x = u) (hv : RG w et sz v n cs) (hu : SG w sz u m ns) (hb : (n + m) * by' ≤ 140737488355328) (h63 : n + m ≤ 9223372036854775807) (r : Nat) (hr : r = n + m)
    (h : ∀ ax cx w', RG w' et sz (.slice ax r cx) r (cs ++ ns) → Mod (fun k => v.ownBlock = some k) w w' → Fr w v (.slice ax r cx) → wpList Try.prog ops Q rest (a.put o.dst (.slice ax r cx)) w') : wpList Try.prog ops Q (o :: rest) a w := by
  subst hr
  refine wpList_step fun K hK => ?_
  rw [if_pos hw]
  obtain ⟨ax, cx, w', hrun, h1, h2, h3⟩ := run_appG he w v u n m cs ns hv hu hb h63 o.type
  unfold Oper.wp execOp
  simp only [ho, resolve, invoke, builtin, Sem.run_bind, Sem.run_pure, Result.andThen_ok, List.map_toArray, List.map_cons, List.map_nil, hs, hx, hrun]
  exact hK _ _ (h ax cx w' h1 h2 h3)
theorem step_appG {t et : TypeId} {sz by' : Nat} (he : El t et sz by') {ops : Array Oper} {o : Oper} {a : Act} {w : World} {K : Act → World → Prop} {Q : Exit → Act → World → Prop} {E : Prop} (hw : Region.wanted o (yielded ops a.tmps) = true) (s x : Operand) (ho : o.op = .call { callee := .builtin .append, args := #[s, x], argTypes := #[t, t] })
    (v u : Value) (n m : Nat) (cs ns : List Value) (hs : a.eval s = v) (hx : a.eval x = u) (hv : RG w et sz v n cs) (hu : SG w sz u m ns) (hb : (n + m) * by' ≤ 140737488355328) (h63 : n + m ≤ 9223372036854775807) (r : Nat) (hr : r = n + m)
    (h : ∀ ax cx w', RG w' et sz (.slice ax r cx) r (cs ++ ns) → Mod (fun k => v.ownBlock = some k) w w' → Fr w v (.slice ax r cx) → K (a.put o.dst (.slice ax r cx)) w') :
    if Region.wanted o (yielded ops a.tmps) = true then Oper.wp Try.prog o a w K Q else E := by
  subst hr
  rw [if_pos hw]
  obtain ⟨ax, cx, w', hrun, h1, h2, h3⟩ := run_appG he w v u n m cs ns hv hu hb h63 o.type
  unfold Oper.wp execOp
  simp only [ho, resolve, invoke, builtin, Sem.run_bind, Sem.run_pure, Result.andThen_ok, List.map_toArray, List.map_cons, List.map_nil, hs, hx, hrun]
  exact h ax cx w' h1 h2 h3
/-- The first one cut off. -/
theorem run_cutG {t et : TypeId} {sz by' : Nat} (he : El t et sz by') (hel : Try.prog.elem t = et) (ao : Option Addr) (n cap : Nat) (w : World) (hk : 1 ≤ n) : (Instr.sliceAt t (.slice ao n cap) (some (.int .i64 1)) none none).run Try.prog w = .ok (.slice (if cap = 1 then ao else ao.map (·.add sz)) (n - 1) (cap - 1)) w := by
  have hu : Try.prog.underlying t = some (.slice (Try.prog.elem t)) := by rw [hel]; exact he.und
  obtain ⟨i, z, hi, hz, hs, hby, hzs⟩ := he.info
  have hsz : (sizeOf et).run Try.prog w = .ok sz w := by simp [sizeOf, typeInfo, hi, hs]
  rw [run_sliceAt_slice (h := hu), run_slice_l (ht := hu) (h0 := by omega) (h1 := by omega), hel, hsz]
  simp [Result.andThen, sliced]
theorem exec_cutG {t et : TypeId} {sz by' : Nat} (he : El t et sz by') (hel : Try.prog.elem t = et) {oq : Oper} {w : World} {ρ : Operand → Value} {x : Operand} {ao an : Option Addr} {n cap : Nat} (h : (if cap = 1 then ao else ao.map (·.add sz)) = an) (hc : ρ (.const (.int .i64 1)) = .int .i64 1) (ho : oq.op = .slice t x (some (.const (.int .i64 1))) none none) (hx : ρ x = .slice ao (n + 1) cap) : (execOp ρ oq).run Try.prog w = .ok (.value (.slice an n (cap - 1))) w := by
  rw [← h]
  unfold execOp
  rw [ho]
  simp only [Option.map_some, Option.map_none, hx, hc]
  rw [Sem.run_bind, run_cutG he hel ao (n + 1) cap w (by omega)]
  rfl
theorem RG.tail {w : World} {et : TypeId} {sz : Nat} {ao an : Option Addr} {cap n : Nat} {ds cs : List Value} (hd : ds.length = sz) (h : RG w et sz (.slice ao (n + 1) cap) (n + 1) (ds ++ cs)) (han : (if cap = 1 then ao else ao.map (·.add sz)) = an) : RG w et sz (.slice an n (cap - 1)) n cs ∧ (∀ g, (Value.slice an n (cap - 1)).ownBlock = some g → (Value.slice ao (n + 1) cap).ownBlock = some g) := by
  have hl := h.len
  rw [List.length_append, hd, Nat.add_mul, Nat.one_mul] at hl
  obtain ⟨ao', cap', e, h1, h2⟩ := h.form
  simp only [Value.slice.injEq, true_and] at e
  obtain ⟨rfl, rfl⟩ := e
  rcases h2 with ⟨rfl, rfl⟩ | ⟨g, off, cur, rfl, hB, hsz, hc⟩
  · omega
  · by_cases e1 : cap = 1
    · rw [if_pos e1] at han
      subst han e1
      obtain rfl : n = 0 := by omega
      have hcs : cs = [] := List.eq_nil_of_length_eq_zero (by omega)
      subst hcs
      exact ⟨⟨by simp, ⟨some ⟨g, off, none⟩, 0, rfl, Nat.le_refl _, .inr ⟨g, off, cur, rfl, hB, by omega, fun j c hj => by simp at hj⟩⟩⟩, fun g hg => hg⟩
    · rw [if_neg e1] at han
      simp only [Option.map_some, Addr.add_mid] at han
      subst han
      have hmul : cap * sz = (cap - 1) * sz + sz := by
        obtain ⟨c, rfl⟩ : ∃ c, cap = c + 1 := ⟨cap - 1, by omega⟩
        rw [Nat.add_mul, Nat.one_mul, Nat.add_sub_cancel]
      refine ⟨⟨by omega, ⟨some ⟨g, off + sz, none⟩, cap - 1, rfl, by omega, .inr ⟨g, off + sz, cur, rfl, hB, by omega, fun j c hj => ?_⟩⟩⟩, fun g hg => hg⟩
      have := hc (sz + j) c (by rw [List.getElem?_append_right (by omega), hd, show sz + j - sz = j by omega]; exact hj)
      rw [Nat.add_assoc]
      exact this
end Go.Proofs.Ytampdkbcijdpcaa
