/- Both windows side by side in memory, and bytes that may be spoilt. Conditions: sizes that a slice has. -/
import Derived.Test.YtejlcoakencdiaaYx
import Derived.Test.YtejlcoakencdiaaYy
import Derived.Test.YtejlcoakencdiaaYw
import Derived.Test.YtejlcoakencdiaaYu
import Derived.Test.YtejlcoakencdiaaYh
namespace Go.Proofs.Ytejlcoakencdiaa
open Go.RowKit
theorem wpList_load_atg {ops : Array Oper} {rest : List Oper} {op : Oper} {a : Act} {w : World} {Q : Exit → Act → World → Prop} {t : TypeId} {n : Nat} {d : TypeDesc} (hi : (Try.prog.info? t).map (·.size) = some n) (hu : Try.prog.underlying t = some d) (hd : d.isRow = true) (hw : Region.wanted op (yielded ops a.tmps) = true) (x : Operand) (ho : op.op = .load t x)
    (b o : Nat) (hx : a.eval x = .pointer (some ⟨b, o, none⟩)) (cs : List Value) (hr : w.rangeAt b o cs) (hl : cs.length = n)
    (h : wpList Try.prog ops Q rest (a.put op.dst (.agg cs.toArray)) w) : wpList Try.prog ops Q (op :: rest) a w := by
  refine wpList_step fun K hK => ?_
  rw [if_pos hw]
  exact wp_load_mid (P := Try.prog) t x ho b o hx cs d hr hu hd (by rw [hi, hl]) (hK _ _ h)
theorem wpList_load_rowg {ops : Array Oper} {rest : List Oper} {op : Oper} {a : Act} {w : World} {Q : Exit → Act → World → Prop} {t : TypeId} {n : Nat} {d : TypeDesc} (hi : (Try.prog.info? t).map (·.size) = some n) (hu : Try.prog.underlying t = some d) (hd : d.isRow = true) (hw : Region.wanted op (yielded ops a.tmps) = true) (x : Operand) (ho : op.op = .load t x)
    (b : Nat) (hx : a.eval x = .pointer (some ⟨b, 0, none⟩)) {t' : TypeId} {xs : Array Value} (hB : Bk w b t' xs) (hxs : xs.size = n)
    (h : wpList Try.prog ops Q rest (a.put op.dst (.agg xs)) w) : wpList Try.prog ops Q (op :: rest) a w := by
  refine wpList_step fun K hK => ?_
  rw [if_pos hw]
  refine wp_load_mid (P := Try.prog) t x ho b 0 hx xs.toList d hB.row hu hd (by rw [hi]; simp [hxs]) (hK _ _ ?_)
  simpa using h
theorem infoDo : (Try.prog.info? 37).map (·.size) = some 20 := by kernel_rfl
/-- A block of bytes that may be written. -/
def By (w : World) (g n : Nat) : Prop := ∃ cur, w.heap[g]? = some (.cells cur 5 (0, 0)) ∧ ∀ j, j < n → ∃ c, cur[j]? = some (.int .u8 c)
theorem By.cell {w : World} {g n : Nat} (h : By w g n) {j : Nat} (hj : j < n) : ∃ c, w.cell? ⟨g, j, none⟩ = some (.int .u8 c) ∧ w.frozen? ⟨g, j, none⟩ = false := by
  obtain ⟨cur, h1, h2⟩ := h
  obtain ⟨c, hc⟩ := h2 j hj
  exact ⟨c, by simp [World.cell?, h1, hc], by simp [World.frozen?, h1]⟩
theorem By.set {w : World} {g n : Nat} (h : By w g n) (j : Nat) (c : Int) : By (w.setCell ⟨g, j, none⟩ (.int .u8 c)) g n := by
  obtain ⟨cur, h1, h2⟩ := h
  refine ⟨cur.setIfInBounds j (.int .u8 c), by simp [World.setCell, Array.getElem?_modify, h1], fun t ht => ?_⟩
  obtain ⟨d, hd⟩ := h2 t ht
  rw [Array.getElem?_setIfInBounds]
  by_cases e : j = t
  · subst e
    rw [if_pos rfl]
    have : j < cur.size := by
      rcases Nat.lt_or_ge j cur.size with h | h
      · exact h
      · rw [Array.getElem?_eq_none h] at hd; cases hd
    rw [if_pos this]
    exact ⟨c, rfl⟩
  · rw [if_neg e]
    exact ⟨d, hd⟩
theorem By.mod {S : Nat → Prop} {w w' : World} {g n : Nat} (h : By w g n) (hm : Mod S w w') (hg : ¬ S g) : By w' g n := by
  obtain ⟨cur, h1, h2⟩ := h
  exact ⟨cur, hm.obj h1 hg, h2⟩
theorem By.ne {w : World} {g n b : Nat} {t : TypeId} {cur : Array Value} (h : By w g n) (hb : Bk w b t cur) (ht : t ≠ 5) : g ≠ b := fun e => by
  obtain ⟨c, h1, _⟩ := h
  rw [e, hb.at'] at h1
  simp at h1
  exact ht h1.2
theorem Own.by {w : World} {v : Value} {l : List Int} (h : Own w v l) {g : Nat} (hg : v.ownBlock = some g) : By w g l.length := by
  rcases h.2 with ⟨rfl, _⟩ | ⟨g', cap, cur, rfl, hb, hh, hn, hm, hs, ht⟩
  · simp [Value.ownBlock] at hg
  · simp only [Value.ownBlock, Option.some.injEq] at hg
    subst hg
    refine ⟨cur, hh, fun j hj => ⟨l.getD j 0, ?_⟩⟩
    have := World.ownsRow.cellAt h j (by simp; omega)
    have h2 := U_get l j hj
    rw [h2] at this
    simpa [World.cell?, hh] using this
/-- Data that may be spoilt. -/
structure Sd (w : World) (v : Value) (ds : List (Dt × Value)) : Prop where
  row : RG w 35 18 v ds.length (fd ds)
  each : ∀ d ∈ ds, ∃ ao cap, d.2 = .slice ao d.1.m.body.length cap ∧ d.1.m.body.length ≤ 9223372036854775807 ∧ (0 < d.1.m.body.length → ∃ b, ao = some ⟨b, 0, none⟩ ∧ By w b d.1.m.body.length)
theorem Rd18.sd {w : World} {b : Nat} {v : Value} {ds : List (Dt × Value)} (h : Rd18 w b v ds) : Sd w v ds := by
  refine ⟨h.row, fun d hd => ?_⟩
  obtain ⟨a1, _, _⟩ := h.each d hd
  rcases Nat.eq_zero_or_pos d.1.m.body.length with h0 | h0
  · obtain ⟨ao, cap, e⟩ := a1.shape
    exact ⟨ao, cap, e, by omega, fun hp => by omega⟩
  · obtain ⟨g, c, e, h1, h2⟩ := a1.form h0
    unfold maxLen at h2
    exact ⟨_, c, e, by omega, fun _ => ⟨g, rfl, a1.by (by rw [e]; rfl)⟩⟩
theorem Sd.setb {w : World} {v : Value} {ds : List (Dt × Value)} (h : Sd w v ds) {b n : Nat} (hb : By w b n) (k : Nat) (x : Int) : Sd (w.setCell ⟨b, k, none⟩ (.int .u8 x)) v ds := by
  have hm := (Mod.refl (fun z => z = b) w).setCell ⟨b, k, none⟩ (.int .u8 x) (.inl rfl)
  refine ⟨h.row.mod hm (fun g hg e => ?_), fun d hd => ?_⟩
  · obtain ⟨cur, hc⟩ := h.row.kind hg
    exact hb.ne (⟨hc⟩ : Bk w g 35 cur) (by decide) e.symm
  · obtain ⟨a, c, e, h1, hB⟩ := h.each d hd
    refine ⟨a, c, e, h1, fun hp => ?_⟩
    obtain ⟨b', rfl, hB'⟩ := hB hp
    refine ⟨b', rfl, ?_⟩
    by_cases eb : b' = b
    · subst eb
      exact hB'.set k x
    · exact hB'.mod hm eb
theorem Sd.drew {w : World} {v : Value} {ds : List (Dt × Value)} (h : Sd w v ds) : Sd w.drew v ds := by
  have hm := (Mod.refl (fun _ => False) w).drew
  refine ⟨h.row.mod hm (fun _ _ h => h), fun d hd => ?_⟩
  obtain ⟨a, c, e, h1, hB⟩ := h.each d hd
  refine ⟨a, c, e, h1, fun hp => ?_⟩
  obtain ⟨b', rfl, hB'⟩ := hB hp
  exact ⟨b', rfl, hB'.mod hm (fun h => h)⟩
/-- Which blocks are spoilt. -/
def Ss (ds : List (Dt × Value)) (b : Nat) : Prop := ∃ d ∈ ds, d.2.ownBlock = some b
/-- Both windows, side by side. -/
structure Pq (w wr : World) (p q : Nat) (J : Int → Option Dt) (L : List Dt) (X Y : Nat → Prop) (a hp hd : Int) (k m : Nat) : Prop where
  wn : Wn wr p X J a hp k
  dw : Dwn wr q Y L hd
  len : L.length ≤ m
  sep : ∀ i, X i → ¬ Y i
  xn : ∀ i, X i → w.heap.size ≤ i
  yn : ∀ i, Y i → w.heap.size ≤ i
  mod : Mod (fun _ => False) w wr
theorem Pq.by {w wr w' : World} {p q : Nat} {J : Int → Option Dt} {L : List Dt} {X Y : Nat → Prop} {a hp hd : Int} {k m : Nat} (h : Pq w wr p q J L X Y a hp hd k m) {S : Nat → Prop} (hm : Mod S wr w') (hX : ∀ i, X i → ¬ S i) (hY : ∀ i, Y i → ¬ S i) (hS : ∀ i, S i → w.heap.size ≤ i) : Pq w w' p q J L X Y a hp hd k m :=
  ⟨h.wn.mod hm hX, h.dw.mod hm hY, h.len, h.sep, h.xn, h.yn, h.mod.trans hm (fun _ _ h => h) (fun i hi hs => by have := hS i hs; omega)⟩
theorem Pq.keep {w wr w' : World} {p q : Nat} {J : Int → Option Dt} {L : List Dt} {X Y : Nat → Prop} {a hp hd : Int} {k m : Nat} (h : Pq w wr p q J L X Y a hp hd k m) (hm : Mod (fun _ => False) wr w') : Pq w w' p q J L X Y a hp hd k m := h.by hm (fun _ _ h => h) (fun _ _ h => h) (fun _ h => h.elim)
theorem Pq.xlt {w wr : World} {p q : Nat} {J : Int → Option Dt} {L : List Dt} {X Y : Nat → Prop} {a hp hd : Int} {k m : Nat} (h : Pq w wr p q J L X Y a hp hd k m) : ∀ i, X i → i < wr.heap.size := h.wn.mem.lt
theorem Pq.ylt {w wr : World} {p q : Nat} {J : Int → Option Dt} {L : List Dt} {X Y : Nat → Prop} {a hp hd : Int} {k m : Nat} (h : Pq w wr p q J L X Y a hp hd k m) : ∀ i, Y i → i < wr.heap.size := h.dw.lt
theorem pq_new (w : World) : Calls Try.prog 7 #[] w fun e w1 => ∃ p, e = .returned (.pointer (some ⟨p, 0, none⟩)) ∧ Calls Try.prog 8 #[] w1 fun e w2 => ∃ q X Y, e = .returned (.pointer (some ⟨q, 0, none⟩)) ∧ Pq w w2 p q (jl []) [] X Y 0 0 0 0 0 := by
  refine (wNew w).mono ?_
  rintro e w1 ⟨p, X, rfl, h1, h2, h3⟩
  refine ⟨p, rfl, (dNew w1).mono ?_⟩
  rintro e w2 ⟨q, Y, rfl, h4, h5, h6⟩
  refine ⟨q, X, Y, rfl, ⟨h1.keep h6, h4, Nat.le_refl _, fun i hx hy => ?_, h2, fun i hy => ?_, h3.and h6⟩⟩
  · have a1 := h1.mem.lt i hx
    have a2 := h5 i hy
    omega
  · have a2 := h5 i hy
    have a3 := h3.size
    omega
theorem pq_see {w wr : World} {p q : Nat} {J : Int → Option Dt} {L : List Dt} {X Y : Nat → Prop} {a hp hd : Int} {k m : Nat} (h : Pq w wr p q J L X Y a hp hd k m) (n : Int) : Calls Try.prog 9 #[.pointer (some ⟨p, 0, none⟩), .int .i64 n] wr fun e w' => e = .returned (.int .i64 (sE n)) ∧ Pq w w' p q J L X Y a (sH hp n) hd k m ∧ Mod X wr w' := by
  refine (See_w h.wn n).mono ?_
  rintro e w' ⟨rfl, h1, h2⟩
  exact ⟨rfl, ⟨h1, h.dw.mod h2 (fun i hy hx => h.sep i hx hy), h.len, h.sep, h.xn, h.yn, h.mod.trans h2 (fun _ _ h => h) (fun i hi hs => by have := h.xn i hs; omega)⟩, h2⟩
theorem pq_dsee {w wr : World} {p q : Nat} {J : Int → Option Dt} {L : List Dt} {X Y : Nat → Prop} {a hp hd : Int} {k m : Nat} (h : Pq w wr p q J L X Y a hp hd k m) (n : Int) : Calls Try.prog 10 #[.pointer (some ⟨q, 0, none⟩), .int .i64 n] wr fun e w' => e = .returned (.int .i64 (sE n)) ∧ Pq w w' p q J L X Y a hp (sH hd n) k m ∧ Mod Y wr w' := by
  refine (dSee h.dw n).mono ?_
  rintro e w' ⟨rfl, h1, h2⟩
  exact ⟨rfl, ⟨h.wn.mod h2 (fun i hx hy => h.sep i hx hy), h1, h.len, h.sep, h.xn, h.yn, h.mod.trans h2 (fun _ _ h => h) (fun i hi hs => by have := h.yn i hs; omega)⟩, h2⟩
theorem pq_put {w wr : World} {p q : Nat} {J : Int → Option Dt} {L : List Dt} {X Y : Nat → Prop} {a hp hd : Int} {k m : Nat} (h : Pq w wr p q J L X Y a hp hd k m) (hk : k < 1000) (d : Dt) (v : Value) (hs : Sl wr v d.m.body) (hb : d.m.body.length ≤ 140737488355328) :
    Calls Try.prog 12 #[.pointer (some ⟨p, 0, none⟩), dv d v] wr fun e w' => ∃ X' a', e = .returned (.tuple #[.bool (pF J d), .int .i64 (pE d)]) ∧ Pq w w' p q (pJ J d) L X' Y a' (pH J hp d) hd (k + 1) m ∧ Mod X wr w' ∧ Gone wr X X' := by
  refine (Put_any h.wn d v hs hb (by omega)).mono ?_
  rintro e w' ⟨X', a', rfl, h1, h2, h3, h4⟩
  refine ⟨X', a', rfl, ⟨h1, h.dw.mod h3 (fun i hy hx => h.sep i hx hy), h.len, fun i hx hy => ?_, fun i hx => ?_, h.yn, h.mod.trans h3 (fun _ _ h => h) (fun i hi hs => by have := h.xn i hs; omega)⟩, h3, h4⟩
  · have := h.dw.lt i hy
    rcases h4 i hx with hx | hx
    · exact h.sep i hx hy
    · omega
  · have := h.mod.size
    rcases h4 i hx with hx | hx
    · exact h.xn i hx
    · omega
theorem pL_len (L : List Dt) (d : Dt) : (pL L d).length ≤ L.length + 1 := by
  unfold pL
  split <;> simp
theorem pq_dput {w wr : World} {p q : Nat} {J : Int → Option Dt} {L : List Dt} {X Y : Nat → Prop} {a hp hd : Int} {k m : Nat} (h : Pq w wr p q J L X Y a hp hd k m) (hm : m < 1000) (d : Dt) (v : Value) (hs : Sl wr v d.m.body) (hb : d.m.body.length ≤ 140737488355328) :
    Calls Try.prog 13 #[.pointer (some ⟨q, 0, none⟩), dv d v] wr fun e w' => ∃ Y', e = .returned (.tuple #[.bool (pF (jl L) d), .int .i64 (pE d)]) ∧ Pq w w' p q J (pL L d) X Y' a hp (pH (jl L) hd d) k (m + 1) ∧ Mod Y wr w' ∧ Gone wr Y Y' := by
  refine (dPut_any h.dw (by have := h.len; omega) d v hs hb).mono ?_
  rintro e w' ⟨Y', rfl, h1, h3, h4⟩
  refine ⟨Y', rfl, ⟨h.wn.mod h3 (fun i hx hy => h.sep i hx hy), h1, by have := h.len; have := pL_len L d; omega, fun i hx hy => ?_, h.xn, fun i hy => ?_, h.mod.trans h3 (fun _ _ h => h) (fun i hi hs => by have := h.yn i hs; omega)⟩, h3, h4⟩
  · have := h.wn.mem.lt i hx
    rcases h4 i hy with hy | hy
    · exact h.sep i hx hy
    · omega
  · have := h.mod.size
    rcases h4 i hy with hy | hy
    · exact h.yn i hy
    · omega
/-- Bytes of data in a block, being spoilt. -/
structure Sw (w7 wy : World) (S : Nat → Prop) (bi : Nat) (xs : Array Value) (a3 : Option Addr) (ln : Nat) : Prop where
  md : Mod S w7 wy
  by' : 0 < ln → ∃ g, a3 = some ⟨g, 0, none⟩ ∧ By wy g ln ∧ S g
  bk : Bk wy bi 35 xs
theorem Sw.set {w7 wy : World} {S : Nat → Prop} {bi : Nat} {xs : Array Value} {g ln : Nat} (h : Sw w7 wy S bi xs (some ⟨g, 0, none⟩) ln) (hn : 0 < ln) (j : Nat) (x : Int) : Sw w7 (wy.drew.setCell ⟨g, j, none⟩ (.int .u8 x)) S bi xs (some ⟨g, 0, none⟩) ln := by
  obtain ⟨g', e, h1, h2⟩ := h.by' hn
  cases e
  have hd := (Mod.refl (fun _ => False) wy).drew
  exact ⟨h.md.drew.setCell _ _ (.inl h2), fun _ => ⟨g, rfl, (h1.mod hd (fun h => h)).set j x, h2⟩, (h.bk.mod hd (fun h => h)).other _ _ (h1.ne h.bk (by decide))⟩
theorem Sd.at {w : World} {ao : Option Addr} {cap : Nat} {ds : List (Dt × Value)} (h : Sd w (.slice ao ds.length cap) ds) {j : Nat} {x : Dt × Value} (hx : ds[j]? = some x) : ∃ g off, ao = some ⟨g, off, none⟩ ∧ w.cell? ⟨g, off + j * 18 + 17, none⟩ = some x.2 := by
  have hj : 0 < ds.length := by
    rcases Nat.eq_zero_or_pos ds.length with h0 | h0
    · rw [List.eq_nil_of_length_eq_zero h0] at hx; simp at hx
    · exact h0
  obtain ⟨g, off, c, e, hr⟩ := h.row.range hj
  cases e
  refine ⟨g, off, rfl, ?_⟩
  have := hr (j * 18 + 17) _ (fd_get ds j x hx 17 x.2 rfl)
  rwa [← Nat.add_assoc] at this
/-- What holds at a round's start. -/
structure Rs (w wr : World) (p q k : Nat) : Prop where
  ex : ∃ L X Y a h, Pq w wr p q (jl L) L X Y a h h k k ∧ Dis L
theorem Rs.mono {w wr : World} {p q k k' : Nat} (h : Rs w wr p q k) (hk : k ≤ k') : Rs w wr p q k' := by
  obtain ⟨L, X, Y, a, hh, h1, h2⟩ := h.ex
  obtain ⟨B, V, N, b1, b2, b3, b4, b5⟩ := h1.wn.mem.blk
  exact ⟨L, X, Y, a, hh, ⟨⟨⟨⟨B, V, N, b1, b2, by omega, b4, b5⟩, h1.wn.mem.px, h1.wn.mem.lt⟩, h1.wn.wp⟩, h1.dw, by have := h1.len; omega, h1.sep, h1.xn, h1.yn, h1.mod⟩, h2⟩
/-- What holds behind a call. -/
structure R9 (w wx : World) (p q k bx : Nat) (e : Bool × Int × Dt × Value) : Prop where
  rs : Rs w wx p q k
  bk : Bk wx bx 37 (ocl e).toArray
  nw : w.heap.size ≤ bx
end Go.Proofs.Ytejlcoakencdiaa
