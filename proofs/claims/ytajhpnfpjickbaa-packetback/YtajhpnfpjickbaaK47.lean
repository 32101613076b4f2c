/- A part of a block stored as one step; a whole block loaded where a guard lets it. No conditions. Contracts of packet's coder that reads: a message into its place, data. Conditions: blocks apart; bytes of at most 2^47. -/
import Derived.Test.YtajhpnfpjickbaaK18
import Derived.Test.YtajhpnfpjickbaaK46
namespace Go.Proofs.Ytajhpnfpjickbaa
open Go.RowKit
theorem wpList_store_part {ops : Array Oper} {rest : List Oper} {op : Oper} {a : Act} {w : World} {Q : Exit → Act → World → Prop} {t : TypeId} {n : Nat} (hi : (Try.prog.info? t).map (·.size) = some n) (hgd : op.guard = none) (hdt : op.dst = none) (x y : Operand) (ho : op.op = .store t x y)
    (b o : Nat) (cells : Array Value) (hx : a.eval x = .pointer (some ⟨b, o, none⟩)) (hy : a.eval y = .agg cells) {t' : TypeId} {xs : Array Value} (hB : Bk w b t' xs) (hxs : o + n ≤ xs.size) (hcs : cells.size = n) (h1 : cells.toList.all (·.oneCell') = true)
    (ys : Array Value) (hys : sets' xs o cells.toList = ys)
    (h : ∀ w', Bk w' b t' ys → Mod (fun k => k = b) w w' → wpList Try.prog ops Q rest a w') : wpList Try.prog ops Q (op :: rest) a w :=
  wpList_store_mid (P := Try.prog) hgd t x y ho b o cells hx hy (hB.there (by omega)) (by rw [hi, hcs]) (by rw [← Array.all_toList]; exact h1) (by rw [hdt]; exact h _ (by rw [← hys]; exact hB.stores cells.toList o) (setCells_mod b cells.toList o w))
theorem wpList_load_rowg {ops : Array Oper} {rest : List Oper} {op : Oper} {a : Act} {w : World} {Q : Exit → Act → World → Prop} {t : TypeId} {n : Nat} {d : TypeDesc} (hi : (Try.prog.info? t).map (·.size) = some n) (hu : Try.prog.underlying t = some d) (hd : d.isRow = true) (hw : Region.wanted op (yielded ops a.tmps) = true) (x : Operand) (ho : op.op = .load t x)
    (b : Nat) (hx : a.eval x = .pointer (some ⟨b, 0, none⟩)) {t' : TypeId} {xs : Array Value} (hB : Bk w b t' xs) (hxs : xs.size = n)
    (h : wpList Try.prog ops Q rest (a.put op.dst (.agg xs)) w) : wpList Try.prog ops Q (op :: rest) a w := by
  refine wpList_step fun K hK => ?_
  rw [if_pos hw]
  refine wp_load_mid (P := Try.prog) t x ho b 0 hx xs.toList d hB.row hu hd (by rw [hi]; simp [hxs]) (hK _ _ ?_)
  simpa using h
theorem sets5 (x0 x1 x2 x3 x4 x5 x6 x7 x8 x9 x10 x11 x12 x13 x14 x15 x16 x17 y0 y1 y2 y3 y4 y5 y6 y7 y8 y9 y10 y11 y12 : Value) : sets' #[x0, x1, x2, x3, x4, x5, x6, x7, x8, x9, x10, x11, x12, x13, x14, x15, x16, x17] 5 (#[y0, y1, y2, y3, y4, y5, y6, y7, y8, y9, y10, y11, y12] : Array Value).toList = #[x0, x1, x2, x3, x4, y0, y1, y2, y3, y4, y5, y6, y7, y8, y9, y10, y11, y12] := by
  simp only [sets', List.setIfInBounds_toArray, List.set_cons_succ, List.set_cons_zero]
/-- A message stored into data. -/
theorem wpList_store_msg {ops : Array Oper} {rest : List Oper} {op : Oper} {a : Act} {w : World} {Q : Exit → Act → World → Prop} {t t' : TypeId} (hi : (Try.prog.info? t).map (·.size) = some 13) (hgd : op.guard = none) (hdt : op.dst = none) (x y : Operand) (ho : op.op = .store t x y)
    (b : Nat) (x0 x1 x2 x3 x4 x5 x6 x7 x8 x9 x10 x11 x12 x13 x14 x15 x16 x17 y0 y1 y2 y3 y4 y5 y6 y7 y8 y9 y10 y11 y12 : Value) (hx : a.eval x = .pointer (some ⟨b, 5, none⟩)) (hy : a.eval y = .agg #[y0, y1, y2, y3, y4, y5, y6, y7, y8, y9, y10, y11, y12]) (hB : Bk w b t' #[x0, x1, x2, x3, x4, x5, x6, x7, x8, x9, x10, x11, x12, x13, x14, x15, x16, x17]) (h1 : (#[y0, y1, y2, y3, y4, y5, y6, y7, y8, y9, y10, y11, y12] : Array Value).toList.all (·.oneCell') = true)
    (h : ∀ w', Bk w' b t' #[x0, x1, x2, x3, x4, y0, y1, y2, y3, y4, y5, y6, y7, y8, y9, y10, y11, y12] → Mod (fun k => k = b) w w' → wpList Try.prog ops Q rest a w') : wpList Try.prog ops Q (op :: rest) a w :=
  wpList_store_part hi hgd hdt x y ho b 5 #[y0, y1, y2, y3, y4, y5, y6, y7, y8, y9, y10, y11, y12] hx hy hB (Nat.le_refl 18) rfl h1 _ (sets5 x0 x1 x2 x3 x4 x5 x6 x7 x8 x9 x10 x11 x12 x13 x14 x15 x16 x17 y0 y1 y2 y3 y4 y5 y6 y7 y8 y9 y10 y11 y12) h
end Go.Proofs.Ytajhpnfpjickbaa
namespace Go.Proofs.Ytajhpnfpjickbaa
open Go.RowKit
theorem infoM : (Try.prog.info? 28).map (·.size) = some 13 := by kernel_rfl
/-- What is left when a message was read into the cells from off on. -/
def MPost (q pr b off : Nat) (t : TypeId) (xs : Array Value) (v : Value) (l : List Int) (w w' : World) : Prop := ∃ k o lf i p ps g s st rs rr sq bv v' l', Co w' q pr (rmE l) ∧ Rd w' pr v' l' ∧ (∀ g, v'.ownBlock = some g → v.ownBlock = some g) ∧ Bk w' b t (sets' xs off [.int .i64 k, .int .i64 o, .int .i64 lf, .int .i64 i, .int .i64 p, .int .i64 ps, .int .i64 g, .bool s, .int .i64 st, .int .i64 rs, .int .i64 rr, .int .i64 sq, bv]) ∧ Mod (fun k => k = pr ∨ k = q ∨ k = b) w w' ∧
  (rmE l = 0 → l' = orest l ∧ Ms.mk k o lf i p ps g s st rs rr sq (prM (obody l)).body = prM (obody l) ∧ Own w' bv (prM (obody l)).body ∧ (∀ g, bv.ownBlock = some g → w.heap.size ≤ g))
set_option maxRecDepth 100000 in
set_option maxHeartbeats 2000000 in
theorem message_r (q pr b off : Nat) (t : TypeId) (xs : Array Value) (v : Value) (l : List Int) (w : World) (h : Co w q pr 0) (hr : Rd w pr v l) (hB : Bk w b t xs) (hof : off + 13 ≤ xs.size) (hb : l.length ≤ 140737488355328) (hn : q ≠ pr ∧ b ≠ pr ∧ b ≠ q) (hv : ∀ g, v.ownBlock = some g → g < w.heap.size ∧ g ≠ q ∧ g ≠ b) :
    Calls Try.prog 128 #[.pointer (some ⟨q, 0, none⟩), .pointer (some ⟨b, off, none⟩)] w fun e w' => e = .returned (.tuple #[]) ∧ MPost q pr b off t xs v l w w' := by
  have c1 := h.c1
  have c2 := h.c2
  have hql := lt_of_block h.blk
  have hbl := hB.lt
  have HR := reads_r q pr 0 w h
  have HM := readMessage_r pr v l w hr hb (fun g hg => (hv g hg).1)
  unfold Rmq at HM
  generalize hE0 : rmE l = E at HM
  have HE : Hid (rmE l = E) := hE0
  clear hE0
  go_enter Try.func128, Try.ntmps128
  go_wp2_with (fail)
  refine HR.mono ?_
  rintro e w' ⟨rfl, rfl⟩
  go_wp2_with (fail)
  refine HM.mono ?_
  rintro e w1 ⟨k, o, lf, i, p, ps, g, s, st, rs, rr, sq, bv, rfl, hm1, ⟨v1, l1, hr1, ho1, hl1⟩, hok, hbad⟩
  obtain ⟨bao, bln, bcp, rfl⟩ : ∃ ao ln cp, bv = .slice ao ln cp := by
    by_cases h0 : E = 0
    · obtain ⟨ao, cp, e⟩ := (hok h0).2.1.shape
      exact ⟨ao, _, cp, e⟩
    · exact ⟨none, 0, 0, hbad h0⟩
  have h1 := h.mod hm1 (fun e => hn.1 e)
  have hB1 := hB.mod hm1 (fun e => hn.2.1 e)
  clear HR HM c1 c2 h hr hB
  go_wp2_with (refine wpList_store_part infoM rfl rfl _ _ rfl b off #[.int .i64 k, .int .i64 o, .int .i64 lf, .int .i64 i, .int .i64 p, .int .i64 ps, .int .i64 g, .bool s, .int .i64 st, .int .i64 rs, .int .i64 rr, .int .i64 sq, .slice bao bln bcp] rfl rfl hB1 hof rfl rfl _ rfl ?_; intro w2 hB2 hM2; have h2 := h1.mod hM2 (fun e => hn.2.2 e.symm); have a2 := h2.c2; have f2 := h2.frz 2)
  have hMq : Mod (fun k => k = q) w2 (w2.setCell ⟨q, 2, none⟩ (.int .i64 E)) := (Mod.refl _ _).setCell _ _ (.inl rfl)
  have R1 := h2.set E
  have R2 := (hr1.mod hM2 (fun e => hn.2.1 e.symm) (fun g hg e => by have := hv g (ho1 g hg); omega)).mod hMq (fun e => hn.1 e.symm) (fun g hg e => by have := hv g (ho1 g hg); omega)
  have R3 := hB2.mod hMq (fun e => hn.2.2 e)
  have R4 : Mod (fun k => k = pr ∨ k = q ∨ k = b) w' (w2.setCell ⟨q, 2, none⟩ (.int .i64 E)) := (hm1.trans hM2 (V := fun k => k = pr ∨ k = q ∨ k = b) (fun _ _ h => .inl h) (fun _ _ h => .inr (.inr h))).trans hMq (fun _ _ h => h) (fun _ _ h => .inr (.inl h))
  have R5 : E = 0 → l1 = orest l ∧ Ms.mk k o lf i p ps g s st rs rr sq (prM (obody l)).body = prM (obody l) ∧ Own (w2.setCell ⟨q, 2, none⟩ (.int .i64 E)) (.slice bao bln bcp) (prM (obody l)).body ∧ (∀ g, (Value.slice bao bln bcp).ownBlock = some g → w'.heap.size ≤ g) := fun h0 =>
    ⟨hl1 h0, (hok h0).1, ((hok h0).2.1.mod hM2 (fun g hg e => by have := (hok h0).2.2 g hg; omega)).mod hMq (fun g hg e => by have := (hok h0).2.2 g hg; omega), (hok h0).2.2⟩
  clear hok hbad hB1 hB2 hr1 h1
  go_wp2
  go_end0
  exact ⟨rfl, by unfold MPost; rw [HE.out]; exact ⟨k, o, lf, i, p, ps, g, s, st, rs, rr, sq, _, v1, l1, R1, R2, ho1, R3, R4, R5⟩⟩
theorem rdr_le : ∀ n l, (rdr n l).length ≤ l.length
  | 0, _ => Nat.le_refl _
  | n + 1, l => by
    unfold rdr
    split
    · exact Nat.le_trans (rdr_le n _) (by simp)
    · exact Nat.le_refl _
/-- What is wrong with data that are read. -/
def dE (l : List Int) : Int := if rde 5 l ≠ 0 then rde 5 l else rmE (rdr 5 l)
/-- What is left when data were read into the cells from off on. -/
def DPost (q pr b off : Nat) (t : TypeId) (xs : Array Value) (v : Value) (l : List Int) (w w' : World) : Prop := ∃ xs' v' l', Co w' q pr (dE l) ∧ Rd w' pr v' l' ∧ (∀ g, v'.ownBlock = some g → v.ownBlock = some g) ∧ Bk w' b t xs' ∧ Mod (fun k => k = pr ∨ k = q ∨ k = b) w w' ∧
  (dE l = 0 → l' = orest (rdr 5 l) ∧ xs'.size = xs.size ∧ (∀ k, (k < off ∨ off + 18 ≤ k) → xs'[k]? = xs[k]?) ∧ (∀ k, k < 5 → xs'[off + k]? = some (.int .i64 ((rdv 5 l).getD k 0))) ∧
    ∃ k o lf i p ps g s st rs rr sq bv, (∀ j, j < 13 → xs'[off + 5 + j]? = ([.int .i64 k, .int .i64 o, .int .i64 lf, .int .i64 i, .int .i64 p, .int .i64 ps, .int .i64 g, .bool s, .int .i64 st, .int .i64 rs, .int .i64 rr, .int .i64 sq, bv] : List Value)[j]?) ∧ Ms.mk k o lf i p ps g s st rs rr sq (prM (obody (rdr 5 l))).body = prM (obody (rdr 5 l)) ∧ Own w' bv (prM (obody (rdr 5 l))).body ∧ (∀ g, bv.ownBlock = some g → w.heap.size ≤ g))
set_option maxRecDepth 100000 in
set_option maxHeartbeats 2000000 in
theorem data_r (q pr b off : Nat) (t : TypeId) (xs : Array Value) (v : Value) (l : List Int) (w : World) (h : Co w q pr 0) (hr : Rd w pr v l) (hB : Bk w b t xs) (hof : off + 18 ≤ xs.size) (hx : ∀ k, k < 5 → ∃ x, xs[off + k]? = some (.int .i64 x)) (hb : l.length ≤ 140737488355328) (hn : q ≠ pr ∧ b ≠ pr ∧ b ≠ q) (hv : ∀ g, v.ownBlock = some g → g < w.heap.size ∧ g ≠ q ∧ g ≠ b) :
    Calls Try.prog 103 #[.pointer (some ⟨q, 0, none⟩), .pointer (some ⟨b, off, none⟩)] w fun e w' => e = .returned (.tuple #[]) ∧ DPost q pr b off t xs v l w w' := by
  have hv2 : v.ownBlock ≠ some q ∧ v.ownBlock ≠ some b := ⟨fun e => (hv q e).2.1 rfl, fun e => (hv b e).2.2 rfl⟩
  have h0 : Nst w q pr b t xs off 5 v l 0 xs v l [] 0 w := Nst.start h hr hB
  have H1 := ring_c w q pr b t xs off 5 v l 0 _ _ _ _ _ _ h0 (by omega) (by omega) hx hn hv2
  clear h hr hB h0
  go_enter Try.func103, Try.ntmps103
  go_wp2_with (fail)
  refine H1.mono ?_
  rintro e w1 ⟨rfl, xs1, v1, l1, d1, E1, h1⟩
  have hA : Mod (fun _ => False) w1 (w1.alloc (.cells #[.pointer (some ⟨b, off + 2, none⟩), .pointer (some ⟨b, off + 3, none⟩), .pointer (some ⟨b, off + 4, none⟩)] 131)).drew := ((Mod.refl _ w1).alloc _).drew
  have hC : (w1.alloc (.cells #[.pointer (some ⟨b, off + 2, none⟩), .pointer (some ⟨b, off + 3, none⟩), .pointer (some ⟨b, off + 4, none⟩)] 131)).drew.heap[w1.heap.size]? = some (.cells #[.pointer (some ⟨b, off + 2, none⟩), .pointer (some ⟨b, off + 3, none⟩), .pointer (some ⟨b, off + 4, none⟩)] 131 (0, 0)) := heap_alloc_new w1 (.cells #[.pointer (some ⟨b, off + 2, none⟩), .pointer (some ⟨b, off + 3, none⟩), .pointer (some ⟨b, off + 4, none⟩)] 131)
  have hN := h1.world hA
  have hz : q < w1.heap.size ∧ pr < w1.heap.size ∧ b < w1.heap.size := ⟨lt_of_block h1.co.blk, lt_of_block h1.rd.blk, h1.bk.lt⟩
  have HN := numbers_c 3 w1.heap.size 3 w q pr b t xs off 5 v l (0 + 2) _ _ _ _ _ _ hN (by omega) (by omega) hx hn hv2 (fun k hk => by
    unfold World.cell?
    dsimp only
    rw [hC]
    match k, hk with
    | 0, _ => rfl
    | 1, _ => rfl
    | 2, _ => rfl
    | k + 3, hk => omega) ⟨by omega, by omega, by omega⟩ (by omega)
  clear hC
  clear h1 hN hx H1
  go_wp2_with (fail)
  go_region_held3 (fun _ => True) (trivial) ((go_at_call 105; refine HN.mono ?_; rintro e w2 ⟨rfl, xs2, v2, l2, d2, E2, h2⟩))
  obtain ⟨dE', dR⟩ := Nst.done h2
  have hg2 : ∀ g, v2.ownBlock = some g → g < w2.heap.size ∧ g ≠ q ∧ g ≠ b := fun g hg => by
    have := hv g (h2.own g hg)
    have := h2.mod.size
    omega
  by_cases hE : E2 = 0
  · subst hE
    have hll : l2.length ≤ l.length := by rw [(dR rfl).1]; exact rdr_le 5 l
    have H3 := message_r q pr b (off + 5) t xs2 v2 l2 w2 h2.co h2.rd h2.bk (by rw [h2.size]; omega) (by omega) hn hg2
    obtain ⟨q1, q2⟩ := dR rfl
    have eD : dE l = rmE l2 := by rw [dE, if_neg (by simp [← dE']), q1]
    clear HN
    go_wp2_with (fail)
    refine H3.mono ?_
    rintro e w3 ⟨rfl, k, o, lf, i, p, ps, g, s, st, rs, rr, sq, bv, v3, l3, m1, m2, m3, m4, m5, m6⟩
    go_wp2
    go_end0
    refine ⟨rfl, _, v3, l3, by rw [eD]; exact m1, m2, fun g hg => h2.own g (m3 g hg), m4, h2.mod.trans m5 (fun _ _ h => h) (fun _ _ h => h), fun e0 => ?_⟩
    rw [eD] at e0
    obtain ⟨n1, n2, n3, n4⟩ := m6 e0
    have hsz : off + 5 + ([.int .i64 k, .int .i64 o, .int .i64 lf, .int .i64 i, .int .i64 p, .int .i64 ps, .int .i64 g, .bool s, .int .i64 st, .int .i64 rs, .int .i64 rr, .int .i64 sq, bv] : List Value).length ≤ xs2.size := by rw [h2.size]; simp; omega
    rw [← q1]
    refine ⟨n1, by rw [sets'_size, h2.size], fun k hk => ?_, fun k hk => ?_, k, o, lf, i, p, ps, g, s, st, rs, rr, sq, bv, fun j hj => ?_, n2, n3, fun g hg => by have := n4 g hg; have := h2.mod.size; omega⟩
    · rw [sets'_get _ _ _ _ hsz, if_neg (by simp; omega)]
      exact h2.out k (by omega)
    · rw [sets'_get _ _ _ _ hsz, if_neg (by simp; omega)]
      exact q2 k hk
    · rw [sets'_get _ _ _ _ hsz, if_pos (by simp; omega), Nat.add_sub_cancel_left]
  · have H3 := fun u => message_bad q pr E2 hE u w2 h2.co
    have eD : dE l = E2 := by rw [dE, if_pos (by rw [← dE']; exact hE), dE']
    clear HN
    go_wp2_with (fail)
    refine (H3 _).mono ?_
    rintro e w3 ⟨rfl, rfl⟩
    go_wp2
    go_end0
    exact ⟨rfl, _, v2, l2, by rw [eD]; exact h2.co, h2.rd, h2.own, h2.bk, h2.mod, fun e0 => absurd (eD ▸ e0) hE⟩
end Go.Proofs.Ytajhpnfpjickbaa
