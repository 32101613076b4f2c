/- Contract of packet's coder where it writes a packet, kind by kind. Conditions: what may be written. -/
import Derived.Test.YtajhpnfpjickbaaK36
namespace Go.Proofs.Ytajhpnfpjickbaa
open Go.RowKit
set_option maxRecDepth 100000 in
set_option maxHeartbeats 2000000 in
theorem packet_w1 (q pw : Nat) (v : Value) (L : List Int) (pb : Nat) (to : Nat) (dq dr ds dn dt k o lf i p ps g : Int) (s : Bool) (st rs rr sq : Int) (ao : Option Addr) (cap : Nat) (l : List Int) (w : World) (hc : Cw w q pw) (h : Wr w pw v L) (hq : q ≠ pw ∧ v.ownBlock ≠ some q) (hr : pb ≠ pw ∧ v.ownBlock ≠ some pb) (hto : to ≤ 9007199254740991) (hb : L.length + 900 ≤ 140737488355328) (hs : Sl w (.slice ao l.length cap) l) (hsv : l ≠ [] → ∀ g, (Value.slice ao l.length cap).ownBlock = some g → g ≠ pw ∧ v.ownBlock ≠ some g) (hk : chk ⟨k, o, lf, i, p, ps, g, s, st, rs, rr, sq, l⟩ = 0) (hv : Nums [dq, dr, ds, dn, dt]) (c0 : w.cell? ⟨pb, 0, none⟩ = some (.int .i64 1)) (c1 : w.cell? ⟨pb, 1, none⟩ = some (.int .i64 (to : Int))) (c2 : w.cell? ⟨pb, 2, none⟩ = some (.int .i64 dq)) (c3 : w.cell? ⟨pb, 3, none⟩ = some (.int .i64 dr)) (c4 : w.cell? ⟨pb, 4, none⟩ = some (.int .i64 ds)) (c5 : w.cell? ⟨pb, 5, none⟩ = some (.int .i64 dn)) (c6 : w.cell? ⟨pb, 6, none⟩ = some (.int .i64 dt)) (c7 : w.cell? ⟨pb, 7, none⟩ = some (.int .i64 k)) (c8 : w.cell? ⟨pb, 8, none⟩ = some (.int .i64 o)) (c9 : w.cell? ⟨pb, 9, none⟩ = some (.int .i64 lf)) (c10 : w.cell? ⟨pb, 10, none⟩ = some (.int .i64 i)) (c11 : w.cell? ⟨pb, 11, none⟩ = some (.int .i64 p)) (c12 : w.cell? ⟨pb, 12, none⟩ = some (.int .i64 ps)) (c13 : w.cell? ⟨pb, 13, none⟩ = some (.int .i64 g)) (c14 : w.cell? ⟨pb, 14, none⟩ = some (.bool s)) (c15 : w.cell? ⟨pb, 15, none⟩ = some (.int .i64 st)) (c16 : w.cell? ⟨pb, 16, none⟩ = some (.int .i64 rs)) (c17 : w.cell? ⟨pb, 17, none⟩ = some (.int .i64 rr)) (c18 : w.cell? ⟨pb, 18, none⟩ = some (.int .i64 sq)) (c19 : w.cell? ⟨pb, 19, none⟩ = some (.slice ao l.length cap)) :
    Calls Try.prog 73 #[.pointer (some ⟨q, 0, none⟩), .pointer (some ⟨pb, 0, none⟩)] w fun e w' => e = .returned (.tuple #[]) ∧ ∃ v', Wr w' pw v' (L ++ (packs [1] ++ (packs [(to : Int)] ++ (packs [dq, dr, ds, dn, dt] ++ (enc (pk ⟨k, o, lf, i, p, ps, g, s, st, rs, rr, sq, l⟩).length ++ pk ⟨k, o, lf, i, p, ps, g, s, st, rs, rr, sq, l⟩))))) ∧ Mod (fun k => k = pw ∨ v.ownBlock = some k) w w' ∧ Fr w v v' := by
  have hql : q < w.heap.size := lt_of_block hc.blk
  have hel : pb < w.heap.size := World.block_lt_of_cell? w _ c0
  have S1 : ¬ (q = pw ∨ v.ownBlock = some q) := fun h => h.elim hq.1 hq.2
  have S2 : ¬ (pb = pw ∨ v.ownBlock = some pb) := fun h => h.elim hr.1 hr.2
  have p0 : packs [1] = enc 1 := by simp [packs]
  have p1 : packs [(to : Int)] = enc to := by simp [packs]
  rw [p0, p1]
  have l0 := enc_len 1
  have l1 := enc_len to
  have H1 := number_w q pw v L pb 0 1 w hc h c0 (by omega) (by omega) hq hr
  have HK := isKind_any 1
  rw [show decide ((1 : Int) ≤ 1 ∧ (1 : Int) ≤ 5) = true from by decide] at HK
  clear p0 p1
  go_enter Try.func73, Try.ntmps73
  go_wp2_with (fail)
  refine H1.mono ?_
  rintro e w1 ⟨rfl, v1, hw1, hm1, hf1⟩
  have k1 := hm1.cell c0 S2
  go_wp2_with (fail)
  refine (HK _).mono ?_
  rintro e w2 ⟨rfl, hk2⟩
  have hm2 : Mod (fun k => k = pw ∨ v.ownBlock = some k) w w2 := hm1.trans hk2 (fun _ _ h => h) (fun _ _ h => h.elim)
  have hw2 := hw1.mod hk2 (fun h => h) (fun _ _ h => h)
  have H2 := number_w q pw v1 _ pb 1 to w2 (hc.mod hm2 S1) hw2 (hm2.cell c1 S2) hto (by rw [List.length_append]; omega) ⟨hq.1, hf1.keep hq.2 hql⟩ ⟨hr.1, hf1.keep hr.2 hel⟩
  clear k1
  go_wp2_with (fail)
  refine H2.mono ?_
  rintro e w3 ⟨rfl, v3, hw3, hm3', hf3'⟩
  have hf3 : Fr w v v3 := fun g hg => by
    rcases hf3' g hg with h' | h'
    · exact hf1 g h'
    · exact .inr (by have := hm2.size; omega)
  have hM : Mod (fun k => k = pw ∨ v.ownBlock = some k) w w3 := hm2.trans hm3' (fun _ _ h => h) (by
    rintro i hi (h' | h')
    · exact .inl h'
    · rcases hf1 i h' with h'' | h''
      · exact .inr h''
      · omega)
  have k0 := hM.cell c0 S2
  have hc3 := hc.mod hM S1
  have hlen : ((L ++ enc 1) ++ enc to).length + 700 ≤ 140737488355328 := by simp only [List.length_append]; omega
  have hs3 : Sl w3 (.slice ao l.length cap) l := hs.mod2 hM (fun hl g hg h => h.elim (hsv hl g hg).1 (hsv hl g hg).2)
  have H3 := data_w q pw v3 _ pb 2 dq dr ds dn dt k o lf i p ps g s st rs rr sq ao cap l w3 hc3 hw3 ⟨hq.1, hf3.keep hq.2 hql⟩ ⟨hr.1, hf3.keep hr.2 hel⟩ hs3 (fun hl g hg => ⟨(hsv hl g hg).1, hf3.keep (hsv hl g hg).2 (hs.lt hl g hg)⟩) hk hv (hM.cell c2 S2) (hM.cell c3 S2) (hM.cell c4 S2) (hM.cell c5 S2) (hM.cell c6 S2) (hM.cell c7 S2) (hM.cell c8 S2) (hM.cell c9 S2) (hM.cell c10 S2) (hM.cell c11 S2) (hM.cell c12 S2) (hM.cell c13 S2) (hM.cell c14 S2) (hM.cell c15 S2) (hM.cell c16 S2) (hM.cell c17 S2) (hM.cell c18 S2) (hM.cell c19 S2) (by omega)
  go_wp2_with (fail)
  refine H3.mono ?_
  rintro e w4 ⟨rfl, v4, hw4, hm4, hf4⟩
  go_wp2
  go_end0
  exact ⟨rfl, v4, by simpa [List.append_assoc] using hw4, hM.wr hf3 hm4, hf3.trans hf4 hM.size⟩
set_option maxRecDepth 100000 in
set_option maxHeartbeats 2000000 in
theorem packet_w2 (q pw : Nat) (v : Value) (L : List Int) (pb : Nat) (to : Nat) (tq tr th tsq ta tl tst ti : Int) (tao : Option Addr) (tcap : Nat) (tk : List Int) (w : World) (hc : Cw w q pw) (h : Wr w pw v L) (hq : q ≠ pw ∧ v.ownBlock ≠ some q) (hr : pb ≠ pw ∧ v.ownBlock ≠ some pb) (hto : to ≤ 9007199254740991) (hb : L.length + 900 ≤ 140737488355328) (hs : Cr.Sl w (.slice tao tk.length tcap) tk) (hsv : tk ≠ [] → ∀ g, (Value.slice tao tk.length tcap).ownBlock = some g → g ≠ pw ∧ v.ownBlock ≠ some g) (hv : Nums [tq, tr, th, tsq, ta, tl, tst, ti]) (hx : Nums tk) (hn : tk.length ≤ 16) (c0 : w.cell? ⟨pb, 0, none⟩ = some (.int .i64 2)) (c1 : w.cell? ⟨pb, 1, none⟩ = some (.int .i64 (to : Int))) (c20 : w.cell? ⟨pb, 20, none⟩ = some (.int .i64 tq)) (c21 : w.cell? ⟨pb, 21, none⟩ = some (.int .i64 tr)) (c22 : w.cell? ⟨pb, 22, none⟩ = some (.int .i64 th)) (c23 : w.cell? ⟨pb, 23, none⟩ = some (.int .i64 tsq)) (c24 : w.cell? ⟨pb, 24, none⟩ = some (.int .i64 ta)) (c25 : w.cell? ⟨pb, 25, none⟩ = some (.int .i64 tl)) (c26 : w.cell? ⟨pb, 26, none⟩ = some (.int .i64 tst)) (c27 : w.cell? ⟨pb, 27, none⟩ = some (.int .i64 ti)) (c28 : w.cell? ⟨pb, 28, none⟩ = some (.slice tao tk.length tcap)) :
    Calls Try.prog 73 #[.pointer (some ⟨q, 0, none⟩), .pointer (some ⟨pb, 0, none⟩)] w fun e w' => e = .returned (.tuple #[]) ∧ ∃ v', Wr w' pw v' (L ++ (packs [2] ++ (packs [(to : Int)] ++ (packs [tq, tr, th, tsq, ta, tl, tst, ti] ++ (packs [(tk.length : Int)] ++ packs tk))))) ∧ Mod (fun k => k = pw ∨ v.ownBlock = some k) w w' ∧ Fr w v v' := by
  have hql : q < w.heap.size := lt_of_block hc.blk
  have hel : pb < w.heap.size := World.block_lt_of_cell? w _ c0
  have S1 : ¬ (q = pw ∨ v.ownBlock = some q) := fun h => h.elim hq.1 hq.2
  have S2 : ¬ (pb = pw ∨ v.ownBlock = some pb) := fun h => h.elim hr.1 hr.2
  have p0 : packs [2] = enc 2 := by simp [packs]
  have p1 : packs [(to : Int)] = enc to := by simp [packs]
  rw [p0, p1]
  have l0 := enc_len 2
  have l1 := enc_len to
  have H1 := number_w q pw v L pb 0 2 w hc h c0 (by omega) (by omega) hq hr
  have HK := isKind_any 2
  rw [show decide ((1 : Int) ≤ 2 ∧ (2 : Int) ≤ 5) = true from by decide] at HK
  clear p0 p1
  go_enter Try.func73, Try.ntmps73
  go_wp2_with (fail)
  refine H1.mono ?_
  rintro e w1 ⟨rfl, v1, hw1, hm1, hf1⟩
  have k1 := hm1.cell c0 S2
  go_wp2_with (fail)
  refine (HK _).mono ?_
  rintro e w2 ⟨rfl, hk2⟩
  have hm2 : Mod (fun k => k = pw ∨ v.ownBlock = some k) w w2 := hm1.trans hk2 (fun _ _ h => h) (fun _ _ h => h.elim)
  have hw2 := hw1.mod hk2 (fun h => h) (fun _ _ h => h)
  have H2 := number_w q pw v1 _ pb 1 to w2 (hc.mod hm2 S1) hw2 (hm2.cell c1 S2) hto (by rw [List.length_append]; omega) ⟨hq.1, hf1.keep hq.2 hql⟩ ⟨hr.1, hf1.keep hr.2 hel⟩
  clear k1
  go_wp2_with (fail)
  refine H2.mono ?_
  rintro e w3 ⟨rfl, v3, hw3, hm3', hf3'⟩
  have hf3 : Fr w v v3 := fun g hg => by
    rcases hf3' g hg with h' | h'
    · exact hf1 g h'
    · exact .inr (by have := hm2.size; omega)
  have hM : Mod (fun k => k = pw ∨ v.ownBlock = some k) w w3 := hm2.trans hm3' (fun _ _ h => h) (by
    rintro i hi (h' | h')
    · exact .inl h'
    · rcases hf1 i h' with h'' | h''
      · exact .inr h''
      · omega)
  have k0 := hM.cell c0 S2
  have hc3 := hc.mod hM S1
  have hlen : ((L ++ enc 2) ++ enc to).length + 700 ≤ 140737488355328 := by simp only [List.length_append]; omega
  have hs3 := hs.mod2 hM (fun hl g hg h => h.elim (hsv hl g hg).1 (hsv hl g hg).2)
  have H3 := token_w q pw v3 _ pb 20 tq tr th tsq ta tl tst ti tao tcap tk w3 hc3 hw3 ⟨hq.1, hf3.keep hq.2 hql⟩ ⟨hr.1, hf3.keep hr.2 hel⟩ hv hx hn (hM.cell c20 S2) (hM.cell c21 S2) (hM.cell c22 S2) (hM.cell c23 S2) (hM.cell c24 S2) (hM.cell c25 S2) (hM.cell c26 S2) (hM.cell c27 S2) (hM.cell c28 S2) hs3 (fun hl g hg => ⟨(hsv hl g hg).1, hf3.keep (hsv hl g hg).2 (hs.lt hl g hg)⟩) (by omega)
  go_wp2_with (fail)
  refine H3.mono ?_
  rintro e w4 ⟨rfl, v4, hw4, hm4, hf4⟩
  go_wp2
  go_end0
  exact ⟨rfl, v4, by simpa [List.append_assoc] using hw4, hM.wr hf3 hm4, hf3.trans hf4 hM.size⟩
set_option maxRecDepth 100000 in
set_option maxHeartbeats 2000000 in
theorem packet_w3 (q pw : Nat) (v : Value) (L : List Int) (pb : Nat) (to : Nat) (js jp jc : Int) (w : World) (hc : Cw w q pw) (h : Wr w pw v L) (hq : q ≠ pw ∧ v.ownBlock ≠ some q) (hr : pb ≠ pw ∧ v.ownBlock ≠ some pb) (hto : to ≤ 9007199254740991) (hb : L.length + 900 ≤ 140737488355328) (hv : Nums [js, jp, jc]) (c0 : w.cell? ⟨pb, 0, none⟩ = some (.int .i64 3)) (c1 : w.cell? ⟨pb, 1, none⟩ = some (.int .i64 (to : Int))) (c29 : w.cell? ⟨pb, 29, none⟩ = some (.int .i64 js)) (c30 : w.cell? ⟨pb, 30, none⟩ = some (.int .i64 jp)) (c31 : w.cell? ⟨pb, 31, none⟩ = some (.int .i64 jc)) :
    Calls Try.prog 73 #[.pointer (some ⟨q, 0, none⟩), .pointer (some ⟨pb, 0, none⟩)] w fun e w' => e = .returned (.tuple #[]) ∧ ∃ v', Wr w' pw v' (L ++ (packs [3] ++ (packs [(to : Int)] ++ packs [js, jp, jc]))) ∧ Mod (fun k => k = pw ∨ v.ownBlock = some k) w w' ∧ Fr w v v' := by
  have hql : q < w.heap.size := lt_of_block hc.blk
  have hel : pb < w.heap.size := World.block_lt_of_cell? w _ c0
  have S1 : ¬ (q = pw ∨ v.ownBlock = some q) := fun h => h.elim hq.1 hq.2
  have S2 : ¬ (pb = pw ∨ v.ownBlock = some pb) := fun h => h.elim hr.1 hr.2
  have p0 : packs [3] = enc 3 := by simp [packs]
  have p1 : packs [(to : Int)] = enc to := by simp [packs]
  rw [p0, p1]
  have l0 := enc_len 3
  have l1 := enc_len to
  have H1 := number_w q pw v L pb 0 3 w hc h c0 (by omega) (by omega) hq hr
  have HK := isKind_any 3
  rw [show decide ((1 : Int) ≤ 3 ∧ (3 : Int) ≤ 5) = true from by decide] at HK
  clear p0 p1
  go_enter Try.func73, Try.ntmps73
  go_wp2_with (fail)
  refine H1.mono ?_
  rintro e w1 ⟨rfl, v1, hw1, hm1, hf1⟩
  have k1 := hm1.cell c0 S2
  go_wp2_with (fail)
  refine (HK _).mono ?_
  rintro e w2 ⟨rfl, hk2⟩
  have hm2 : Mod (fun k => k = pw ∨ v.ownBlock = some k) w w2 := hm1.trans hk2 (fun _ _ h => h) (fun _ _ h => h.elim)
  have hw2 := hw1.mod hk2 (fun h => h) (fun _ _ h => h)
  have H2 := number_w q pw v1 _ pb 1 to w2 (hc.mod hm2 S1) hw2 (hm2.cell c1 S2) hto (by rw [List.length_append]; omega) ⟨hq.1, hf1.keep hq.2 hql⟩ ⟨hr.1, hf1.keep hr.2 hel⟩
  clear k1
  go_wp2_with (fail)
  refine H2.mono ?_
  rintro e w3 ⟨rfl, v3, hw3, hm3', hf3'⟩
  have hf3 : Fr w v v3 := fun g hg => by
    rcases hf3' g hg with h' | h'
    · exact hf1 g h'
    · exact .inr (by have := hm2.size; omega)
  have hM : Mod (fun k => k = pw ∨ v.ownBlock = some k) w w3 := hm2.trans hm3' (fun _ _ h => h) (by
    rintro i hi (h' | h')
    · exact .inl h'
    · rcases hf1 i h' with h'' | h''
      · exact .inr h''
      · omega)
  have k0 := hM.cell c0 S2
  have hc3 := hc.mod hM S1
  have hlen : ((L ++ enc 3) ++ enc to).length + 700 ≤ 140737488355328 := by simp only [List.length_append]; omega
  have hA : Mod (fun _ => False) w3 (w3.alloc (.cells #[.pointer (some ⟨pb, 29, none⟩), .pointer (some ⟨pb, 30, none⟩), .pointer (some ⟨pb, 31, none⟩)] 131)).drew := ((Mod.refl _ w3).alloc _).drew
  have hPB : PB (w3.alloc (.cells #[.pointer (some ⟨pb, 29, none⟩), .pointer (some ⟨pb, 30, none⟩), .pointer (some ⟨pb, 31, none⟩)] 131)).drew w3.heap.size [(pb, 29), (pb, 30), (pb, 31)] := PB.of (t := 131) (heap_alloc_new w3 (.cells #[.pointer (some ⟨pb, 29, none⟩), .pointer (some ⟨pb, 30, none⟩), .pointer (some ⟨pb, 31, none⟩)] 131))
  have hpw3 : pw < w3.heap.size := lt_of_block hw3.blk
  have HN := numbers_w q pw v3 _ [js, jp, jc] [(pb, 29), (pb, 30), (pb, 31)] w3.heap.size 3 _ (hc3.mod hA (fun h => h)) (hw3.mod hA (fun h => h) (fun _ _ h => h)) hv rfl hPB ⟨by omega, fun e => by have := hw3.own.lt _ e; omega⟩ ⟨hq.1, hf3.keep hq.2 hql⟩ (fun j a ha => by
    match j, ha with
    | 0, ha => simp at ha; subst ha; exact ⟨hA.cell (hM.cell c29 S2) (fun h => h), hr.1, hf3.keep hr.2 hel⟩
    | 1, ha => simp at ha; subst ha; exact ⟨hA.cell (hM.cell c30 S2) (fun h => h), hr.1, hf3.keep hr.2 hel⟩
    | 2, ha => simp at ha; subst ha; exact ⟨hA.cell (hM.cell c31 S2) (fun h => h), hr.1, hf3.keep hr.2 hel⟩
    | n + 3, ha => simp at ha) (by simp only [List.length_cons, List.length_nil]; omega) (by simp)
  clear hPB
  go_wp2_with (fail)
  go_region_held3 (fun _ => True) (trivial) ((go_at_call 105; refine HN.mono ?_; rintro e w4 ⟨rfl, v4, hw4, hm4', hf4'⟩))
  have hm4 := hA.trans hm4' (V := fun k => k = pw ∨ v3.ownBlock = some k) (fun _ _ h => h.elim) (fun _ _ h => h)
  have hf4 : Fr w3 v3 v4 := fun g hg => (hf4' g hg).imp id (fun h => by have := hA.size; omega)
  go_wp2
  go_end0
  exact ⟨rfl, v4, by simpa [List.append_assoc] using hw4, hM.wr hf3 hm4, hf3.trans hf4 hM.size⟩
set_option maxRecDepth 100000 in
set_option maxHeartbeats 2000000 in
theorem packet_w4 (q pw : Nat) (v : Value) (L : List Int) (pb : Nat) (to : Nat) (cq cr_ cm ch_ : Int) (cao : Option Addr) (ccap : Nat) (ce : List Ey) (w : World) (hc : Cw w q pw) (h : Wr w pw v L) (hq : q ≠ pw ∧ v.ownBlock ≠ some q) (hr : pb ≠ pw ∧ v.ownBlock ≠ some pb) (hto : to ≤ 9007199254740991) (hb : L.length + 900 ≤ 140737488355328) (hs : SlE w (.slice cao ce.length ccap) ce) (hsv : ce ≠ [] → ∀ g, (Value.slice cao ce.length ccap).ownBlock = some g → g ≠ pw ∧ v.ownBlock ≠ some g) (hv : Nums [cq, cr_, cm, ch_]) (hx : ∀ e ∈ ce, Nums e.ns) (hn : ce.length ≤ 8) (c0 : w.cell? ⟨pb, 0, none⟩ = some (.int .i64 4)) (c1 : w.cell? ⟨pb, 1, none⟩ = some (.int .i64 (to : Int))) (c32 : w.cell? ⟨pb, 32, none⟩ = some (.int .i64 cq)) (c33 : w.cell? ⟨pb, 33, none⟩ = some (.int .i64 cr_)) (c34 : w.cell? ⟨pb, 34, none⟩ = some (.int .i64 cm)) (c35 : w.cell? ⟨pb, 35, none⟩ = some (.int .i64 ch_)) (c36 : w.cell? ⟨pb, 36, none⟩ = some (.slice cao ce.length ccap)) :
    Calls Try.prog 73 #[.pointer (some ⟨q, 0, none⟩), .pointer (some ⟨pb, 0, none⟩)] w fun e w' => e = .returned (.tuple #[]) ∧ ∃ v', Wr w' pw v' (L ++ (packs [4] ++ (packs [(to : Int)] ++ (packs [cq, cr_, cm, ch_] ++ (packs [(ce.length : Int)] ++ packs (eys ce)))))) ∧ Mod (fun k => k = pw ∨ v.ownBlock = some k) w w' ∧ Fr w v v' := by
  have hql : q < w.heap.size := lt_of_block hc.blk
  have hel : pb < w.heap.size := World.block_lt_of_cell? w _ c0
  have S1 : ¬ (q = pw ∨ v.ownBlock = some q) := fun h => h.elim hq.1 hq.2
  have S2 : ¬ (pb = pw ∨ v.ownBlock = some pb) := fun h => h.elim hr.1 hr.2
  have p0 : packs [4] = enc 4 := by simp [packs]
  have p1 : packs [(to : Int)] = enc to := by simp [packs]
  rw [p0, p1]
  have l0 := enc_len 4
  have l1 := enc_len to
  have H1 := number_w q pw v L pb 0 4 w hc h c0 (by omega) (by omega) hq hr
  have HK := isKind_any 4
  rw [show decide ((1 : Int) ≤ 4 ∧ (4 : Int) ≤ 5) = true from by decide] at HK
  clear p0 p1
  go_enter Try.func73, Try.ntmps73
  go_wp2_with (fail)
  refine H1.mono ?_
  rintro e w1 ⟨rfl, v1, hw1, hm1, hf1⟩
  have k1 := hm1.cell c0 S2
  go_wp2_with (fail)
  refine (HK _).mono ?_
  rintro e w2 ⟨rfl, hk2⟩
  have hm2 : Mod (fun k => k = pw ∨ v.ownBlock = some k) w w2 := hm1.trans hk2 (fun _ _ h => h) (fun _ _ h => h.elim)
  have hw2 := hw1.mod hk2 (fun h => h) (fun _ _ h => h)
  have H2 := number_w q pw v1 _ pb 1 to w2 (hc.mod hm2 S1) hw2 (hm2.cell c1 S2) hto (by rw [List.length_append]; omega) ⟨hq.1, hf1.keep hq.2 hql⟩ ⟨hr.1, hf1.keep hr.2 hel⟩
  clear k1
  go_wp2_with (fail)
  refine H2.mono ?_
  rintro e w3 ⟨rfl, v3, hw3, hm3', hf3'⟩
  have hf3 : Fr w v v3 := fun g hg => by
    rcases hf3' g hg with h' | h'
    · exact hf1 g h'
    · exact .inr (by have := hm2.size; omega)
  have hM : Mod (fun k => k = pw ∨ v.ownBlock = some k) w w3 := hm2.trans hm3' (fun _ _ h => h) (by
    rintro i hi (h' | h')
    · exact .inl h'
    · rcases hf1 i h' with h'' | h''
      · exact .inr h''
      · omega)
  have k0 := hM.cell c0 S2
  have hc3 := hc.mod hM S1
  have hlen : ((L ++ enc 4) ++ enc to).length + 700 ≤ 140737488355328 := by simp only [List.length_append]; omega
  have hs3 := hs.mod hM (fun hl g hg h => h.elim (hsv hl g hg).1 (hsv hl g hg).2)
  have H3 := commit_w q pw v3 _ pb 32 cq cr_ cm ch_ cao ccap ce w3 hc3 hw3 ⟨hq.1, hf3.keep hq.2 hql⟩ ⟨hr.1, hf3.keep hr.2 hel⟩ hv hx hn (hM.cell c32 S2) (hM.cell c33 S2) (hM.cell c34 S2) (hM.cell c35 S2) (hM.cell c36 S2) hs3 (fun hl g hg => ⟨(hsv hl g hg).1, hf3.keep (hsv hl g hg).2 (hs.lt hl g hg)⟩) (by omega)
  go_wp2_with (fail)
  refine H3.mono ?_
  rintro e w4 ⟨rfl, v4, hw4, hm4, hf4⟩
  go_wp2
  go_end0
  exact ⟨rfl, v4, by simpa [List.append_assoc] using hw4, hM.wr hf3 hm4, hf3.trans hf4 hM.size⟩
set_option maxRecDepth 100000 in
set_option maxHeartbeats 2000000 in
theorem packet_w5 (q pw : Nat) (v : Value) (L : List Int) (pb : Nat) (to : Nat) (bq br_ : Int) (bs : Nat) (w : World) (hc : Cw w q pw) (h : Wr w pw v L) (hq : q ≠ pw ∧ v.ownBlock ≠ some q) (hr : pb ≠ pw ∧ v.ownBlock ≠ some pb) (hto : to ≤ 9007199254740991) (hb : L.length + 900 ≤ 140737488355328) (hv : Nums [bq, br_]) (hbs : bs ≤ 9007199254740991) (c0 : w.cell? ⟨pb, 0, none⟩ = some (.int .i64 5)) (c1 : w.cell? ⟨pb, 1, none⟩ = some (.int .i64 (to : Int))) (c37 : w.cell? ⟨pb, 37, none⟩ = some (.int .i64 bq)) (c38 : w.cell? ⟨pb, 38, none⟩ = some (.int .i64 br_)) (c39 : w.cell? ⟨pb, 39, none⟩ = some (.int .i64 (bs : Int))) :
    Calls Try.prog 73 #[.pointer (some ⟨q, 0, none⟩), .pointer (some ⟨pb, 0, none⟩)] w fun e w' => e = .returned (.tuple #[]) ∧ ∃ v', Wr w' pw v' (L ++ (packs [5] ++ (packs [(to : Int)] ++ packs [bq, br_, (bs : Int)]))) ∧ Mod (fun k => k = pw ∨ v.ownBlock = some k) w w' ∧ Fr w v v' := by
  have hql : q < w.heap.size := lt_of_block hc.blk
  have hel : pb < w.heap.size := World.block_lt_of_cell? w _ c0
  have S1 : ¬ (q = pw ∨ v.ownBlock = some q) := fun h => h.elim hq.1 hq.2
  have S2 : ¬ (pb = pw ∨ v.ownBlock = some pb) := fun h => h.elim hr.1 hr.2
  have p0 : packs [5] = enc 5 := by simp [packs]
  have p1 : packs [(to : Int)] = enc to := by simp [packs]
  rw [p0, p1]
  have l0 := enc_len 5
  have l1 := enc_len to
  have H1 := number_w q pw v L pb 0 5 w hc h c0 (by omega) (by omega) hq hr
  have HK := isKind_any 5
  rw [show decide ((1 : Int) ≤ 5 ∧ (5 : Int) ≤ 5) = true from by decide] at HK
  clear p0 p1
  go_enter Try.func73, Try.ntmps73
  go_wp2_with (fail)
  refine H1.mono ?_
  rintro e w1 ⟨rfl, v1, hw1, hm1, hf1⟩
  have k1 := hm1.cell c0 S2
  go_wp2_with (fail)
  refine (HK _).mono ?_
  rintro e w2 ⟨rfl, hk2⟩
  have hm2 : Mod (fun k => k = pw ∨ v.ownBlock = some k) w w2 := hm1.trans hk2 (fun _ _ h => h) (fun _ _ h => h.elim)
  have hw2 := hw1.mod hk2 (fun h => h) (fun _ _ h => h)
  have H2 := number_w q pw v1 _ pb 1 to w2 (hc.mod hm2 S1) hw2 (hm2.cell c1 S2) hto (by rw [List.length_append]; omega) ⟨hq.1, hf1.keep hq.2 hql⟩ ⟨hr.1, hf1.keep hr.2 hel⟩
  clear k1
  go_wp2_with (fail)
  refine H2.mono ?_
  rintro e w3 ⟨rfl, v3, hw3, hm3', hf3'⟩
  have hf3 : Fr w v v3 := fun g hg => by
    rcases hf3' g hg with h' | h'
    · exact hf1 g h'
    · exact .inr (by have := hm2.size; omega)
  have hM : Mod (fun k => k = pw ∨ v.ownBlock = some k) w w3 := hm2.trans hm3' (fun _ _ h => h) (by
    rintro i hi (h' | h')
    · exact .inl h'
    · rcases hf1 i h' with h'' | h''
      · exact .inr h''
      · omega)
  have k0 := hM.cell c0 S2
  have hc3 := hc.mod hM S1
  have hlen : ((L ++ enc 5) ++ enc to).length + 700 ≤ 140737488355328 := by simp only [List.length_append]; omega
  have H3 := ring_w q pw v3 _ pb 37 bq br_ w3 hc3 hw3 hv ⟨hq.1, hf3.keep hq.2 hql⟩ ⟨hr.1, hf3.keep hr.2 hel⟩ (hM.cell c37 S2) (hM.cell c38 S2) (by omega)
  have l5 := packs_len [bq, br_]
  go_wp2_with (fail)
  refine H3.mono ?_
  rintro e w4 ⟨rfl, v4, hw4, hm4, hf4⟩
  have hM4 := hM.wr hf3 hm4
  have hF4 := hf3.trans hf4 hM.size
  have H4 := number_w q pw v4 _ pb 39 bs w4 (hc.mod hM4 S1) hw4 (hM4.cell c39 S2) hbs (by simp only [List.length_append, List.length_cons, List.length_nil] at l5 ⊢; omega) ⟨hq.1, hF4.keep hq.2 hql⟩ ⟨hr.1, hF4.keep hr.2 hel⟩
  go_wp2_with (fail)
  refine H4.mono ?_
  rintro e w5 ⟨rfl, v5, hw5, hm5, hf5⟩
  have hpe : packs [bq, br_, (bs : Int)] = packs [bq, br_] ++ enc bs := by simp [packs]
  go_wp2
  go_end0
  exact ⟨rfl, v5, by rw [hpe]; simpa [List.append_assoc] using hw5, hM4.wr hF4 hm5, hF4.trans hf5 hM4.size⟩
end Go.Proofs.Ytajhpnfpjickbaa
