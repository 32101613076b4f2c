/- Contract of packet's Unpack. Conditions: bytes of at most 2^47. -/
import Derived.Test.YtajhpnfpjickbaaK51
namespace Go.Proofs.Ytajhpnfpjickbaa
open Go.RowKit
theorem results_cell2 {fn : Func} {p r : Tmp} {ty : TypeId} (h : fn.results = #[.cell p ty, .tmp r]) (tmps : Array Value) (P : Program) (w : World) :
    (results fn tmps).run P w = ((asAddr (tmps.getD p undef)).run P w).andThen fun a w₁ => ((loadVar ty a).run P w₁).andThen fun x w₂ => .ok (.tuple #[x, tmps.getD r undef]) w₂ := by
  simp only [results, h]
  simp [Sem.run_bind, Result.andThen]
/-- What is wrong with bytes, as a packet. -/
def uE (L : List Int) : Int := if 512 < L.length then 5 else if Sm.openE L ≠ 0 then Sm.openE L else pun (Sm.openD L)
/-- What Unpack answers. -/
def UPost (L : List Int) (w : World) (e : Ending) (w' : World) : Prop := ∃ xs, e = .returned (.tuple #[.agg xs, .int .i64 (uE L)]) ∧ Mod (fun _ => False) w w' ∧ (uE L = 0 → PkIn w' w.heap.size xs (prP (Sm.openD L))) ∧ (uE L ≠ 0 → xs = pz)
theorem pz_size : pz.size = 40 := rfl
theorem ret_pk {b : Nat} {xs : Array Value} {w : World} (hB : Bk w b 76 xs) (hs : xs.size = 40) (tmps : Array Value) (E : Int) (h2 : tmps.getD 2 undef = .pointer (some ⟨b, 0, none⟩)) (h3 : tmps.getD 3 undef = .int .i64 E) : (results Try.f43 tmps).run Try.prog w = .ok (.tuple #[.agg xs, .int .i64 E]) w := by
  have hl := run_loadVar_mid (P := Try.prog) w b 0 76 xs.toList _ hB.row Try.underlying76 rfl (by rw [info40]; simp [hs])
  rw [results_cell2 (p := 2) (r := 3) (ty := 76) Try.results43, h2, h3]
  simp [asAddr, Result.andThen, hl]
set_option maxRecDepth 100000 in
set_option maxHeartbeats 4000000 in
theorem pUnpack_long (ao : Option Addr) (n cap : Nat) (w : World) (hn : 512 < (n : Int)) (L : List Int) (hL : L.length = n) : Calls Try.prog 43 #[.slice ao n cap] w (UPost L w) := by
  have HE : Hid (uE L = 5) := by rw [Hid, uE, if_pos (by omega)]
  have hB0 := Bk.new w pz 76
  have hM0 : Mod (fun _ => False) w (w.alloc (.cells pz 76)) := (Mod.refl _ w).alloc _
  clear hL
  go_enter Try.func43, Try.ntmps43
  go_wp2_with (refine wpList_store_row info40 rfl rfl _ _ rfl w.heap.size pz rfl rfl hB0 rfl rfl rfl ?_; intro wF hBF hMF)
  refine bodyPost_ret (ret_pk hBF rfl _ 5 rfl rfl) rfl ?_
  exact ⟨pz, by rw [HE.out], hM0.trans hMF (fun _ _ h => h) (fun i hi h => by omega), fun h => absurd (HE.out ▸ h) (by decide), fun _ => rfl⟩
theorem numsg {n : Nat} {l : List Int} (i : Nat) : 0 ≤ (rdv n l).getD i 0 ∧ (rdv n l).getD i 0 ≤ 9007199254740991 := by
  by_cases h : i < (rdv n l).length
  · have := rdv_nums n l _ (getD_mem h)
    exact this
  · rw [List.getD_eq_getElem?_getD, List.getElem?_eq_none (by omega)]
    simp
theorem prP_rng (l : List Int) : (∀ x ∈ (prP l).t.ask, 0 ≤ x ∧ x ≤ 9007199254740991) ∧ (0 ≤ (prP l).j.proc ∧ (prP l).j.proc ≤ 9007199254740991) ∧ (0 ≤ (prP l).c.mem ∧ (prP l).c.mem ≤ 9007199254740991) ∧ (0 ≤ (prP l).c.hop ∧ (prP l).c.hop ≤ 9007199254740991) := by
  unfold prP kP
  split
  · simp [Pk.zero, Tk.zero, Jn.zero, Cm.zero]
  split
  · exact ⟨fun x hx => rdv_nums _ _ x hx, by simp [Pk.zero, Jn.zero], by simp [Pk.zero, Cm.zero], by simp [Pk.zero, Cm.zero]⟩
  split
  · exact ⟨by simp [Pk.zero, Tk.zero], numsg _, by simp [Pk.zero, Cm.zero], by simp [Pk.zero, Cm.zero]⟩
  split
  · exact ⟨by simp [Pk.zero, Tk.zero], by simp [Pk.zero, Jn.zero], numsg _, numsg _⟩
  · simp [Pk.zero, Tk.zero, Jn.zero, Cm.zero]
/-- What a slot holds behind region 10. -/
def vU (q : Nat) (E : Int) : Nat → Value
  | 0 => .agg pz
  | 1 => .pointer (some ⟨q, 2, none⟩)
  | 2 => .int .i64 E
  | 4 => .int .i64 E
  | _ => undef
set_option maxRecDepth 100000 in
set_option maxHeartbeats 4000000 in
theorem regionU {ops : Array Oper} {id : Nat} {a0 : Act} {w0 : World} {Q : Exit → Act → World → Prop} (q rb : Nat) (E : Int)
    (E0 : Is ops 0 (some 30) (Op.build 76 #[]) none [])
    (E1 : Is ops 1 (some 31) (Op.fieldAddr 114 (Operand.tmp 7) 2) none [])
    (E2 : Is ops 2 (some 32) (Op.load 30 (Operand.tmp 31)) none [1])
    (E3 : Is ops 3 none (Op.store 76 (Operand.tmp 2) (Operand.tmp 30)) none [0])
    (E4 : Is ops 4 (some 3) (Op.assign (Operand.tmp 32)) none [0, 1, 2, 3])
    (hN : ops.size = 5) (hlow : lowB ops = true) (hds : dsts ops = [some 30, some 31, some 32, none, some 3]) (hnd : injB ops = true)
    (hmx : Try.prog.follows .mixedOrders = true) (ha0 : a0.tmps.size = 45) (h7 : a0.tmps.getD 7 undef = .pointer (some ⟨q, 0, none⟩)) (h2 : a0.tmps.getD 2 undef = .pointer (some ⟨rb, 0, none⟩))
    (hB : Bk w0 rb 76 pz) (hc : w0.cell? ⟨q, 2, none⟩ = some (.int .i64 E)) (hq : ¬ q = rb)
    (hend : ∀ y w, y.tmps.getD 2 undef = .pointer (some ⟨rb, 0, none⟩) → y.tmps.getD 3 undef = .int .i64 E → y.defers = a0.defers → Mod (fun k => k = rb) w0.drew w → Bk w rb 76 pz → Q .normal y w) :
    (Code.region id ops true).wp Try.prog Q a0 w0 := by
  have s0 : ∀ o, ops[0]? = some o → Step Try.prog ops (fun i' v => v = vU q E i') (fun _ W => Mod (fun k => k = rb) w0.drew W ∧ Bk W rb 76 pz) a0 Q 0 o := by
    refine E0.step fun o hd ho hg hw => ?_
    intro y w listed hsz hls hun hwt hdown D' R hinv K hK
    refine .inl ⟨wanted_none hg, ?_⟩
    have hx : (execOp y.eval o).run Try.prog w = .ok (.value (.agg pz)) w := by
      simp [execOp, ho, go_sem]
      rfl
    exact wp_value hx (hK _ _ rfl hinv)
  have s1 : ∀ o, ops[1]? = some o → Step Try.prog ops (fun i' v => v = vU q E i') (fun _ W => Mod (fun k => k = rb) w0.drew W ∧ Bk W rb 76 pz) a0 Q 1 o := by
    refine E1.step fun o hd ho hg hw => ?_
    intro y w listed hsz hls hun hwt hdown D' R hinv K hK
    refine .inl ⟨wanted_none hg, ?_⟩
    have fx : y.eval (Operand.tmp 7) = .pointer (some ⟨q, 0, none⟩) := (R 7 (not_of (by rw [hds]; decide))).trans h7
    exact wp_value (ox_field (v := .pointer (some ⟨q, 2, none⟩)) ho fx (by simp [go_sem])) (hK _ _ rfl hinv)
  have s2 : ∀ o, ops[2]? = some o → Step Try.prog ops (fun i' v => v = vU q E i') (fun _ W => Mod (fun k => k = rb) w0.drew W ∧ Bk W rb 76 pz) a0 Q 2 o := by
    refine E2.step fun o hd ho hg hw => ?_
    intro y w listed hsz hls hun hwt hdown D' R hinv K hK
    refine .inl ⟨wanted_none hg, ?_⟩
    have fx : y.eval (Operand.tmp 31) = .pointer (some ⟨q, 2, none⟩) := E1.post (Post := (fun i' v => v = vU q E i')) (a := y) D' (hw 1 (by simp))
    have hcw : w.cell? ⟨q, 2, none⟩ = some (.int .i64 E) := hinv.1.cell ((Mod.refl (fun _ => False) w0).drew.cell hc (fun h => h)) hq
    exact wp_value (ox_load (v := .int .i64 E) ho fx (by simp [go_sem, hcw])) (hK _ _ rfl hinv)
  have s3 : ∀ o, ops[3]? = some o → Step Try.prog ops (fun i' v => v = vU q E i') (fun _ W => Mod (fun k => k = rb) w0.drew W ∧ Bk W rb 76 pz) a0 Q 3 o := by
    refine E3.step fun o hd ho hg hw => ?_
    intro y w listed hsz hls hun hwt hdown D' R hinv K hK
    refine .inl ⟨wanted_none hg, ?_⟩
    have fx : y.eval (Operand.tmp 2) = .pointer (some ⟨rb, 0, none⟩) := (R 2 (not_of (by rw [hds]; decide))).trans h2
    have fy : y.eval (Operand.tmp 30) = .agg pz := E0.post (Post := (fun i' v => v = vU q E i')) (a := y) D' (hw 0 (by simp))
    refine wp_store_mid (P := Try.prog) 76 _ _ ho rb 0 pz fx fy (hinv.2.there (by show 40 ≤ 40; omega)) (by rw [info40]; rfl) (by decide +kernel) (hK _ _ rfl ⟨hinv.1.trans (setCells_mod rb _ _ _) (fun _ _ h => h) (fun _ _ h => h), hinv.2.whole pz rfl⟩)
  have s4 : ∀ o, ops[4]? = some o → Step Try.prog ops (fun i' v => v = vU q E i') (fun _ W => Mod (fun k => k = rb) w0.drew W ∧ Bk W rb 76 pz) a0 Q 4 o := by
    refine E4.step fun o hd ho hg hw => ?_
    intro y w listed hsz hls hun hwt hdown D' R hinv K hK
    refine .inl ⟨wanted_none hg, ?_⟩
    have fx : y.eval (Operand.tmp 32) = .int .i64 E := E2.post (Post := (fun i' v => v = vU q E i')) (a := y) D' (hw 2 (by simp))
    have hx : (execOp y.eval o).run Try.prog w = .ok (.value (.int .i64 E)) w := by simp [execOp, ho, fx]
    exact wp_value hx (hK _ _ rfl hinv)
  refine region_free (Post := (fun i' v => v = vU q E i')) (Inv := (fun _ W => Mod (fun k => k = rb) w0.drew W ∧ Bk W rb 76 pz)) hmx (low_of hlow) (fun i o ho => by rw [ha0]; exact dst_of (by rw [hds]; decide) i o ho) (inj_of hnd) ⟨Mod.refl _ _, hB.mod (Mod.refl (fun _ => False) _).drew (fun h => h)⟩ ?_ ?_
  · intro i o ho
    have hi : i < 5 := by
      rw [← hN]
      rcases Nat.lt_or_ge i ops.size with h | h
      · exact h
      · rw [Array.getElem?_eq_none h] at ho; cases ho
    clear hend
    by_cases e0 : i = 0
    · subst e0; exact s0 o ho
    by_cases e1 : i = 1
    · subst e1; exact s1 o ho
    by_cases e2 : i = 2
    · subst e2; exact s2 o ho
    by_cases e3 : i = 3
    · subst e3; exact s3 o ho
    by_cases e4 : i = 4
    · subst e4; exact s4 o ho
    omega
  · intro y w listed hsz hdf hls hall hinv hp' hr
    obtain ⟨o4, h41, h42, _⟩ := E4.ex
    exact hend y w ((hr 2 (not_of (by rw [hds]; decide))).trans h2) (hp' 4 o4 3 h41 h42) hdf hinv.1 hinv.2
set_option maxRecDepth 100000 in
set_option maxHeartbeats 4000000 in
theorem pUnpack_shut (ao : Option Addr) (cap : Nat) (L : List Int) (w : World) (hs : Sl w (.slice ao L.length cap) L) (hn : ¬ 512 < (L.length : Int)) (hO : Sm.openE L ≠ 0) : Calls Try.prog 43 #[.slice ao L.length cap] w (UPost L w) := by
  have HE : Hid (uE L = Sm.openE L) := by rw [Hid, uE, if_neg (by omega), if_pos hO]
  have hM0 : Mod (fun _ => False) w (w.alloc (.cells pz 76)) := (Mod.refl _ w).alloc _
  have HO := Sm.Open_any _ L _ (hs.mod hM0 (fun _ _ h => h)) (by omega)
  have hB0 := Bk.new w pz 76
  have hen : (Sm.openE L != 0) = true := by simp [hO]
  have HEE : Hid (Sm.openE L ≠ 0) := hO
  generalize Sm.openE L = E at *
  clear hs hO
  go_enter Try.func43, Try.ntmps43
  go_wp2_with (fail)
  refine HO.mono ?_
  rintro e w1 ⟨v1, rfl, ho1, hm1, hf1⟩
  have hB1 := hB0.mod hm1 (fun h => h)
  have hM1 := hM0.trans hm1 (V := fun _ => False) (fun _ _ h => h) (fun _ _ h => h)
  clear HO hB0 hM0
  go_wp2_with (refine wpList_store_row info40 rfl rfl _ _ rfl w.heap.size pz rfl rfl hB1 rfl rfl rfl ?_; intro wF hBF hMF)
  refine bodyPost_ret (ret_pk hBF rfl _ E rfl rfl) rfl ?_
  exact ⟨pz, by rw [HE.out], hM1.trans hMF (fun _ _ h => h) (fun i hi h => by omega), fun h => absurd (HE.out ▸ h) HEE.out, fun _ => rfl⟩
set_option maxRecDepth 100000 in
set_option maxHeartbeats 4000000 in
theorem pUnpack_open (ao : Option Addr) (cap : Nat) (L : List Int) (w : World) (hs : Sl w (.slice ao L.length cap) L) (hn : ¬ 512 < (L.length : Int)) (hO : Sm.openE L = 0) : Calls Try.prog 43 #[.slice ao L.length cap] w (UPost L w) := by
  have HE : Hid (uE L = pun (Sm.openD L)) := by rw [Hid, uE, if_neg (by omega), if_neg (by simp [hO])]
  have hM0 : Mod (fun _ => False) w (w.alloc (.cells pz 76)) := (Mod.refl _ w).alloc _
  have HO := Sm.Open_any _ L _ (hs.mod hM0 (fun _ _ h => h)) (by omega)
  have hB0 := Bk.new w pz 76
  have hl5 : (Sm.openD L).length ≤ 512 := by rw [Sm.openD, if_pos hO]; simp; omega
  have hrg : ∀ c ∈ Sm.openD L, 0 ≤ c ∧ c ≤ 255 := fun c hc => hs.rng c (by rw [Sm.openD, if_pos hO] at hc; exact List.mem_of_mem_take hc)
  rw [hO] at HO
  have HUP : Hid (∀ e w', UPost L w e w' = (∃ xs, e = .returned (.tuple #[.agg xs, .int .i64 (pun (Sm.openD L))]) ∧ Mod (fun _ => False) w w' ∧ (pun (Sm.openD L) = 0 → PkIn w' w.heap.size xs (prP (Sm.openD L))) ∧ (pun (Sm.openD L) ≠ 0 → xs = pz))) := fun e w' => by rw [UPost, HE.out]
  generalize Sm.openD L = l at *
  clear hs hO HE
  go_enter Try.func43, Try.ntmps43
  go_wp2_with (fail)
  refine HO.mono ?_
  rintro e w1 ⟨v1, rfl, ho1, hm1, hf1⟩
  have hB1 := hB0.mod hm1 (fun h => h)
  have hM1 := hM0.trans hm1 (V := fun _ => False) (fun _ _ h => h) (fun _ _ h => h)
  have hs1 := ho1.sl hrg
  have hBn := Bk.new w1 pz 76
  have hz1 := hB1.lt
  have hMa : Mod (fun _ => False) w1 (w1.alloc (.cells pz 76)) := (Mod.refl _ w1).alloc _
  clear HO hB0 hM0
  go_wp2_with (refine wpList_store_row info40 rfl rfl _ _ rfl w1.heap.size pz rfl rfl hBn rfl rfl rfl ?_; intro w2 hB2 hM2)
  have hS2 := hM2.size
  simp at hS2
  have hb2 : Mod (fun _ => False) w1 w2 := hMa.trans hM2 (fun _ _ h => h) (fun i hi h => by omega)
  have hM2w := hM1.trans hb2 (V := fun _ => False) (fun _ _ h => h) (fun _ _ h => h)
  have hR2 := hB1.mod hb2 (fun h => h)
  have HN := New_any v1 l w2 (hs1.mod hb2 (fun _ _ h => h)) (by omega)
  generalize hpb : w1.heap.size = pb at *
  clear hBn hMa hM2 hB1 hs1 ho1
  refine HN.mono ?_
  rintro e w3 ⟨pr, v3, rfl, hr3, hm3, hp3, hp3', hv3⟩
  have hB3 := hB2.mod hm3 (fun h => h)
  have hR3 := hR2.mod hm3 (fun h => h)
  have hM3 := hM2w.trans hm3 (V := fun _ => False) (fun _ _ h => h) (fun _ _ h => h)
  have hs3 := hm3.size
  clear HN hB2 hR2 hM2w
  have hA : Mod (fun _ => False) w3 (w3.alloc (.cells #[.pointer none, .pointer (some ⟨pr, 0, none⟩), .int .i64 0] 114)) := (Mod.refl _ w3).alloc _
  have hc4 : Co (w3.alloc (.cells #[.pointer none, .pointer (some ⟨pr, 0, none⟩), .int .i64 0] 114)) w3.heap.size pr 0 := ⟨heap_alloc_new w3 _⟩
  have HP := packet_r w3.heap.size pr pb v3 l _ hc4 (hr3.mod hA (fun h => h) (fun _ _ h => h)) (hB3.mod hA (fun h => h)) (by omega) (fun g hg => by have := hv3 g hg; have := hA.size; omega) (by omega)
  have hR4 := hR3.mod hA (fun h => h)
  have hM4 := hM3.trans hA (V := fun _ => False) (fun _ _ h => h) (fun _ _ h => h)
  have hzA : (w3.alloc (.cells #[.pointer none, .pointer (some ⟨pr, 0, none⟩), .int .i64 0] 114)).heap.size = w3.heap.size + 1 := by simp
  clear hc4 hr3 hB3 hR3 hM3 hA
  go_wp2_with (fail)
  refine HP.mono ?_
  rintro e w4 ⟨rfl, hK1, hK2, hK3⟩
  rw [hzA] at hK3
  have hR5 := hR4.mod hK2 (by omega)
  have hM5 : Mod (fun _ => False) w w4 := hM4.trans hK2 (fun _ _ h => h) (fun i hi h => by omega)
  have hrz : w.heap.size < w3.heap.size := by omega
  clear HP hR4 hM4 hm3 hb2 hm1 hf1 hv3 hM1 hzA
  have c2 := hK1.c2
  have c1 := hK1.c1
  by_cases hE : prd l = 0
  · obtain ⟨xs, v5, r1, r2, r3, r4⟩ := hK3 hE
    obtain ⟨ao1, cap1, tao, tcap, cao, ccap, hxs, p1, p2, p3, p4, p5, p6⟩ := r4
    obtain ⟨g1, g2, g3, g4⟩ := prP_rng l
    rw [hE] at hK1 c2
    have ePU : pun l = if prL l = [] ∧ pchk (prP l) = 0 then 0 else 4 := by rw [pun, if_neg (by simp [hE])]
    have HU2 : Hid (pun l = if prL l = [] ∧ pchk (prP l) = 0 then 0 else 4) := ePU
    have HC : ∀ W, Mod (fun _ => False) w4 W → Calls Try.prog 42 #[.agg xs] W fun e w' => e = .returned (.int .i64 (pchk (prP l))) ∧ Mod (fun _ => False) W w' := by
      generalize prP l = P at *
      intro W hm
      exact pCheck_any P.kind P.to P.d.rs P.d.rr P.d.sq P.d.sn P.d.st P.d.m.kind P.d.m.origin P.d.m.life P.d.m.id P.d.m.part P.d.m.parts P.d.m.groups P.d.m.safe P.d.m.st P.d.m.rs P.d.m.rr P.d.m.sq ao1 cap1 P.d.m.body P.t.rs P.t.rr P.t.hop P.t.sq P.t.aru P.t.low P.t.st P.t.idle tao tcap P.t.ask P.j.sn P.j.proc P.j.ct P.c.rs P.c.rr P.c.mem P.c.hop cao ccap P.c.es P.b.rs P.b.rr P.b.sn xs hxs W (p1.mod hm (fun _ _ h => h)) (p2.mod hm (fun _ _ h => h)) (fun x hx => by have := g1 x hx; omega) (p3.mod hm (fun _ _ _ h => h)) (by omega) (by omega) (by omega)
    have hsx : xs.size = 40 := by rw [hxs]; rfl
    have HL := Left_any pr v5 (prL l) w4 r1
    have hxo : xs.toList.all (·.oneCell') = true := by rw [hxs]; rfl
    have HPI : Hid (∀ W, Mod (fun k => k = w.heap.size) w4 W → PkIn W w.heap.size xs (prP l)) := fun W hm => by
      refine ⟨ao1, cap1, tao, tcap, cao, ccap, hxs, p1.mod2 hm (fun hl g hg e => by have := p4 hl g hg; omega), p2.mod2 hm (fun hl g hg e => by have := p5 hl g hg; omega), p3.mod hm (fun hl g hg e => by have := p6 hl g hg; omega), fun hl g hg => by have := p4 hl g hg; omega, fun hl g hg => by have := p5 hl g hg; omega, fun hl g hg => by have := p6 hl g hg; omega⟩
    clear hK3 hxs p1 p2 p3 p4 p5 p6 g1 g2 g3 g4 ePU hE
    by_cases hL : prL l = []
    · have eL : (prL l).length = 0 := by rw [hL]; rfl
      rw [eL] at HL
      by_cases hC : pchk (prP l) = 0
      · have HU3 : Hid (pun l = 0) := by rw [Hid, HU2.out, if_pos ⟨hL, hC⟩]
        rw [hC] at HC
        clear hL hC eL HU2
        go_wp2_with (fail)
        refine HL.mono ?_
        rintro e w5 ⟨rfl, rfl⟩
        have HC2 := HC _ (Mod.refl _ _)
        go_wp2_with (refine wpList_load_rowg info40 Try.underlying76 rfl rfl _ rfl pb rfl r3 hsx ?_; simp only [Act.put, List.setIfInBounds_toArray, List.set_cons_succ, List.set_cons_zero])
        refine HC2.mono ?_
        rintro e w6 ⟨rfl, hm6⟩
        have r3' := r3.mod hm6 (fun h => h)
        have hR6 := hR5.mod hm6 (fun h => h)
        have hM7 := hM5.trans hm6 (V := fun _ => False) (fun _ _ h => h) (fun _ _ h => h)
        clear HL HC HC2 r1 c1 c2
        go_wp2_with (first | (refine wpList_load_row info40 Try.underlying76 rfl rfl _ rfl pb rfl r3' hsx ?_; simp only [Act.put, List.setIfInBounds_toArray, List.set_cons_succ, List.set_cons_zero]) | (refine wpList_store_part info40 rfl rfl _ _ rfl w.heap.size 0 xs rfl rfl hR6 (by show 40 ≤ 40; omega) hsx hxo _ rfl ?_; intro wF hBF hMF))
        have hBG : Bk wF w.heap.size 76 xs := by rw [sets'_all xs.toList (by rw [pz_size]; simp [hsx])] at hBF; simpa using hBF
        refine bodyPost_ret (ret_pk hBG hsx _ 0 rfl rfl) rfl ?_
        rw [HUP.out, HU3.out]
        exact ⟨xs, rfl, hM7.trans hMF (fun _ _ h => h) (fun i hi h => by omega), fun _ => HPI.out wF ((hm6.mono (fun _ _ h => h.elim)).trans hMF (fun _ _ h => h) (fun _ _ h => h)), fun h => absurd rfl h⟩
      · have HU3 : Hid (pun l = 4) := by rw [Hid, HU2.out, if_neg (fun h => hC h.2)]
        have hen : (pchk (prP l) != 0) = true := by simp [hC]
        generalize pchk (prP l) = EC at HC hen
        clear hL hC eL HU2
        go_wp2_with (fail)
        refine HL.mono ?_
        rintro e w5 ⟨rfl, rfl⟩
        have HC2 := HC _ (Mod.refl _ _)
        go_wp2_with (refine wpList_load_rowg info40 Try.underlying76 rfl rfl _ rfl pb rfl r3 hsx ?_; simp only [Act.put, List.setIfInBounds_toArray, List.set_cons_succ, List.set_cons_zero])
        refine HC2.mono ?_
        rintro e w6 ⟨rfl, hm6⟩
        have hR6 := hR5.mod hm6 (fun h => h)
        have hM7 := hM5.trans hm6 (V := fun _ => False) (fun _ _ h => h) (fun _ _ h => h)
        clear HL HC HC2 r1 c1 c2
        go_wp2_with (refine wpList_store_row info40 rfl rfl _ _ rfl w.heap.size pz rfl rfl hR6 rfl rfl rfl ?_; intro wF hBF hMF)
        refine bodyPost_ret (ret_pk hBF rfl _ 4 rfl rfl) rfl ?_
        rw [HUP.out, HU3.out]
        exact ⟨pz, rfl, hM7.trans hMF (fun _ _ h => h) (fun i hi h => by omega), fun h => absurd h (by decide), fun _ => rfl⟩
    · have HU3 : Hid (pun l = 4) := by rw [Hid, HU2.out, if_neg (fun h => hL h.1)]
      have hpos : 0 < ((prL l).length : Int) := by
        have : (prL l).length ≠ 0 := fun e => hL (List.eq_nil_of_length_eq_zero e)
        omega
      generalize (prL l).length = nl at HL hpos
      clear hL HU2 HC
      go_wp2_with (fail)
      refine HL.mono ?_
      rintro e w5 ⟨rfl, rfl⟩
      clear HL r1 c1 c2
      go_wp2_with (refine wpList_store_row info40 rfl rfl _ _ rfl w.heap.size pz rfl rfl hR5 rfl rfl rfl ?_; intro wF hBF hMF)
      refine bodyPost_ret (ret_pk hBF rfl _ 4 rfl rfl) rfl ?_
      rw [HUP.out, HU3.out]
      exact ⟨pz, rfl, hM5.trans hMF (fun _ _ h => h) (fun i hi h => by omega), fun h => absurd h (by decide), fun _ => rfl⟩
  · have ePU : pun l = prd l := by rw [pun, if_pos hE]
    have HU2 : Hid (pun l = prd l) := ePU
    have hen : (prd l != 0) = true := by simp [hE]
    have hth : w4.there w.heap.size 0 40 := hR5.there (by show 40 ≤ 40; omega)
    have HEE : Hid (prd l ≠ 0) := hE
    generalize prd l = E at *
    clear ePU hK3 hE
    go_wp2_with (fail)
    refine regionU w3.heap.size w.heap.size E ⟨⟨_, rfl, rfl, rfl, rfl, by decide +kernel⟩⟩ ⟨⟨_, rfl, rfl, rfl, rfl, by decide +kernel⟩⟩ ⟨⟨_, rfl, rfl, rfl, rfl, by decide +kernel⟩⟩ ⟨⟨_, rfl, rfl, rfl, rfl, by decide +kernel⟩⟩ ⟨⟨_, rfl, rfl, rfl, rfl, by decide +kernel⟩⟩ rfl (by decide +kernel) rfl (by decide +kernel) mixed rfl rfl rfl hR5 c2 (by omega) ?_
    intro y w5 y2 y3 yd hm5 hB5
    have hM6 : Mod (fun _ => False) w w5 := (hM5.drew).trans hm5 (fun _ _ h => h) (fun i hi h => by omega)
    go_wp2
    refine bodyPost_ret (ret_pk hB5 rfl _ E y2 y3) yd ?_
    rw [HUP.out, HU2.out]
    exact ⟨pz, rfl, hM6, fun h => absurd h HEE.out, fun _ => rfl⟩
/-- Unpack: as the plain one. -/
theorem pUnpack_any (v : Value) (L : List Int) (w : World) (hs : Sl w v L) : Calls Try.prog 43 #[v] w (UPost L w) := by
  obtain ⟨ao, cap, rfl, h1, h2, h3, h4⟩ := hs.form
  by_cases hn : 512 < (L.length : Int)
  · exact pUnpack_long ao L.length cap w hn L rfl
  · by_cases hO : Sm.openE L = 0
    · exact pUnpack_open ao cap L w hs hn hO
    · exact pUnpack_shut ao cap L w hs hn hO
end Go.Proofs.Ytajhpnfpjickbaa
