/- What was sealed is opened; the statements' own packets, and awake. No conditions. Pack and Unpack of packets in cells; awake. No conditions. -/
import Derived.Test.YtajhpnfpjickbaaK03
import Derived.Test.YtajhpnfpjickbaaK39
import Derived.Test.YtajhpnfpjickbaaK43
import Derived.Test.YtajhpnfpjickbaaK52
namespace Go.Proofs.Ytajhpnfpjickbaa
open Go.RowKit
theorem openE_sealed (l : List Int) : Sm.openE (Sm.sealed l) = 0 := by
  have h1 : (Sm.sealed l).take ((Sm.sealed l).length - 4) = l := by
    rw [Sm.sealed_len, Nat.add_sub_cancel, Sm.sealed, List.take_left']
    rfl
  have h2 : (Sm.sealed l).drop ((Sm.sealed l).length - 4) = Sm.four (Sm.chk l) := by
    rw [Sm.sealed_len, Nat.add_sub_cancel, Sm.sealed, List.drop_left']
    rfl
  rw [Sm.openE, if_neg (by rw [Sm.sealed_len]; omega), h1, h2, if_pos (Sm.num_four (Sm.chk_lt l)).symm]
theorem openD_sealed (l : List Int) : Sm.openD (Sm.sealed l) = l := by
  rw [Sm.openD, if_pos (openE_sealed l), Sm.sealed_len, Nat.add_sub_cancel, Sm.sealed, List.take_left']
  rfl
theorem uE_sealed {l : List Int} (h : l.length ≤ 508) : uE (Sm.sealed l) = pun l := by
  rw [uE, if_neg (by rw [Sm.sealed_len]; omega), if_neg (by simp [openE_sealed]), openD_sealed]
theorem uE_great {l : List Int} (h : ¬ l.length ≤ 508) : uE (Sm.sealed l) = 5 := by
  rw [uE, if_pos (by rw [Sm.sealed_len]; omega)]
theorem Sl.upto {w : World} {ao : Option Addr} {cap : Nat} {l : List Int} (h : Sl w (.slice ao l.length cap) l) (m : Nat) (hm : m ≤ l.length) : Sl w (.slice ao m cap) (l.take m) := by
  obtain ⟨ao', cap', e, h1, h2, h3, h4⟩ := h.form
  simp only [Value.slice.injEq, true_and] at e
  obtain ⟨rfl, rfl⟩ := e
  have hl : (l.take m).length = m := by rw [List.length_take]; omega
  refine ⟨⟨ao, cap, by rw [hl], by omega, h2, h3, fun hne => ?_⟩, fun c hc => h.rng c (List.mem_of_mem_take hc)⟩
  obtain ⟨b, off, e, hc⟩ := h4 (by rintro rfl; simp at hne)
  refine ⟨b, off, e, fun j hj => ?_⟩
  rw [hl] at hj
  rw [hc j (by omega), List.getD_eq_getElem?_getD, List.getD_eq_getElem?_getD, List.getElem?_take_of_lt hj]
/-- The chapter's join. -/
def pJ : Pk := ⟨3, 0, Dt.zero, Tk.zero, ⟨2, 6, 300⟩, Cm.zero, Bn.zero⟩
/-- The chapter's token. -/
def pR : Pk := ⟨2, 2, Dt.zero, ⟨4, 1, 7, 9, 8, 3, 20, 2, [9]⟩, Jn.zero, Cm.zero, Bn.zero⟩
theorem pJ_chk : pchk pJ = 0 := by decide +kernel
theorem pR_chk : pchk pR = 0 := by decide +kernel
theorem pJ_by : pby pJ = [3, 0, 2, 6, 172, 2] := by decide +kernel
theorem pR_by : pby pR = [2, 2, 4, 1, 7, 9, 8, 3, 20, 2, 1, 9] := by decide +kernel
theorem ret1_pk {f : Func} (hf : f.results = #[.cell 0 76]) {b : Nat} {xs : Array Value} {w : World} (hB : Bk w b 76 xs) (hs : xs.size = 40) (tmps : Array Value) (h2 : tmps.getD 0 undef = .pointer (some ⟨b, 0, none⟩)) : (results f tmps).run Try.prog w = .ok (.agg xs) w := by
  have hl := run_loadVar_mid (P := Try.prog) w b 0 76 xs.toList _ hB.row Try.underlying76 rfl (by rw [info40]; simp [hs])
  rw [results_cell1 hf, h2]
  simp [asAddr, Result.andThen, hl]
set_option maxRecDepth 100000 in
set_option maxHeartbeats 4000000 in
theorem joined_any (w : World) : Calls Try.prog 71 #[] w fun e w' => e = .returned (.agg (pxp pJ none 0 none 0 none 0)) ∧ Mod (fun _ => False) w w' := by
  have hB0 := Bk.new w pz 76
  have hM0 : Mod (fun _ => False) w (w.alloc (.cells pz 76)) := (Mod.refl _ w).alloc _
  go_enter Try.func71, Try.ntmps71
  go_wp2_with (refine wpList_store_row info40 rfl rfl _ _ rfl w.heap.size (pxp pJ none 0 none 0 none 0) rfl rfl hB0 rfl rfl rfl ?_; intro wF hBF hMF)
  refine bodyPost_ret (ret1_pk Try.results71 hBF rfl _ rfl) rfl ?_
  exact ⟨rfl, hM0.trans hMF (fun _ _ h => h) (fun i hi h => by omega)⟩
set_option maxRecDepth 100000 in
set_option maxHeartbeats 4000000 in
theorem round_any (w : World) : Calls Try.prog 72 #[] w fun e w' => e = .returned (.agg (pxp pR none 0 (some ⟨w.heap.size + 1, 0, none⟩) 1 none 0)) ∧ Mod (fun _ => False) w w' ∧ Cr.Own w' (.slice (some ⟨w.heap.size + 1, 0, none⟩) 1 1) [9] := by
  have hA : Mod (fun _ => False) w (w.alloc (.cells pz 76)) := (Mod.refl _ w).alloc _
  have hB0 := (Bk.new w pz 76).mod ((Mod.refl (fun _ => False) _).alloc (.cells #[.int .i64 9] 3)) (fun h => h)
  have hM0 := hA.alloc (.cells #[.int .i64 9] 3)
  have hO : Cr.Own ((w.alloc (.cells pz 76)).alloc (.cells #[.int .i64 9] 3)) (.slice (some ⟨w.heap.size + 1, 0, none⟩) 1 1) [9] := by
    have := Cr.Own.lit (w.alloc (.cells pz 76)) [9] (by simp [maxLen])
    simpa [Cr.U] using this
  go_enter Try.func72, Try.ntmps72
  go_wp2_with (refine wpList_store_row info40 rfl rfl _ _ rfl w.heap.size (pxp pR none 0 (some ⟨w.heap.size + 1, 0, none⟩) 1 none 0) rfl rfl hB0 rfl rfl rfl ?_; intro wF hBF hMF)
  refine bodyPost_ret (ret1_pk Try.results72 hBF rfl _ rfl) rfl ?_
  exact ⟨rfl, hM0.trans hMF (fun _ _ h => h) (fun i hi h => by omega), hO.mod hMF (fun g hg e => by simp only [Value.ownBlock, Option.some.injEq] at hg; omega)⟩
end Go.Proofs.Ytajhpnfpjickbaa
namespace Go.Proofs.Ytajhpnfpjickbaa
open Go.RowKit
/-- Its numbers are ints. -/
structure Rn (P : Pk) : Prop where
  ask : ∀ x ∈ P.t.ask, -9223372036854775808 ≤ x ∧ x ≤ 9223372036854775807
  proc : -9223372036854775808 ≤ P.j.proc ∧ P.j.proc ≤ 9223372036854775807
  mem : -9223372036854775808 ≤ P.c.mem ∧ P.c.mem ≤ 9223372036854775807
  hop : P.c.hop ≤ 9223372036854775807
theorem Rn.read (l : List Int) : Rn (prP l) := by
  obtain ⟨g1, g2, g3, g4⟩ := prP_rng l
  exact ⟨fun x hx => by have := g1 x hx; omega, by omega, by omega, by omega⟩
theorem PkIn.mod {w w' : World} {m : Nat} {xs : Array Value} {P : Pk} {S : Nat → Prop} (h : PkIn w m xs P) (hm : Mod S w w') (hS : ∀ k, S k → k < m) : PkIn w' m xs P := by
  obtain ⟨ao1, cap1, tao, tcap, cao, ccap, hxs, p1, p2, p3, p4, p5, p6⟩ := h
  exact ⟨ao1, cap1, tao, tcap, cao, ccap, hxs, p1.mod2 hm (fun hl g hg e => by have := p4 hl g hg; have := hS g e; omega), p2.mod2 hm (fun hl g hg e => by have := p5 hl g hg; have := hS g e; omega), p3.mod hm (fun hl g hg e => by have := p6 hl g hg; have := hS g e; omega), p4, p5, p6⟩
theorem PkIn.size {w : World} {m : Nat} {xs : Array Value} {P : Pk} (h : PkIn w m xs P) : xs.size = 40 ∧ xs.toList.all (·.oneCell') = true := by
  obtain ⟨ao1, cap1, tao, tcap, cao, ccap, hxs, _⟩ := h
  rw [hxs]
  exact ⟨rfl, rfl⟩
theorem pPack_in {m : Nat} {xs : Array Value} {P : Pk} {w : World} (h : PkIn w m xs P) (r : Rn P) : Calls Try.prog 41 #[.agg xs] w fun e w' => ∃ v1, e = .returned (.tuple #[v1, .int .i64 (pchk P)]) ∧ Mod (fun _ => False) w w' ∧ (pchk P = 0 → Own w' v1 (Sm.sealed (pby P)) ∧ (∀ g, v1.ownBlock = some g → w.heap.size ≤ g)) ∧ (pchk P ≠ 0 → v1 = .slice none 0 0) := by
  obtain ⟨ao1, cap1, tao, tcap, cao, ccap, hxs, p1, p2, p3, p4, p5, p6⟩ := h
  exact pPack_any P.kind P.to P.d.rs P.d.rr P.d.sq P.d.sn P.d.st P.d.m.kind P.d.m.origin P.d.m.life P.d.m.id P.d.m.part P.d.m.parts P.d.m.groups P.d.m.safe P.d.m.st P.d.m.rs P.d.m.rr P.d.m.sq ao1 cap1 P.d.m.body P.t.rs P.t.rr P.t.hop P.t.sq P.t.aru P.t.low P.t.st P.t.idle tao tcap P.t.ask P.j.sn P.j.proc P.j.ct P.c.rs P.c.rr P.c.mem P.c.hop cao ccap P.c.es P.b.rs P.b.rr P.b.sn xs hxs w p1 p2 r.ask p3 r.proc r.mem r.hop
theorem pCheck_in {m : Nat} {xs : Array Value} {P : Pk} {w : World} (h : PkIn w m xs P) (r : Rn P) : Calls Try.prog 42 #[.agg xs] w fun e w' => e = .returned (.int .i64 (pchk P)) ∧ Mod (fun _ => False) w w' := by
  obtain ⟨ao1, cap1, tao, tcap, cao, ccap, hxs, p1, p2, p3, p4, p5, p6⟩ := h
  exact pCheck_any P.kind P.to P.d.rs P.d.rr P.d.sq P.d.sn P.d.st P.d.m.kind P.d.m.origin P.d.m.life P.d.m.id P.d.m.part P.d.m.parts P.d.m.groups P.d.m.safe P.d.m.st P.d.m.rs P.d.m.rr P.d.m.sq ao1 cap1 P.d.m.body P.t.rs P.t.rr P.t.hop P.t.sq P.t.aru P.t.low P.t.st P.t.idle tao tcap P.t.ask P.j.sn P.j.proc P.j.ct P.c.rs P.c.rr P.c.mem P.c.hop cao ccap P.c.es P.b.rs P.b.rr P.b.sn xs hxs w p1 p2 r.ask p3 r.proc r.mem r.hop
/-- What was packed is unpacked. -/
theorem pUnpack_by {P : Pk} (h : pchk P = 0) (v : Value) (w : World) (hs : Sl w v (Sm.sealed (pby P))) : Calls Try.prog 43 #[v] w fun e w' => ∃ xs, e = .returned (.tuple #[.agg xs, .int .i64 0]) ∧ Mod (fun _ => False) w w' ∧ PkIn w' w.heap.size xs P := by
  refine (pUnpack_any v _ w hs).mono ?_
  intro e w' hU
  unfold UPost at hU
  rw [uE_sealed (pby_len h), (pun_pby h).1, openD_sealed, (pun_pby h).2] at hU
  obtain ⟨xs, rfl, hm, h1, _⟩ := hU
  exact ⟨xs, rfl, hm, h1 rfl⟩
theorem joined_lit (w : World) : Calls Try.prog 71 #[] w fun e w' => e = .returned (.agg #[.int .i64 3, .int .i64 0, .int .i64 0, .int .i64 0, .int .i64 0, .int .i64 0, .int .i64 0, .int .i64 0, .int .i64 0, .int .i64 0, .int .i64 0, .int .i64 0, .int .i64 0, .int .i64 0, .bool false, .int .i64 0, .int .i64 0, .int .i64 0, .int .i64 0, .slice none 0 0, .int .i64 0, .int .i64 0, .int .i64 0, .int .i64 0, .int .i64 0, .int .i64 0, .int .i64 0, .int .i64 0, .slice none 0 0, .int .i64 2, .int .i64 6, .int .i64 300, .int .i64 0, .int .i64 0, .int .i64 0, .int .i64 0, .slice none 0 0, .int .i64 0, .int .i64 0, .int .i64 0]) ∧ Mod (fun _ => False) w w' := joined_any w
theorem fld4 (w : World) : (Instr.field 76 (.agg #[.int .i64 3, .int .i64 0, .int .i64 0, .int .i64 0, .int .i64 0, .int .i64 0, .int .i64 0, .int .i64 0, .int .i64 0, .int .i64 0, .int .i64 0, .int .i64 0, .int .i64 0, .int .i64 0, .bool false, .int .i64 0, .int .i64 0, .int .i64 0, .int .i64 0, .slice none 0 0, .int .i64 0, .int .i64 0, .int .i64 0, .int .i64 0, .int .i64 0, .int .i64 0, .int .i64 0, .int .i64 0, .slice none 0 0, .int .i64 2, .int .i64 6, .int .i64 300, .int .i64 0, .int .i64 0, .int .i64 0, .int .i64 0, .slice none 0 0, .int .i64 0, .int .i64 0, .int .i64 0]) 4).run Try.prog w = .ok (.agg #[.int .i64 2, .int .i64 6, .int .i64 300]) w := by kernel_rfl
theorem pJ_in (w : World) (m : Nat) : PkIn w m #[.int .i64 3, .int .i64 0, .int .i64 0, .int .i64 0, .int .i64 0, .int .i64 0, .int .i64 0, .int .i64 0, .int .i64 0, .int .i64 0, .int .i64 0, .int .i64 0, .int .i64 0, .int .i64 0, .bool false, .int .i64 0, .int .i64 0, .int .i64 0, .int .i64 0, .slice none 0 0, .int .i64 0, .int .i64 0, .int .i64 0, .int .i64 0, .int .i64 0, .int .i64 0, .int .i64 0, .int .i64 0, .slice none 0 0, .int .i64 2, .int .i64 6, .int .i64 300, .int .i64 0, .int .i64 0, .int .i64 0, .int .i64 0, .slice none 0 0, .int .i64 0, .int .i64 0, .int .i64 0] pJ := ⟨none, 0, none, 0, none, 0, rfl, Sl.nil _, CrSl.nil _, SlE.nil _, fun h => absurd rfl h, fun h => absurd rfl h, fun h => absurd rfl h⟩
theorem round_in (w : World) : Calls Try.prog 72 #[] w fun e w' => ∃ xs, e = .returned (.agg xs) ∧ Mod (fun _ => False) w w' ∧ PkIn w' w.heap.size xs pR := by
  refine (round_any w).mono ?_
  rintro e w' ⟨rfl, hm, ho⟩
  exact ⟨_, rfl, hm, ⟨none, 0, some ⟨w.heap.size + 1, 0, none⟩, 1, none, 0, rfl, Sl.nil _, ho.sl, SlE.nil _, fun h => absurd rfl h, fun _ g hg => by simp only [Value.ownBlock, Option.some.injEq] at hg; omega, fun h => absurd rfl h⟩⟩
theorem eqb {u v : Value} {a : List Int} {w : World} (hu : Sl w u a) (hv : Sl w v a) : Calls Try.prog 17 #[u, v] w fun e w' => e = .returned (.bool true) ∧ Mod (fun _ => False) w w' := by
  refine (EqBytes_any u v a a w hu hv).mono ?_
  rintro e w' ⟨rfl, hm⟩
  exact ⟨by simp, hm⟩
theorem pJ_rn : Rn pJ := ⟨by simp [pJ, Tk.zero], by simp [pJ], by simp [pJ, Cm.zero], by simp [pJ, Cm.zero]⟩
theorem pR_rn : Rn pR := ⟨by simp [pR], by simp [pR, Jn.zero], by simp [pR, Cm.zero], by simp [pR, Cm.zero]⟩
set_option maxRecDepth 100000 in
set_option maxHeartbeats 4000000 in
theorem pawake (w : World) : Calls Try.prog 40 #[] w fun e w' => e = .returned (.bool true) ∧ Mod (fun _ => False) w w' := by
  have HP1 := fun W => pPack_in (pJ_in W 0) pJ_rn
  have HP2 := fun m xs W h => @pPack_in m xs pR W h pR_rn
  rw [pJ_chk, pJ_by] at HP1
  rw [pR_chk, pR_by] at HP2
  have HU := fun v W h => pUnpack_by pJ_chk v W h
  rw [pJ_by] at HU
  have r1 : ∀ c ∈ Sm.sealed [3, 0, 2, 6, 172, 2], 0 ≤ c ∧ c ≤ 255 := Sm.sealed_rng (by simp)
  have r2 : ∀ c ∈ Sm.sealed [2, 2, 4, 1, 7, 9, 8, 3, 20, 2, 1, 9], 0 ≤ c ∧ c ≤ 255 := Sm.sealed_rng (by simp)
  have l1 : (Sm.sealed [3, 0, 2, 6, 172, 2]).length = 10 := by rw [Sm.sealed_len]; rfl
  have l2 : (Sm.sealed [2, 2, 4, 1, 7, 9, 8, 3, 20, 2, 1, 9]).length = 16 := by rw [Sm.sealed_len]; rfl
  have t1 : (Sm.sealed [3, 0, 2, 6, 172, 2]).take 6 = [3, 0, 2, 6, 172, 2] := rfl
  have t2 : (Sm.sealed [2, 2, 4, 1, 7, 9, 8, 3, 20, 2, 1, 9]).take 12 = [2, 2, 4, 1, 7, 9, 8, 3, 20, 2, 1, 9] := rfl
  have HJ := joined_lit
  have HR := round_in
  have eJ := eqJoin
  have f4 := fld4
  generalize Sm.sealed [3, 0, 2, 6, 172, 2] = S1 at *
  generalize Sm.sealed [2, 2, 4, 1, 7, 9, 8, 3, 20, 2, 1, 9] = S2 at *
  have R1 : Hid (∀ c ∈ S1, 0 ≤ c ∧ c ≤ 255) := r1
  have R2 : Hid (∀ c ∈ S2, 0 ≤ c ∧ c ≤ 255) := r2
  have T1 : Hid (S1.take 6 = [3, 0, 2, 6, 172, 2]) := t1
  have T2 : Hid (S2.take 12 = [2, 2, 4, 1, 7, 9, 8, 3, 20, 2, 1, 9]) := t2
  have L1 : Hid (S1.length = 10) := l1
  have L2 : Hid (S2.length = 16) := l2
  clear r1 r2 t1 t2 l1 l2
  go_enter Try.func40, Try.ntmps40
  go_wp2_with (fail)
  refine (HJ _).mono ?_
  rintro e w1 ⟨rfl, hm1⟩
  go_wp2_with (fail)
  refine (HP1 _).mono ?_
  rintro e w2 ⟨v1, rfl, hm2, hk1, _⟩
  obtain ⟨ho1, _⟩ := hk1 trivial
  have hM2 := hm1.trans hm2 (V := fun _ => False) (fun _ _ h => h) (fun _ _ h => h)
  clear HP1 hk1 hm1 hm2
  go_wp2_with (fail)
  refine (HR _).mono ?_
  rintro e w3 ⟨xr, rfl, hm3, hx3⟩
  go_wp2_with (fail)
  refine (HP2 _ _ _ hx3).mono ?_
  rintro e w4 ⟨v2, rfl, hm4, hk2, _⟩
  obtain ⟨ho2, _⟩ := hk2 trivial
  have hm34 := hm3.trans hm4 (V := fun _ => False) (fun _ _ h => h) (fun _ _ h => h)
  have ho14 := ho1.mod hm34 (fun _ _ h => h)
  have hM4 := hM2.trans hm34 (V := fun _ => False) (fun _ _ h => h) (fun _ _ h => h)
  clear HP2 hk2 hm3 hm4 hm34 hx3 hM2 ho1 HR
  go_wp2_with (fail)
  refine (HU _ _ (ho14.sl R1.out)).mono ?_
  rintro e w5 ⟨xs, rfl, hm5, hx5⟩
  have ho15 := ho14.mod hm5 (fun _ _ h => h)
  have ho25 := ho2.mod hm5 (fun _ _ h => h)
  have hM5 := hM4.trans hm5 (V := fun _ => False) (fun _ _ h => h) (fun _ _ h => h)
  obtain ⟨hsx, hxo⟩ := hx5.size
  have hj : xs[29]? = some (.int .i64 2) ∧ xs[30]? = some (.int .i64 6) ∧ xs[31]? = some (.int .i64 300) := by
    obtain ⟨ao1, cap1, tao, tcap, cao, ccap, hxs, _⟩ := hx5
    rw [hxs]
    exact ⟨rfl, rfl, rfl⟩
  obtain ⟨ao1, cap1, e1⟩ := ho15.shape
  obtain ⟨ao2, cap2, e2⟩ := ho25.shape
  rw [L1.out] at e1
  rw [L2.out] at e2
  subst e1 e2
  have hBn := Bk.new w5 pz 76
  have hMa : Mod (fun _ => False) w5 (w5.alloc (.cells pz 76)) := (Mod.refl _ w5).alloc _
  clear HU ho14 ho2 hm5 hM4 hx5
  go_wp2_with (refine wpList_store_part info40 rfl rfl _ _ rfl w5.heap.size 0 xs rfl rfl hBn (by show 40 ≤ 40; omega) hsx hxo _ rfl ?_; intro w6 hB6 hM6)
  rw [sets'_all xs.toList (by rw [pz_size]; simp [hsx])] at hB6
  simp only [Array.toArray_toList] at hB6
  have hM56 : Mod (fun _ => False) w5 w6 := hMa.trans hM6 (fun _ _ h => h) (fun i hi h => by omega)
  have c29 := hB6.cellv hj.1
  have c30 := hB6.cellv hj.2.1
  have c31 := hB6.cellv hj.2.2
  have q1 := (ho15.mod hM56 (fun _ _ h => h)).mod (Mod.refl (fun _ => False) w6).drew (fun _ _ h => h)
  have q2 := (ho25.mod hM56 (fun _ _ h => h)).mod (Mod.refl (fun _ => False) w6).drew (fun _ _ h => h)
  have hM := (hM5.trans hM56 (V := fun _ => False) (fun _ _ h => h) (fun _ _ h => h)).drew
  clear hBn hMa hB6 hM6 hM56 ho15 ho25 hM5 hj hsx hxo
  go_region_held3 (fun y => y.cell? ⟨w5.heap.size, 29, none⟩ = some (.int .i64 2) ∧ y.cell? ⟨w5.heap.size, 30, none⟩ = some (.int .i64 6) ∧ y.cell? ⟨w5.heap.size, 31, none⟩ = some (.int .i64 300)) (first | exact ⟨c29, c30, c31⟩ | go_keep)
    (first | (go_at_call 71; refine (HJ _).mono ?_; rintro e w7 ⟨rfl, hm7⟩; replace c29 := hm7.cell c29 (fun h => h); replace c30 := hm7.cell c30 (fun h => h); replace c31 := hm7.cell c31 (fun h => h); replace q1 := q1.mod hm7 (fun _ _ h => h); replace q2 := q2.mod hm7 (fun _ _ h => h); replace hM := hM.trans hm7 (V := fun _ => False) (fun _ _ h => h) (fun _ _ h => h); clear hm7))
  have d1 := q1.sl R1.out
  have d2 := q2.sl R2.out
  have e1 : Value.slice ao1 10 cap1 = .slice ao1 S1.length cap1 := by rw [L1.out]
  have e2 : Value.slice ao2 16 cap2 = .slice ao2 S2.length cap2 := by rw [L2.out]
  rw [e1] at d1
  rw [e2] at d2
  have hc1 : (10 : Int) ≤ cap1 ∧ (cap1 : Int) ≤ 9223372036854775807 := by
    obtain ⟨ao', cap', e, h1, h2, _⟩ := d1.form
    simp only [Value.slice.injEq, true_and] at e
    obtain ⟨rfl, rfl⟩ := e
    have := L1.out
    unfold maxLen at h2
    omega
  have hc2 : (16 : Int) ≤ cap2 ∧ (cap2 : Int) ≤ 9223372036854775807 := by
    obtain ⟨ao', cap', e, h1, h2, _⟩ := d2.form
    simp only [Value.slice.injEq, true_and] at e
    obtain ⟨rfl, rfl⟩ := e
    have := L2.out
    unfold maxLen at h2
    omega
  have u1 := d1.upto 6 (by rw [L1.out]; omega)
  have u2 := d2.upto 12 (by rw [L2.out]; omega)
  rw [T1.out] at u1
  rw [T2.out] at u2
  clear d1 d2 e1 e2 q1 q2 c29 c30 c31 HJ eJ f4 R1 R2 T1 T2 L1 L2
  obtain ⟨h10, h10'⟩ := hc1
  obtain ⟨h16, h16'⟩ := hc2
  go_wp2_with (fail)
  have A1 : Mod (fun _ => False) w7 (w7.alloc (.cells (U [3, 0, 2, 6, 172, 2]).toArray 5)) := (Mod.refl _ _).alloc _
  refine (eqb (u1.mod A1 (fun _ _ h => h)) (Sl.lit w7 [3, 0, 2, 6, 172, 2] (by simp [maxLen]) (by simp))).mono ?_
  rintro e w8 ⟨rfl, hm8⟩
  have u28 := (u2.mod A1 (fun _ _ h => h)).mod hm8 (fun _ _ h => h)
  have hM8 := (hM.trans A1 (V := fun _ => False) (fun _ _ h => h) (fun _ _ h => h)).trans hm8 (V := fun _ => False) (fun _ _ h => h) (fun _ _ h => h)
  clear A1 u1 u2 hm8 hM
  go_wp2_with (fail)
  have A2 : Mod (fun _ => False) w8 (w8.alloc (.cells (U [2, 2, 4, 1, 7, 9, 8, 3, 20, 2, 1, 9]).toArray 5)) := (Mod.refl _ _).alloc _
  refine (eqb (u28.mod A2 (fun _ _ h => h)) (Sl.lit w8 [2, 2, 4, 1, 7, 9, 8, 3, 20, 2, 1, 9] (by simp [maxLen]) (by simp))).mono ?_
  rintro e w9 ⟨rfl, hm9⟩
  have hM9 := (hM8.trans A2 (V := fun _ => False) (fun _ _ h => h) (fun _ _ h => h)).trans hm9 (V := fun _ => False) (fun _ _ h => h) (fun _ _ h => h)
  clear A2 u28 hm9 hM8
  go_wp2
  go_ret
  exact ⟨rfl, hM9⟩
end Go.Proofs.Ytajhpnfpjickbaa
