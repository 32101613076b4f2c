/- PacketBack: what was packed is unpacked, and packed again it is the same bytes, at most 512. No conditions. -/
import Derived.Test.YtajhpnfpjickbaaK55
import Derived.SizedLaws
namespace Go.Proofs.Ytajhpnfpjickbaa
open Go.RowKit
theorem pchk_two (P : Pk) : pchk P = 0 ∨ pchk P = 2 := by
  unfold pchk
  split
  · exact .inl rfl
  · exact .inr rfl
theorem PkIn.mod0 {w w' : World} {m : Nat} {xs : Array Value} {P : Pk} (h : PkIn w m xs P) (hm : Mod (fun _ => False) w w') : PkIn w' m xs P := h.mod hm (fun _ h => h.elim)
set_option maxRecDepth 100000 in
set_option maxHeartbeats 4000000 in
theorem pback_no (P : Pk) (xs : Array Value) (w : World) (h : PkIn w 0 xs P) (r : Rn P) (hc : pchk P = 2) : Calls Try.prog 9 #[.agg xs] w fun e w' => e = .returned (.bool true) ∧ Mod (fun _ => False) w w' := by
  have hM0 : Mod (fun _ => False) w (w.alloc (.cells xs 76)) := (Mod.refl _ w).alloc _
  have hB0 := Bk.new w xs 76
  have hsx := h.size.1
  have HA := pawake
  have HP := fun W hm => @pPack_in 0 xs P W (h.mod0 hm) r
  have HC := fun W hm => @pCheck_in 0 xs P W (h.mod0 hm) r
  rw [hc] at HP HC
  clear h r hc
  go_enter Try.func9, Try.ntmps9
  go_wp2_with (fail)
  refine (HA _).mono ?_
  rintro e w1 ⟨rfl, hm1⟩
  have hM1 := hM0.trans hm1 (V := fun _ => False) (fun _ _ h => h) (fun _ _ h => h)
  have hB1 := hB0.mod hm1 (fun h => h)
  have HP1 := HP _ hM1
  clear HA HP hB0 hm1 hM0
  go_wp2_with (refine wpList_load_row info40 Try.underlying76 rfl rfl _ rfl w.heap.size rfl hB1 hsx ?_; simp only [Act.put, List.setIfInBounds_toArray, List.set_cons_succ, List.set_cons_zero])
  refine HP1.mono ?_
  rintro e w2 ⟨v1, rfl, hm2, _, hk2⟩
  obtain rfl := hk2 (by decide)
  have hM2 := hM1.trans hm2 (V := fun _ => False) (fun _ _ h => h) (fun _ _ h => h)
  have hB2 := hB1.mod hm2 (fun h => h)
  have HC2 := HC _ hM2
  clear HP1 HC hB1 hm2 hM1 hk2
  go_wp2_with (refine wpList_load_rowg info40 Try.underlying76 rfl rfl _ rfl w.heap.size rfl hB2 hsx ?_; simp only [Act.put, List.setIfInBounds_toArray, List.set_cons_succ, List.set_cons_zero])
  refine HC2.mono ?_
  rintro e w3 ⟨rfl, hm3⟩
  clear HC2
  go_wp2
  go_ret
  exact ⟨rfl, hM2.trans hm3 (fun _ _ h => h) (fun _ _ h => h)⟩
set_option maxRecDepth 100000 in
set_option maxHeartbeats 8000000 in
theorem pback_ok (P : Pk) (xs : Array Value) (w : World) (h : PkIn w 0 xs P) (r : Rn P) (hc : pchk P = 0) : Calls Try.prog 9 #[.agg xs] w fun e w' => e = .returned (.bool true) ∧ Mod (fun _ => False) w w' := by
  have hM0 : Mod (fun _ => False) w (w.alloc (.cells xs 76)) := (Mod.refl _ w).alloc _
  have hB0 := Bk.new w xs 76
  have hsx := h.size.1
  have HA := pawake
  have HX : Hid (PkIn w 0 xs P) := h
  have HRn : Hid (Rn P) := r
  have HP := fun m xs W h => @pPack_in m xs P W h r
  have HC := fun W hm => @pCheck_in 0 xs P W (h.mod0 hm) r
  have HU := fun v W h => @pUnpack_by P hc v W h
  have hrb : ∀ c ∈ P.d.m.body, 0 ≤ c ∧ c ≤ 255 := by
    obtain ⟨_, _, _, _, _, _, _, p1, _⟩ := h
    exact p1.rng
  have HRg : Hid (∀ c ∈ Sm.sealed (pby P), 0 ≤ c ∧ c ≤ 255) := Sm.sealed_rng (pby_rng hrb)
  have hlen : ((Sm.sealed (pby P)).length : Int) ≤ 512 := by have := pby_len hc; rw [Sm.sealed_len]; omega
  rw [hc] at HP HC
  generalize Sm.sealed (pby P) = S at *
  clear h r hc hrb
  go_enter Try.func9, Try.ntmps9
  go_wp2_with (fail)
  refine (HA _).mono ?_
  rintro e w1 ⟨rfl, hm1⟩
  have hM1 := hM0.trans hm1 (V := fun _ => False) (fun _ _ h => h) (fun _ _ h => h)
  have hB1 := hB0.mod hm1 (fun h => h)
  have HP1 := HP _ _ _ (HX.out.mod0 hM1)
  clear HA hB0 hm1 hM0
  go_wp2_with (refine wpList_load_row info40 Try.underlying76 rfl rfl _ rfl w.heap.size rfl hB1 hsx ?_; simp only [Act.put, List.setIfInBounds_toArray, List.set_cons_succ, List.set_cons_zero])
  refine HP1.mono ?_
  rintro e w2 ⟨v1, rfl, hm2, hk2, _⟩
  obtain ⟨ho2, _⟩ := hk2 trivial
  have hM2 := hM1.trans hm2 (V := fun _ => False) (fun _ _ h => h) (fun _ _ h => h)
  have hB2 := hB1.mod hm2 (fun h => h)
  clear HP1 hB1 hm2 hM1 hk2
  go_wp2_with (fail)
  refine (HU _ _ (ho2.sl HRg.out)).mono ?_
  rintro e w3 ⟨ys, rfl, hm3, hy3⟩
  have hM3 := hM2.trans hm3 (V := fun _ => False) (fun _ _ h => h) (fun _ _ h => h)
  have hB3 := hB2.mod hm3 (fun h => h)
  have ho3 := ho2.mod hm3 (fun _ _ h => h)
  obtain ⟨hsy, hyo⟩ := hy3.size
  have hBn := Bk.new w3 pz 76
  have hMa : Mod (fun _ => False) w3 (w3.alloc (.cells pz 76)) := (Mod.refl _ w3).alloc _
  have hwl : w.heap.size < w3.heap.size := hB3.lt
  clear HU ho2 hB2 hM2 hm3
  go_wp2_with (first | (refine wpList_store_part info40 rfl rfl _ _ rfl w3.heap.size 0 ys rfl rfl hBn (by show 40 ≤ 40; omega) hsy hyo _ rfl ?_; intro w4 hB4 hM4; rw [sets'_all ys.toList (by rw [pz_size]; simp [hsy])] at hB4; simp only [Array.toArray_toList] at hB4) | (refine wpList_load_row info40 Try.underlying76 rfl rfl _ rfl w3.heap.size rfl hB4 hsy ?_; simp only [Act.put, List.setIfInBounds_toArray, List.set_cons_succ, List.set_cons_zero]))
  have hM34 : Mod (fun _ => False) w3 w4 := hMa.trans hM4 (fun _ _ h => h) (fun i hi h => by omega)
  have hMw4 := hM3.trans hM34 (V := fun _ => False) (fun _ _ h => h) (fun _ _ h => h)
  have hA4 := hB3.mod hM34 (fun h => h)
  have ho4 := ho3.mod hM34 (fun _ _ h => h)
  have hy4 := hy3.mod0 hM34
  have HP4 := HP _ _ _ hy4
  clear hBn hMa hM4 hM34 hM3 hB3 ho3 hy3 HP
  refine HP4.mono ?_
  rintro e w5 ⟨v5, rfl, hm5, hk5, _⟩
  obtain ⟨ho5, _⟩ := hk5 trivial
  have hM5 := hMw4.trans hm5 (V := fun _ => False) (fun _ _ h => h) (fun _ _ h => h)
  have hA5 := hA4.mod hm5 (fun h => h)
  have hB5 := hB4.mod hm5 (fun h => h)
  have ho45 := ho4.mod hm5 (fun _ _ h => h)
  have hy5 := hy4.mod0 hm5
  have HC5 := HC _ hM5
  clear HP4 hk5 hm5 hA4 hB4 ho4 hy4 HC hMw4
  go_wp2_with (refine wpList_load_row info40 Try.underlying76 rfl rfl _ rfl w.heap.size rfl hA5 hsx ?_; simp only [Act.put, List.setIfInBounds_toArray, List.set_cons_succ, List.set_cons_zero])
  refine HC5.mono ?_
  rintro e w6 ⟨rfl, hm6⟩
  have hM6 := hM5.trans hm6 (V := fun _ => False) (fun _ _ h => h) (fun _ _ h => h)
  have hA6 := hA5.mod hm6 (fun h => h)
  have hB6 := hB5.mod hm6 (fun h => h)
  have q1 := ho45.mod hm6 (fun _ _ h => h)
  have q2 := ho5.mod hm6 (fun _ _ h => h)
  have hy6 := hy5.mod0 hm6
  have HQ := eqb (q1.sl HRg.out) (q2.sl HRg.out)
  obtain ⟨ao1, cap1, rfl⟩ := q1.shape
  clear HC5 hm6 hA5 hB5 ho45 ho5 hy5 hM5 q1 q2
  go_wp2_with (fail)
  refine HQ.mono ?_
  rintro e w7 ⟨rfl, hm7⟩
  have hM7 := hM6.trans hm7 (V := fun _ => False) (fun _ _ h => h) (fun _ _ h => h)
  have hA7 := hA6.mod hm7 (fun h => h)
  have hB7 := hB6.mod hm7 (fun h => h)
  have hx7 := HX.out.mod0 hM7
  have hy7 := hy6.mod0 hm7
  clear HQ hm7 hA6 hB6 hy6 hM6 HX HRg HRn hwl hsx hsy hyo
  obtain ⟨aX, pX, taX, tpX, caX, cpX, eX, pX1, pX2, _⟩ := hx7
  obtain ⟨aY, pY, taY, tpY, caY, cpY, eY, pY1, pY2, _⟩ := hy7
  have x0 := hA7.cellv (show xs[0]? = some (.int .i64 P.kind) by rw [eX]; rfl)
  have x1 := hA7.cellv (show xs[1]? = some (.int .i64 P.to) by rw [eX]; rfl)
  have x2 := hA7.cellv (show xs[2]? = some (.int .i64 P.d.rs) by rw [eX]; rfl)
  have x3 := hA7.cellv (show xs[3]? = some (.int .i64 P.d.rr) by rw [eX]; rfl)
  have x4 := hA7.cellv (show xs[4]? = some (.int .i64 P.d.sq) by rw [eX]; rfl)
  have x15 := hA7.cellv (show xs[15]? = some (.int .i64 P.d.m.st) by rw [eX]; rfl)
  have x16 := hA7.cellv (show xs[16]? = some (.int .i64 P.d.m.rs) by rw [eX]; rfl)
  have x17 := hA7.cellv (show xs[17]? = some (.int .i64 P.d.m.rr) by rw [eX]; rfl)
  have x18 := hA7.cellv (show xs[18]? = some (.int .i64 P.d.m.sq) by rw [eX]; rfl)
  have x19 := hA7.cellv (show xs[19]? = some (.slice aX P.d.m.body.length pX) by rw [eX]; rfl)
  have x22 := hA7.cellv (show xs[22]? = some (.int .i64 P.t.hop) by rw [eX]; rfl)
  have x28 := hA7.cellv (show xs[28]? = some (.slice taX P.t.ask.length tpX) by rw [eX]; rfl)
  have x29 := hA7.cellv (show xs[29]? = some (.int .i64 P.j.sn) by rw [eX]; rfl)
  have x30 := hA7.cellv (show xs[30]? = some (.int .i64 P.j.proc) by rw [eX]; rfl)
  have x31 := hA7.cellv (show xs[31]? = some (.int .i64 P.j.ct) by rw [eX]; rfl)
  have x34 := hA7.cellv (show xs[34]? = some (.int .i64 P.c.mem) by rw [eX]; rfl)
  have x36 := hA7.cellv (show xs[36]? = some (.slice caX P.c.es.length cpX) by rw [eX]; rfl)
  have x37 := hA7.cellv (show xs[37]? = some (.int .i64 P.b.rs) by rw [eX]; rfl)
  have x38 := hA7.cellv (show xs[38]? = some (.int .i64 P.b.rr) by rw [eX]; rfl)
  have x39 := hA7.cellv (show xs[39]? = some (.int .i64 P.b.sn) by rw [eX]; rfl)
  have y0 := hB7.cellv (show ys[0]? = some (.int .i64 P.kind) by rw [eY]; rfl)
  have y1 := hB7.cellv (show ys[1]? = some (.int .i64 P.to) by rw [eY]; rfl)
  have y2 := hB7.cellv (show ys[2]? = some (.int .i64 P.d.rs) by rw [eY]; rfl)
  have y3 := hB7.cellv (show ys[3]? = some (.int .i64 P.d.rr) by rw [eY]; rfl)
  have y4 := hB7.cellv (show ys[4]? = some (.int .i64 P.d.sq) by rw [eY]; rfl)
  have y15 := hB7.cellv (show ys[15]? = some (.int .i64 P.d.m.st) by rw [eY]; rfl)
  have y16 := hB7.cellv (show ys[16]? = some (.int .i64 P.d.m.rs) by rw [eY]; rfl)
  have y17 := hB7.cellv (show ys[17]? = some (.int .i64 P.d.m.rr) by rw [eY]; rfl)
  have y18 := hB7.cellv (show ys[18]? = some (.int .i64 P.d.m.sq) by rw [eY]; rfl)
  have y19 := hB7.cellv (show ys[19]? = some (.slice aY P.d.m.body.length pY) by rw [eY]; rfl)
  have y22 := hB7.cellv (show ys[22]? = some (.int .i64 P.t.hop) by rw [eY]; rfl)
  have y28 := hB7.cellv (show ys[28]? = some (.slice taY P.t.ask.length tpY) by rw [eY]; rfl)
  have y29 := hB7.cellv (show ys[29]? = some (.int .i64 P.j.sn) by rw [eY]; rfl)
  have y30 := hB7.cellv (show ys[30]? = some (.int .i64 P.j.proc) by rw [eY]; rfl)
  have y31 := hB7.cellv (show ys[31]? = some (.int .i64 P.j.ct) by rw [eY]; rfl)
  have y34 := hB7.cellv (show ys[34]? = some (.int .i64 P.c.mem) by rw [eY]; rfl)
  have y36 := hB7.cellv (show ys[36]? = some (.slice caY P.c.es.length cpY) by rw [eY]; rfl)
  have y37 := hB7.cellv (show ys[37]? = some (.int .i64 P.b.rs) by rw [eY]; rfl)
  have y38 := hB7.cellv (show ys[38]? = some (.int .i64 P.b.rr) by rw [eY]; rfl)
  have y39 := hB7.cellv (show ys[39]? = some (.int .i64 P.b.sn) by rw [eY]; rfl)
  have eJ := eqJoin
  have eB := eqBeacon
  have eR := eqRing
  have eK := eqKey
  have HQ1 := eqb pY1 pX1
  have HQ2 := fun W (hm : Mod (fun _ => False) w7 W) => Cr.EqInts_at true (pY2.mod hm (fun _ _ h => h)) (pX2.mod hm (fun _ _ h => h)) (by simp)
  clear hA7 hB7 eX eY pX1 pX2 pY1 pY2
  go_wp2_with (fail)
  refine HQ1.mono ?_
  rintro e w8 ⟨rfl, hm8⟩
  replace x22 := hm8.cell x22 (fun h => h)
  replace x28 := hm8.cell x28 (fun h => h)
  replace x34 := hm8.cell x34 (fun h => h)
  replace x36 := hm8.cell x36 (fun h => h)
  replace y22 := hm8.cell y22 (fun h => h)
  replace y28 := hm8.cell y28 (fun h => h)
  replace y34 := hm8.cell y34 (fun h => h)
  replace y36 := hm8.cell y36 (fun h => h)
  have HQ3 := HQ2 _ hm8
  clear HQ1 HQ2
  go_wp2_with (fail)
  refine HQ3.mono ?_
  rintro e w9 ⟨rfl, hm9⟩
  replace x34 := hm9.cell x34 (fun h => h)
  replace x36 := hm9.cell x36 (fun h => h)
  replace y34 := hm9.cell y34 (fun h => h)
  replace y36 := hm9.cell y36 (fun h => h)
  clear HQ3
  go_wp2
  go_ret
  exact ⟨rfl, (hM7.trans hm8 (V := fun _ => False) (fun _ _ h => h) (fun _ _ h => h)).trans hm9 (fun _ _ h => h) (fun _ _ h => h)⟩
theorem pback_walk (P : Pk) (xs : Array Value) (w : World) (h : PkIn w 0 xs P) (r : Rn P) : Calls Try.prog 9 #[.agg xs] w fun e w' => e = .returned (.bool true) ∧ Mod (fun _ => False) w w' := by
  rcases pchk_two P with hc | hc
  · exact pback_ok P xs w h r hc
  · exact pback_no P xs w h r hc
namespace packetBack
open Go.ChangeShapes Go.WideShapes Go.ChangeAt Go.RowKit
set_option maxRecDepth 100000 in
theorem lifted (os : Os) (started : os.Started) (H : Type) (enc : TypeId × Value → H) :
    ReturnsInHanded {} Try.checked os 9 .any (Rows.packetBackSpec.pre6 enc Try.prog Try.f9 Rows.packetBackRow.domain false) (Rows.packetBackSpec.post enc Try.prog Try.f9 false true false false) := by
  refine returnsInHanded_of_change_sized (C := Try.checked) own started (by kernel_rfl) Try.func9
    (ChangeSpec.witness6 (enc := enc) (C := Try.checked) false ⟨#[], #[.agg #[.int .i64 0, .int .i64 0, .int .i64 0, .int .i64 0, .int .i64 0, .int .i64 0, .int .i64 0, .int .i64 0, .int .i64 0, .int .i64 0, .int .i64 0, .int .i64 0, .int .i64 0, .int .i64 0, .bool false, .int .i64 0, .int .i64 0, .int .i64 0, .int .i64 0, .slice none 0 0, .int .i64 0, .int .i64 0, .int .i64 0, .int .i64 0, .int .i64 0, .int .i64 0, .int .i64 0, .int .i64 0, .slice none 0 0, .int .i64 0, .int .i64 0, .int .i64 0, .int .i64 0, .int .i64 0, .int .i64 0, .int .i64 0, .slice none 0 0, .int .i64 0, .int .i64 0, .int .i64 0]], []⟩ 8 (by kernel_rfl) (by kernel_rfl) (by kernel_rfl) (by kernel_rfl)) ?_
  intro W base args ds gs before hval0 hW hcnd hsz0 _
  have hval : ∀ (j : Nat) t v, Try.f9.params[j]? = some t → args[j]? = some v → Value.okWide Try.prog W .any base t v := hval0
  have hsz : (DataW.weightsEach Try.prog (Try.f9.params.toList ++ Rows.packetBackSpec.plain.varTypes Try.prog) (ds ++ gs)).all (· ≤ reachBytes) = true := hsz0
  have hW' := hW
  obtain ⟨p, q, hA0, hV, rfl, hfz, hnd⟩ := hW
  have hA : DataW.TrodAll enc Try.prog W 0 (fun _ => true) true Try.f9.params.toList args.toList ds p := hA0
  rw [Try.params9] at hA hval hsz
  obtain ⟨v0, vs0, d0, ds0, p0, q0, hargs, rfl, rfl, h0, r0⟩ := trodAll_cons hA
  obtain ⟨rfl, rfl, rfl⟩ := trodAll_nil r0
  obtain rfl : args = #[v0] := by cases args; simp_all
  obtain ⟨rfl, rfl⟩ := trodVars_none hV
  have k0 := h0
  have lt0 : ∀ x ∈ p0, x.block < W.heap.size := by obtain ⟨m, hm⟩ := k0; exact DataW.trod_lt m _ _ _ hm
  obtain ⟨P, xs, rfl, hP, hR⟩ := open_packet (hval 0 76 v0 rfl rfl) h0
  clear hA0 hval0
  refine (pback_walk P xs W hP hR).mono fun e W' ⟨he, hm⟩ => ?_
  subst he
  have bel : Below W.heap.size W W' := hm.below _ (Nat.le_refl _) (fun _ h => h.elim)
  exact ⟨_, rfl, _, _, _, [], _, [], hW', trodAll_mk1 (shut_bool Try.underlying4 _), (trodAll_cons_mk (Below.trod laidOut (by kernel_rfl) (of_decide_eq_true (by kernel_rfl)) k0 bel lt0) trodAll_mk0), rfl, bel.frame _, fun h => by cases h⟩

theorem over : Rows.packetBackRow.holds Try.pinned (OpenSpec.ofChange Rows.packetBackSpec) :=
  OpenClaim.holds_of_wide 9 Try.f9 rfl rfl rfl rfl rfl rfl rfl ⟨rfl, rfl, rfl, rfl, rfl⟩ rfl rfl rfl rfl rfl (by kernel_rfl) Try.func9 (by kernel_rfl)
    (of_decide_eq_true (by kernel_rfl)) (by unfold Func.isWrapper; first | (rw [if_pos (by decide +kernel)]; kernel_rfl) | (rw [if_neg (by decide +kernel)]; exact ⟨rfl, rfl⟩))
    (fun os started H enc _ => lifted os started H enc)
end packetBack
theorem packetBack_holds : Rows.PacketBackSaid := packetBack.over
end Go.Proofs.Ytajhpnfpjickbaa
