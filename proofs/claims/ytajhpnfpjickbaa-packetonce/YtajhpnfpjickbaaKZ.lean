/- PacketOnce: bytes that are a packet are just those that it is packed into. No conditions beyond sizes that a slice of bytes has. -/
import Derived.Test.YtajhpnfpjickbaaK53
import Derived.Test.YtajhpnfpjickbaaK54
import Derived.SizedLaws
namespace Go.Proofs.Ytajhpnfpjickbaa
open Go.RowKit
set_option maxRecDepth 100000 in
set_option maxHeartbeats 4000000 in
theorem ponce_ok (v : Value) (L : List Int) (w : World) (hs : Sl w v L) (hb : L.length ≤ 140737488351232) (hU : uE (Sm.sealed L) = 0) :
    Calls Try.prog 10 #[v] w fun e w' => e = .returned (.bool true) ∧ Mod (fun _ => False) w w' := by
  have hl : L.length ≤ 508 := by
    rcases Nat.lt_or_ge 508 L.length with h | h
    · rw [uE_great (by omega)] at hU; cases hU
    · exact h
  have hpu : pun L = 0 := by rw [← uE_sealed hl]; exact hU
  obtain ⟨hby, hck⟩ := pby_prP hs.rng hpu
  have HSe := fun W h => Sm.Seal_any v L W h (by omega)
  have HUn := fun v2 W h => pUnpack_any v2 (Sm.sealed L) W h
  have HR : Hid (∀ c ∈ Sm.sealed L, 0 ≤ c ∧ c ≤ 255) := Sm.sealed_rng hs.rng
  unfold UPost at HUn
  rw [hU, openD_sealed] at HUn
  have HP := fun m xs W h => @pPack_in m xs (prP L) W h (Rn.read L)
  rw [hck, hby] at HP
  have HA := pawake
  have HS : Hid (Sl w v L) := hs
  generalize prP L = P at *
  generalize Sm.sealed L = S at *
  clear hs hU hl hpu hby hck hb
  go_enter Try.func10, Try.ntmps10
  go_wp2_with (fail)
  refine (HA _).mono ?_
  rintro e w1 ⟨rfl, hm1⟩
  go_wp2_with (fail)
  refine (HSe _ (HS.out.mod hm1 (fun _ _ h => h))).mono ?_
  rintro e w2 ⟨v2, rfl, ho2, hm2, _⟩
  have hM2 := hm1.trans hm2 (V := fun _ => False) (fun _ _ h => h) (fun _ _ h => h)
  clear HA HSe hm1 hm2
  go_wp2_with (fail)
  refine (HUn _ _ (ho2.sl HR.out)).mono ?_
  rintro e w3 ⟨xs, rfl, hm3, hk3, _⟩
  have hx3 := hk3 trivial
  have ho3 := ho2.mod hm3 (fun _ _ h => h)
  have hM3 := hM2.trans hm3 (V := fun _ => False) (fun _ _ h => h) (fun _ _ h => h)
  obtain ⟨hsx, hxo⟩ := hx3.size
  have hBn := Bk.new w3 pz 76
  have hMa : Mod (fun _ => False) w3 (w3.alloc (.cells pz 76)) := (Mod.refl _ w3).alloc _
  clear HUn ho2 hk3 hM2 hm3
  go_wp2_with (first | (refine wpList_store_part info40 rfl rfl _ _ rfl w3.heap.size 0 xs rfl rfl hBn (by show 40 ≤ 40; omega) hsx hxo _ rfl ?_; intro w4 hB4 hM4; rw [sets'_all xs.toList (by rw [pz_size]; simp [hsx])] at hB4; simp only [Array.toArray_toList] at hB4) | (refine wpList_load_row info40 Try.underlying76 rfl rfl _ rfl w3.heap.size rfl hB4 hsx ?_; simp only [Act.put, List.setIfInBounds_toArray, List.set_cons_succ, List.set_cons_zero]))
  have hM34 : Mod (fun _ => False) w3 w4 := hMa.trans hM4 (fun _ _ h => h) (fun i hi h => by omega)
  have ho4 := ho3.mod hM34 (fun _ _ h => h)
  have hM5 := hM3.trans hM34 (V := fun _ => False) (fun _ _ h => h) (fun _ _ h => h)
  have hx4 := hx3.mod hM34 (fun _ h => h.elim)
  clear hBn hMa hB4 hM4 hM34 hM3 ho3 hx3
  refine (HP _ _ _ hx4).mono ?_
  rintro e w5 ⟨v5, rfl, hm5, hk5, _⟩
  obtain ⟨ho5, _⟩ := hk5 trivial
  have ho6 := ho4.mod hm5 (fun _ _ h => h)
  have HQ := eqb (ho5.sl HR.out) (ho6.sl HR.out)
  clear HP hk5 hx4 ho4 ho5 ho6
  go_wp2_with (fail)
  refine HQ.mono ?_
  rintro e w6 ⟨rfl, hm6⟩
  clear HQ
  go_wp2
  go_ret
  exact ⟨rfl, (hM5.trans hm5 (V := fun _ => False) (fun _ _ h => h) (fun _ _ h => h)).trans hm6 (fun _ _ h => h) (fun _ _ h => h)⟩
set_option maxRecDepth 100000 in
set_option maxHeartbeats 4000000 in
theorem ponce_no (v : Value) (L : List Int) (w : World) (hs : Sl w v L) (hb : L.length ≤ 140737488351232) (hU : uE (Sm.sealed L) ≠ 0) :
    Calls Try.prog 10 #[v] w fun e w' => e = .returned (.bool true) ∧ Mod (fun _ => False) w w' := by
  have HSe := fun W h => Sm.Seal_any v L W h (by omega)
  have HUn := fun v2 W h => pUnpack_any v2 (Sm.sealed L) W h
  have HR : Hid (∀ c ∈ Sm.sealed L, 0 ≤ c ∧ c ≤ 255) := Sm.sealed_rng hs.rng
  unfold UPost at HUn
  have HA := pawake
  have HS : Hid (Sl w v L) := hs
  have hen : (uE (Sm.sealed L) != 0) = true := by simp [hU]
  have HEE : Hid (uE (Sm.sealed L) ≠ 0) := hU
  generalize uE (Sm.sealed L) = E at *
  generalize prP (Sm.openD (Sm.sealed L)) = P at *
  generalize Sm.sealed L = S at *
  have eJ := eqJoin
  have eB := eqBeacon
  clear hs hb hU
  go_enter Try.func10, Try.ntmps10
  go_wp2_with (fail)
  refine (HA _).mono ?_
  rintro e w1 ⟨rfl, hm1⟩
  go_wp2_with (fail)
  refine (HSe _ (HS.out.mod hm1 (fun _ _ h => h))).mono ?_
  rintro e w2 ⟨v2, rfl, ho2, hm2, _⟩
  have hM2 := hm1.trans hm2 (V := fun _ => False) (fun _ _ h => h) (fun _ _ h => h)
  clear HA HSe hm1 hm2
  go_wp2_with (fail)
  refine (HUn _ _ (ho2.sl HR.out)).mono ?_
  rintro e w3 ⟨xs, rfl, hm3, _, hk3⟩
  obtain rfl := hk3 HEE.out
  have hM3 := hM2.trans hm3 (V := fun _ => False) (fun _ _ h => h) (fun _ _ h => h)
  have hBn := Bk.new w3 pz 76
  have hMa : Mod (fun _ => False) w3 (w3.alloc (.cells pz 76)) := (Mod.refl _ w3).alloc _
  clear HUn ho2 hk3 hM2 hm3
  go_wp2_with (refine wpList_store_row info40 rfl rfl _ _ rfl w3.heap.size pz rfl rfl hBn rfl rfl rfl ?_; intro w4 hB4 hM4; have c0 := hB4.cellv (j := 0) (v := .int .i64 0) rfl; have c1 := hB4.cellv (j := 1) (v := .int .i64 0) rfl; have c28 := hB4.cellv (j := 28) (v := .slice none 0 0) rfl; have c29 := hB4.cellv (j := 29) (v := .int .i64 0) rfl; have c30 := hB4.cellv (j := 30) (v := .int .i64 0) rfl; have c31 := hB4.cellv (j := 31) (v := .int .i64 0) rfl; have c37 := hB4.cellv (j := 37) (v := .int .i64 0) rfl; have c38 := hB4.cellv (j := 38) (v := .int .i64 0) rfl; have c39 := hB4.cellv (j := 39) (v := .int .i64 0) rfl)
  go_ret
  exact ⟨rfl, (hM3.trans hMa (V := fun _ => False) (fun _ _ h => h) (fun _ _ h => h)).trans hM4 (fun _ _ h => h) (fun i hi h => by have := hM3.size; omega)⟩
theorem ponce_walk (v : Value) (L : List Int) (w : World) (hs : Sl w v L) (hb : L.length ≤ 140737488351232) :
    Calls Try.prog 10 #[v] w fun e w' => e = .returned (.bool true) ∧ Mod (fun _ => False) w w' := by
  by_cases hU : uE (Sm.sealed L) = 0
  · exact ponce_ok v L w hs hb hU
  · exact ponce_no v L w hs hb hU
namespace packetOnce
open Go.ChangeShapes Go.WideShapes Go.ChangeAt Go.RowKit
set_option maxRecDepth 100000 in
theorem lifted (os : Os) (started : os.Started) (H : Type) (enc : TypeId × Value → H) :
    ReturnsInHanded {} Try.checked os 10 .any (Rows.packetOnceSpec.pre6 enc Try.prog Try.f10 Rows.packetOnceRow.domain false) (Rows.packetOnceSpec.post enc Try.prog Try.f10 false true false false) := by
  refine returnsInHanded_of_change_sized (C := Try.checked) own started (by kernel_rfl) Try.func10
    (ChangeSpec.witness6 (enc := enc) (C := Try.checked) false ⟨#[], #[.slice none 0 0], []⟩ 8 (by kernel_rfl) (by kernel_rfl) (by kernel_rfl) (by kernel_rfl)) ?_
  intro W base args ds gs before hval0 hW hcnd hsz0 _
  have hval : ∀ (j : Nat) t v, Try.f10.params[j]? = some t → args[j]? = some v → Value.okWide Try.prog W .any base t v := hval0
  have hsz : (DataW.weightsEach Try.prog (Try.f10.params.toList ++ Rows.packetOnceSpec.plain.varTypes Try.prog) (ds ++ gs)).all (· ≤ reachBytes) = true := hsz0
  have hW' := hW
  obtain ⟨p, q, hA0, hV, rfl, hfz, hnd⟩ := hW
  have hA : DataW.TrodAll enc Try.prog W 0 (fun _ => true) true Try.f10.params.toList args.toList ds p := hA0
  rw [Try.params10] at hA hval hsz
  obtain ⟨v0, vs0, d0, ds0, p0, q0, hargs, rfl, rfl, h0, r0⟩ := trodAll_cons hA
  obtain ⟨rfl, rfl, rfl⟩ := trodAll_nil r0
  obtain rfl : args = #[v0] := by cases args; simp_all
  obtain ⟨rfl, rfl⟩ := trodVars_none hV
  have hs0 := okWide_slice Try.underlying26 (hval 0 26 v0 rfl rfl)
  have k0 := h0
  have lt0 : ∀ x ∈ p0, x.block < W.heap.size := by obtain ⟨m, hm⟩ := k0; exact DataW.trod_lt m _ _ _ hm
  obtain ⟨B0, hB0, hBl0⟩ : ∃ B, Sl W v0 B ∧ B.length ≤ 140737488351232 := by
    obtain ⟨ao, len, cap, rfl⟩ := hs0
    obtain ⟨fuel, hf⟩ := h0
    obtain ⟨B, hB, hx⟩ := sl_of_trod (c := .slice ao len cap) (by simpa [Value.cells] using hf)
    refine ⟨B, hB, ?_⟩
    simp only at hx
    rcases hx with ⟨rfl, rfl⟩ | ⟨e, s, rfl, hlen⟩
    · simp
    · have := sized_slice hsz (j := 0) (t := 26) (e := 5) rfl rfl Try.underlying26
      rw [bytes5] at this
      simp only [reachBytes] at this
      omega
  clear hA0 hval0
  refine (ponce_walk v0 B0 W hB0 hBl0).mono fun e W' ⟨he, hm⟩ => ?_
  subst he
  have bel : Below W.heap.size W W' := hm.below _ (Nat.le_refl _) (fun _ h => h.elim)
  exact ⟨_, rfl, _, _, _, [], _, [], hW', trodAll_mk1 (shut_bool Try.underlying4 _), (trodAll_cons_mk (Below.trod laidOut (by kernel_rfl) (of_decide_eq_true (by kernel_rfl)) k0 bel lt0) trodAll_mk0), rfl, bel.frame _, fun h => by cases h⟩

theorem over : Rows.packetOnceRow.holds Try.pinned (OpenSpec.ofChange Rows.packetOnceSpec) :=
  OpenClaim.holds_of_wide 10 Try.f10 rfl rfl rfl rfl rfl rfl rfl ⟨rfl, rfl, rfl, rfl, rfl⟩ rfl rfl rfl rfl rfl (by kernel_rfl) Try.func10 (by kernel_rfl)
    (of_decide_eq_true (by kernel_rfl)) (by unfold Func.isWrapper; first | (rw [if_pos (by decide +kernel)]; kernel_rfl) | (rw [if_neg (by decide +kernel)]; exact ⟨rfl, rfl⟩))
    (fun os started H enc _ => lifted os started H enc)
end packetOnce
theorem packetOnce_holds : Rows.PacketOnceSaid := packetOnce.over
end Go.Proofs.Ytajhpnfpjickbaa
