/- ParcelBack: a message that was packed is unpacked as it was; one that may not be has no bytes, and Pack's error is Check's. No conditions. -/
import Derived.Test.YtinopcjogmhppaaCy
import Derived.Test.YtinopcjogmhppaaEn
namespace Go.Proofs.Ytinopcjogmhppaa
open Go.RowKit
set_option maxRecDepth 100000 in
set_option maxHeartbeats 2000000 in
theorem back_walk (k o lf i p ps g : Int) (s : Bool) (st rs rr sq : Int) (ao : Option Addr) (cap : Nat) (l : List Int) (w : World) (hs : Sl w (.slice ao l.length cap) l) :
    Calls Try.prog 7 #[.agg #[.int .i64 k, .int .i64 o, .int .i64 lf, .int .i64 i, .int .i64 p, .int .i64 ps, .int .i64 g, .bool s, .int .i64 st, .int .i64 rs, .int .i64 rr, .int .i64 sq, .slice ao l.length cap]] w fun e w' => e = .returned (.bool true) ∧ Mod (fun _ => False) w w' := by
  have HC := fun W h => Check_any k o lf i p ps g s st rs rr sq ao cap l W h
  have HP := fun W h => Pack_any k o lf i p ps g s st rs rr sq ao cap l W h
  have hm0 := MB.new w k o lf i p ps g s st rs rr sq (.slice ao l.length cap)
  have hA := (Mod.refl (fun _ => False) w).alloc (.cells #[.int .i64 k, .int .i64 o, .int .i64 lf, .int .i64 i, .int .i64 p, .int .i64 ps, .int .i64 g, .bool s, .int .i64 st, .int .i64 rs, .int .i64 rr, .int .i64 sq, (.slice ao l.length cap)] 28)
  have hrb := hs.rng
  by_cases hc : chk ⟨k, o, lf, i, p, ps, g, s, st, rs, rr, sq, l⟩ = 0
  case neg =>
    generalize chk ⟨k, o, lf, i, p, ps, g, s, st, rs, rr, sq, l⟩ = E at HC HP hc
    have hen : (E != 0) = true := by simp [hc]
    go_enter Try.func7, Try.ntmps7
    go_wp2_with (fail)
    refine (awake _).mono ?_
    rintro e w1 ⟨rfl, hm1⟩
    have hA1 := hA.trans hm1 (V := fun _ => False) (fun _ _ h => h) (fun _ _ h => h)
    have hb1 := hm0.mod hm1 (fun h => h)
    obtain ⟨a0, a1, a2, a3, a4, a5, a6, a7, a8, a9, a10, a11, a12⟩ := hb1.cells
    go_wp2_with (fail)
    refine (HP _ (hs.mod hA1 (fun _ _ h => h))).mono ?_
    rintro e w2 ⟨v1, rfl, hm2, _, hnil⟩
    obtain rfl := hnil hc
    have hA2 := hA1.trans hm2 (V := fun _ => False) (fun _ _ h => h) (fun _ _ h => h)
    have hb2 := hb1.mod hm2 (fun h => h)
    clear a0 a1 a2 a3 a4 a5 a6 a7 a8 a9 a10 a11 a12
    obtain ⟨a0, a1, a2, a3, a4, a5, a6, a7, a8, a9, a10, a11, a12⟩ := hb2.cells
    go_wp2_with (fail)
    refine (HC _ (hs.mod hA2 (fun _ _ h => h))).mono ?_
    rintro e w3 ⟨rfl, hm3⟩
    have hA3 := hA2.trans hm3 (V := fun _ => False) (fun _ _ h => h) (fun _ _ h => h)
    go_wp2
    go_ret
    exact ⟨by simp, hA3⟩
  case pos =>
    obtain ⟨u1, u2⟩ := un_pk0 hc
    have hr := pk_rng ⟨k, o, lf, i, p, ps, g, s, st, rs, rr, sq, l⟩ hrb
    have hlen := pk_len ⟨k, o, lf, i, p, ps, g, s, st, rs, rr, sq, l⟩
    have hl := (chk_parts hc).1
    dsimp only at hl hlen
    rw [hc] at HC HP
    have HU := fun v W h => Unpack_any v (pk ⟨k, o, lf, i, p, ps, g, s, st, rs, rr, sq, l⟩) W h (by omega)
    unfold Unp at HU
    rw [u1, u2] at HU
    dsimp only at HU
    generalize pk ⟨k, o, lf, i, p, ps, g, s, st, rs, rr, sq, l⟩ = B at HP HU hr hlen
    clear hc u1 u2
    go_enter Try.func7, Try.ntmps7
    go_wp2_with (fail)
    refine (awake _).mono ?_
    rintro e w1 ⟨rfl, hm1⟩
    have hA1 := hA.trans hm1 (V := fun _ => False) (fun _ _ h => h) (fun _ _ h => h)
    have hb1 := hm0.mod hm1 (fun h => h)
    obtain ⟨a0, a1, a2, a3, a4, a5, a6, a7, a8, a9, a10, a11, a12⟩ := hb1.cells
    go_wp2_with (fail)
    refine (HP _ (hs.mod hA1 (fun _ _ h => h))).mono ?_
    rintro e w2 ⟨v1, rfl, hm2, hok, _⟩
    obtain ⟨ho, _⟩ := hok trivial
    have hA2 := hA1.trans hm2 (V := fun _ => False) (fun _ _ h => h) (fun _ _ h => h)
    have hb2 := hb1.mod hm2 (fun h => h)
    clear a0 a1 a2 a3 a4 a5 a6 a7 a8 a9 a10 a11 a12 hok HP
    go_wp2_with (fail)
    refine (HU _ _ (ho.sl hr)).mono ?_
    rintro e w3 ⟨k', o', lf', i', p', ps', g', s', st', rs', rr', sq', bv', rfl, hm3, hok3, _⟩
    obtain ⟨he, ho3, _⟩ := hok3 trivial
    simp only [Ms.mk.injEq] at he
    obtain ⟨rfl, rfl, rfl, rfl, rfl, rfl, rfl, rfl, rfl, rfl, rfl, rfl, _⟩ := he
    obtain ⟨ao3, cap3, rfl⟩ := ho3.shape
    have hA3 := hA2.trans hm3 (V := fun _ => False) (fun _ _ h => h) (fun _ _ h => h)
    have hb3 := hb2.mod hm3 (fun h => h)
    have hD := (Mod.refl (fun _ => False) w3).alloc (.cells #[.int .i64 k', .int .i64 o', .int .i64 lf', .int .i64 i', .int .i64 p', .int .i64 ps', .int .i64 g', .bool s', .int .i64 st', .int .i64 rs', .int .i64 rr', .int .i64 sq', (.slice ao3 l.length cap3)] 28)
    have hn4 := MB.new w3 k' o' lf' i' p' ps' g' s' st' rs' rr' sq' (.slice ao3 l.length cap3)
    have ho4 := (ho3.mod hD (fun _ _ h => h)).sl hrb
    have hb4 := hb3.mod hD (fun h => h)
    have hA4 := hA3.alloc (.cells #[.int .i64 k', .int .i64 o', .int .i64 lf', .int .i64 i', .int .i64 p', .int .i64 ps', .int .i64 g', .bool s', .int .i64 st', .int .i64 rs', .int .i64 rr', .int .i64 sq', (.slice ao3 l.length cap3)] 28)
    obtain ⟨a0, a1, a2, a3, a4, a5, a6, a7, a8, a9, a10, a11, a12⟩ := hb4.cells
    clear hok3 HU
    go_wp2_with (fail)
    refine (HC _ (hs.mod hA4 (fun _ _ h => h))).mono ?_
    rintro e w5 ⟨rfl, hm5⟩
    have hA5 := hA4.trans hm5 (V := fun _ => False) (fun _ _ h => h) (fun _ _ h => h)
    have ho5 := ho4.mod hm5 (fun _ _ h => h)
    clear a0 a1 a2 a3 a4 a5 a6 a7 a8 a9 a10 a11 a12
    obtain ⟨a0, a1, a2, a3, a4, a5, a6, a7, a8, a9, a10, a11, a12⟩ := (hb4.mod hm5 (fun h => h)).cells
    obtain ⟨b0, b1, b2, b3, b4, b5, b6, b7, b8, b9, b10, b11, b12⟩ := (hn4.mod hm5 (fun h => h)).cells
    go_wp2_with (fail)
    refine (same_eq k' o' lf' i' p' ps' g' s' st' rs' rr' sq' ao3 ao cap3 cap l w5 ho5 (hs.mod hA5 (fun _ _ h => h))).mono ?_
    rintro e w6 ⟨rfl, hm6⟩
    have hA6 := hA5.trans hm6 (V := fun _ => False) (fun _ _ h => h) (fun _ _ h => h)
    go_wp2
    go_ret
    exact ⟨by simp, hA6⟩
namespace parcelBack
open Go.ChangeShapes Go.WideShapes Go.ChangeAt Go.RowKit
set_option maxRecDepth 100000 in
theorem lifted (os : Os) (started : os.Started) (H : Type) (enc : TypeId × Value → H) :
    ReturnsInHanded {} Try.checked os 7 .any (Rows.parcelBackSpec.pre6 enc Try.prog Try.f7 Rows.parcelBackRow.domain false) (Rows.parcelBackSpec.post enc Try.prog Try.f7 false true false false) := by
  refine returnsInHanded_of_change_sized (C := Try.checked) own started (by kernel_rfl) Try.func7
    (ChangeSpec.witness6 (enc := enc) (C := Try.checked) false ⟨#[], #[.agg #[.int .i64 0, .int .i64 0, .int .i64 0, .int .i64 0, .int .i64 0, .int .i64 0, .int .i64 0, .bool false, .int .i64 0, .int .i64 0, .int .i64 0, .int .i64 0, .slice none 0 0]], []⟩ 8 (by kernel_rfl) (by kernel_rfl) (by kernel_rfl) (by kernel_rfl)) ?_
  intro W base args ds gs before hval0 hW hcnd hsz0 _
  have hval : ∀ (j : Nat) t v, Try.f7.params[j]? = some t → args[j]? = some v → Value.okWide Try.prog W .any base t v := hval0
  have hsz : (DataW.weightsEach Try.prog (Try.f7.params.toList ++ Rows.parcelBackSpec.plain.varTypes Try.prog) (ds ++ gs)).all (· ≤ reachBytes) = true := hsz0
  have hW' := hW
  obtain ⟨p, q, hA0, hV, rfl, hfz, hnd⟩ := hW
  have hA : DataW.TrodAll enc Try.prog W 0 (fun _ => true) true Try.f7.params.toList args.toList ds p := hA0
  rw [Try.params7] at hA hval hsz
  obtain ⟨v0, vs0, d0, ds0, p0, q0, hargs, rfl, rfl, h0, r0⟩ := trodAll_cons hA
  obtain ⟨rfl, rfl, rfl⟩ := trodAll_nil r0
  obtain rfl : args = #[v0] := by cases args; simp_all
  obtain ⟨rfl, rfl⟩ := trodVars_none hV
  have k0 := h0
  have lt0 : ∀ x ∈ p0, x.block < W.heap.size := by obtain ⟨m, hm⟩ := k0; exact DataW.trod_lt m _ _ _ hm
  obtain ⟨k0_, o0, lf0, i0, pt0, ps0, g0, s0, st0, rs0, rr0, sq0, ao0, cap0, l0, rfl, hs0, hI0, hw0⟩ := open_msg (hval 0 28 v0 rfl rfl) h0
  clear hA0 hval0
  refine (back_walk k0_ o0 lf0 i0 pt0 ps0 g0 s0 st0 rs0 rr0 sq0 ao0 cap0 l0 W hs0).mono fun e W' ⟨he, hm⟩ => ?_
  subst he
  have bel : Below W.heap.size W W' := hm.below _ (Nat.le_refl _) (fun _ h => h.elim)
  exact ⟨_, rfl, _, _, _, [], _, [], hW', trodAll_mk1 (shut_bool Try.underlying4 _), (trodAll_cons_mk (Below.trod laidOut (by kernel_rfl) (of_decide_eq_true (by kernel_rfl)) k0 bel lt0) trodAll_mk0), rfl, bel.frame _, fun h => by cases h⟩

theorem over : Rows.parcelBackRow.holds Try.pinned (OpenSpec.ofChange Rows.parcelBackSpec) :=
  OpenClaim.holds_of_wide 7 Try.f7 rfl rfl rfl rfl rfl rfl rfl ⟨rfl, rfl, rfl, rfl, rfl⟩ rfl rfl rfl rfl rfl (by kernel_rfl) Try.func7 (by kernel_rfl)
    (of_decide_eq_true (by kernel_rfl)) (by unfold Func.isWrapper; first | (rw [if_pos (by decide +kernel)]; kernel_rfl) | (rw [if_neg (by decide +kernel)]; exact ⟨rfl, rfl⟩))
    (fun os started H enc _ => lifted os started H enc)
end parcelBack
theorem parcelBack_holds : Rows.ParcelBackSaid := parcelBack.over

end Go.Proofs.Ytinopcjogmhppaa
