/- ParcelUnpacks: the message of bytes, and the places of a body, or what is wrong with them, are the document's. No conditions beyond sizes that a slice of bytes has. -/
import Derived.Test.YtajhpnfpjickbaaRx
import Derived.Test.YtajhpnfpjickbaaRs
import Derived.Test.YtajhpnfpjickbaaCy
import Derived.Test.YtajhpnfpjickbaaCz
import Derived.Test.YtajhpnfpjickbaaEn
import Derived.RegionTactic
import Derived.SizedLaws
namespace Go.Proofs.Ytajhpnfpjickbaa
open Go.RowKit
/-- What Unpack answers. -/
def unM (L : List Int) : Ms := if unE L = 0 then prM L else ⟨0, 0, 0, 0, 0, 0, 0, false, 0, 0, 0, 0, []⟩
theorem Unp.m {L : List Int} {w : World} {e : Ending} {w' : World} (h : Unp L w e w') : ∃ ao cap, e = .returned (.tuple #[.agg #[.int .i64 (unM L).kind, .int .i64 (unM L).origin, .int .i64 (unM L).life, .int .i64 (unM L).id, .int .i64 (unM L).part, .int .i64 (unM L).parts, .int .i64 (unM L).groups, .bool (unM L).safe, .int .i64 (unM L).st, .int .i64 (unM L).rs, .int .i64 (unM L).rr, .int .i64 (unM L).sq, .slice ao (unM L).body.length cap], .int .i64 (unE L)]) ∧ Mod (fun _ => False) w w' ∧ Own w' (.slice ao (unM L).body.length cap) (unM L).body ∧ (∀ g, (Value.slice ao (unM L).body.length cap).ownBlock = some g → w.heap.size ≤ g) := by
  obtain ⟨k, o, lf, i, p, ps, g, s, st, rs, rr, sq, bv, rfl, hm, hok, hno⟩ := h
  by_cases h0 : unE L = 0
  · obtain ⟨h1, h2, h3⟩ := hok h0
    obtain ⟨ao, cap, rfl⟩ := h2.shape
    refine ⟨ao, cap, ?_, hm, ?_, ?_⟩
    · rw [unM, if_pos h0, ← h1]
    · rw [unM, if_pos h0]; exact h2
    · rw [unM, if_pos h0]; exact h3
  · obtain ⟨rfl, rfl, rfl, rfl, rfl, rfl, rfl, rfl, rfl, rfl, rfl, rfl, rfl⟩ := hno h0
    refine ⟨none, 0, ?_, hm, ?_, ?_⟩
    · rw [unM, if_neg h0]; rfl
    · rw [unM, if_neg h0]; exact Own.nil _
    · intro g hg; simp [Value.ownBlock] at hg
theorem unM_rng {L : List Int} (hr : ∀ c ∈ L, 0 ≤ c ∧ c ≤ 255) : ∀ c ∈ (unM L).body, 0 ≤ c ∧ c ≤ 255 := by
  unfold unM
  by_cases h0 : unE L = 0
  · rw [if_pos h0]; exact fun x hx => hr x (pr_mem L x hx)
  · rw [if_neg h0]; intro c hc; simp at hc
/-- A byte stored into a slice of one's own. -/
theorem Own.put {w : World} {b n cap j : Nat} {l : List Int} (h : Own w (.slice (some ⟨b, 0, none⟩) n cap) l) (hl : l.length = n) (d : Int) : Own (w.setCell ⟨b, j, none⟩ (.int .u8 d)) (.slice (some ⟨b, 0, none⟩) n cap) (l.set j d) := by
  unfold Own at h ⊢
  have hset : U (l.set j d) = (U l).set j (.int .u8 d) := by simp [U, List.map_set]
  rw [List.length_set, hset]
  rw [hl] at h ⊢
  exact (World.ownsRow.stored h j _).1
theorem set_rng {l : List Int} (h : ∀ c ∈ l, 0 ≤ c ∧ c ≤ 255) (j : Nat) {d : Int} (hd : 0 ≤ d ∧ d ≤ 255) : ∀ c ∈ l.set j d, 0 ≤ c ∧ c ≤ 255 := fun x hx => by
  rcases List.mem_or_eq_of_mem_set hx with h' | rfl
  · exact h x h'
  · exact hd
theorem getD_in {l : List Int} {j : Nat} (h : j < l.length) : l.getD j 0 ∈ l := by
  rw [List.getD_eq_getElem?_getD, List.getElem?_eq_getElem h]
  exact List.getElem_mem h
theorem xor90 {c : Int} (h : 0 ≤ c ∧ c ≤ 255) : ∃ d : Int, bits .xor .u8 c 90 = d ∧ 0 ≤ d ∧ d ≤ 255 := by
  obtain ⟨n, rfl⟩ := Int.eq_ofNat_of_zero_le h.1
  have e := u8_xor_nat n 90 (by omega) (by omega)
  have hx : n ^^^ 90 < 256 := Nat.xor_lt_two_pow (n := 8) (by omega) (by omega)
  exact ⟨_, e, by omega, by omega⟩
set_option maxRecDepth 100000 in
set_option maxHeartbeats 4000000 in
theorem unpacks_walk (v : Value) (B : List Int) (w : World) (hs : Sl w v B) (hb : B.length ≤ 140737488351232) :
    Calls Try.prog 4 #[v] w fun e w' => e = .returned (.bool true) ∧ Mod (fun _ => False) w w' := by
  have hrng := hs.rng
  have HU := fun v W h => (Unpack_any v B W h (by omega)).mono fun _ _ h => h.m
  have HD := fun v W h => (dUnpack v B W h (by omega)).mono fun _ _ h => h.m
  have HP := fun v W h => Places v B W h (by omega)
  have HDP := fun v W h => dPlaces v B W h (by omega)
  have hbm := unM_rng hrng
  generalize unE B = E at HU HD
  generalize plE B = F at HP HDP
  generalize plL B = PL at HP HDP
  generalize unM B = mm at HU HD hbm
  obtain ⟨k, o, lf, i, p, ps, g, s, st, rs, rr, sq, l⟩ := mm
  dsimp only at HU HD hbm
  go_enter Try.func4, Try.ntmps4
  go_wp2_with (fail)
  refine (copy_any v B w hs (by omega)).mono ?_
  rintro e w1 ⟨y, rfl, hy, hm1, hf1⟩
  have hy1 := hy.sl hrng
  have hyl := hy.lt
  go_wp2_with (fail)
  refine (HU y w1 hy1).mono ?_
  rintro e w2 ⟨ao, cap, rfl, hm2, ho2, hf2⟩
  have hA2 : Mod (fun _ => False) w2 (w2.alloc (.cells #[.int .i64 k, .int .i64 o, .int .i64 lf, .int .i64 i, .int .i64 p, .int .i64 ps, .int .i64 g, .bool s, .int .i64 st, .int .i64 rs, .int .i64 rr, .int .i64 sq, .slice ao l.length cap] 28)) := (Mod.refl _ _).alloc _
  have hb2 := MB.new w2 k o lf i p ps g s st rs rr sq (.slice ao l.length cap)
  have hM2 := (hm1.trans hm2 (V := fun _ => False) (fun _ _ h => h) (fun _ _ h => h)).trans hA2 (V := fun _ => False) (fun _ _ h => h) (fun _ _ h => h)
  have hs2 := hs.mod hM2 (fun _ _ h => h)
  have hy2 := (hy1.mod hm2 (fun _ _ h => h)).mod hA2 (fun _ _ h => h)
  have hx2 := ho2.mod hA2 (fun _ _ h => h)
  have hxl := ho2.lt
  have hsz1 := hm1.size
  have hsz2 := hm2.size
  clear hy hm1 hm2 hy1 hA2 ho2
  go_wp2_with (fail)
  generalize hg1 : w2.heap.size = g1 at *
  generalize w2.alloc (.cells #[.int .i64 k, .int .i64 o, .int .i64 lf, .int .i64 i, .int .i64 p, .int .i64 ps, .int .i64 g, .bool s, .int .i64 st, .int .i64 rs, .int .i64 rr, .int .i64 sq, .slice ao l.length cap] 28) = w3 at *
  refine (HD v _ hs2).mono ?_
  rintro e w4 ⟨ao', cap', rfl, hm4, ho4, hf4⟩
  have hA4 : Mod (fun _ => False) w4 (w4.alloc (.cells #[.int .i64 k, .int .i64 o, .int .i64 lf, .int .i64 i, .int .i64 p, .int .i64 ps, .int .i64 g, .bool s, .int .i64 st, .int .i64 rs, .int .i64 rr, .int .i64 sq, .slice ao' l.length cap'] 28)) := (Mod.refl _ _).alloc _
  have hb4 := MB.new w4 k o lf i p ps g s st rs rr sq (.slice ao' l.length cap')
  have hN4 := hm4.trans hA4 (V := fun _ => False) (fun _ _ h => h) (fun _ _ h => h)
  have hM4 := hM2.trans hN4 (V := fun _ => False) (fun _ _ h => h) (fun _ _ h => h)
  have hs4 := hs2.mod hN4 (fun _ _ h => h)
  have hy4 := hy2.mod hN4 (fun _ _ h => h)
  have hx4 := hx2.mod hN4 (fun _ _ h => h)
  have hd4 := ho4.mod hA4 (fun _ _ h => h)
  have hc4 := hb2.mod hN4 (fun h => h)
  have hl3 := lt_of_block hb2
  have hsz4 := hm4.size
  clear hs2 hy2 hx2 hb2 hM2 ho4 hm4 hA4 hN4
  go_wp2_with (fail)
  generalize hg2 : w4.heap.size = g2 at *
  generalize w4.alloc (.cells #[.int .i64 k, .int .i64 o, .int .i64 lf, .int .i64 i, .int .i64 p, .int .i64 ps, .int .i64 g, .bool s, .int .i64 st, .int .i64 rs, .int .i64 rr, .int .i64 sq, .slice ao' l.length cap'] 28) = w5 at *
  refine (HP y _ hy4).mono ?_
  rintro e w6 ⟨v6, rfl, hm6, hno6, hok6⟩
  have hM6 := hM4.trans hm6 (V := fun _ => False) (fun _ _ h => h) (fun _ _ h => h)
  have hs6 := hs4.mod hm6 (fun _ _ h => h)
  go_wp2_with (fail)
  refine (HDP v _ hs6).mono ?_
  rintro e w7 ⟨v7, rfl, hm7, hno7, hok7⟩
  have hM7 := hM6.trans hm7 (V := fun _ => False) (fun _ _ h => h) (fun _ _ h => h)
  have hN7 := hm6.trans hm7 (V := fun _ => False) (fun _ _ h => h) (fun _ _ h => h)
  obtain ⟨PX, hp6, hp7⟩ : ∃ PX, SlP w7 v6 PX ∧ SlP w7 v7 PX := by
    by_cases h0 : F = 0
    · exact ⟨PL, (hok6 h0).1.mod hm7 (fun _ _ _ h => h), (hok7 h0).1⟩
    · obtain rfl := hno6 h0
      obtain rfl := hno7 h0
      exact ⟨[], SlP.nil _, SlP.nil _⟩
  have hs7 := hs6.mod hm7 (fun _ _ h => h)
  have hy7 := hy4.mod hN7 (fun _ _ h => h)
  have hx7 := hx4.mod hN7 (fun _ _ h => h)
  have hd7 := hd4.mod hN7 (fun _ _ h => h)
  obtain ⟨a0, a1, a2, a3, a4, a5, a6, a7, a8, a9, a10, a11, a12⟩ := (hc4.mod hN7 (fun h => h)).cells
  obtain ⟨b0, b1, b2, b3, b4, b5, b6, b7, b8, b9, b10, b11, b12⟩ := (hb4.mod hN7 (fun h => h)).cells
  have HSm := Same_eq k o lf i p ps g s st rs rr sq ao ao' cap cap' l w7 (hx7.sl hbm) (hd7.sl hbm)
  have hbx := hc4.mod hN7 (fun h => h)
  clear hs6 hy4 hx4 hd4 hc4 hb4 hM6 hm6 hm7 hno6 hok6 hno7 hok7 hs4 hM4 HU HD HP HDP
  go_wp2_with (fail)
  refine HSm.mono ?_
  rintro e w8 ⟨rfl, hm8⟩
  go_wp2_with (fail)
  refine (SamePlaces_eq v6 v7 PX _ (hp6.mod hm8 (fun _ _ _ h => h)) (hp7.mod hm8 (fun _ _ _ h => h))).mono ?_
  rintro e w9 ⟨rfl, hm9⟩
  have hN9 := hm8.trans hm9 (V := fun _ => False) (fun _ _ h => h) (fun _ _ h => h)
  have hs9 := hs7.mod hN9 (fun _ _ h => h)
  have hy9 := hy7.mod hN9 (fun _ _ h => h)
  go_wp2_with (fail)
  refine (EqBytes_any y v B B _ hy9 hs9).mono ?_
  rintro e w10 ⟨rfl, hm10⟩
  simp only [decide_true]
  have hN10 := hN9.trans hm10 (V := fun _ => False) (fun _ _ h => h) (fun _ _ h => h)
  have hs10 := hs9.mod hm10 (fun _ _ h => h)
  have hy10 := hy9.mod hm10 (fun _ _ h => h)
  have hx10 := hx7.mod hN10 (fun _ _ h => h)
  have hbx10 := hbx.mod hN10 (fun h => h)
  have hM10 := hM7.trans hN10 (V := fun _ => False) (fun _ _ h => h) (fun _ _ h => h)
  clear a0 a1 a2 a3 a4 a5 a6 a7 a8 a9 a10 a11 a12 b0 b1 b2 b3 b4 b5 b6 b7 b8 b9 b10 b11 b12 HSm hs9 hy9 hs7 hy7 hx7 hd7 hbx hN7 hN9 hN10 hm8 hm9 hm10 hp6 hp7 hM7
  go_wp2_with (fail)
  have hll : l.length ≤ 9223372036854775807 := by
    obtain ⟨_, _, _, q1, q2, _⟩ := (hx10.sl hbm).form
    unfold maxLen at q2
    omega
  go_loopw [12] (fun x wr => ∃ (j : Nat) (l1 : List Int), x = .int .i64 j ∧ j ≤ l.length ∧ Hid (l1.length = l.length) ∧ Hid (∀ c ∈ l1, 0 ≤ c ∧ c ≤ 255) ∧ Hid (Own wr (.slice ao l.length cap) l1) ∧ Hid (MB wr g1 k o lf i p ps g s st rs rr sq (.slice ao l.length cap)) ∧ Hid (Sl wr y B) ∧ Hid (Mod (fun _ => False) w wr)) (fun x _ => l.length - (intOf x).toNat)
  case atStart => exact ⟨0, l, rfl, by omega, rfl, hbm, hx10, hbx10, hy10, hM10⟩
  case round =>
    obtain ⟨j, l1, rfl, hj, hl1, hr1, ho', hbx', hy', hM'⟩ := hrel
    clear hbx10 hy10 hM10 hs10 hx10
    have a12 := hbx'.out.cells.2.2.2.2.2.2.2.2.2.2.2.2
    by_cases hlt : j < l.length
    · have hsl := ho'.out.sl hr1.out
      obtain ⟨ao1, cap1, e1, _, _, _, h4⟩ := hsl.form
      simp only [Value.slice.injEq] at e1
      obtain ⟨rfl, _, rfl⟩ := e1
      have hne : l1 ≠ [] := by intro e; have := hl1.out; rw [e] at this; simp at this; omega
      obtain ⟨b, off, rfl, hc⟩ := h4 hne
      obtain ⟨cur, hk⟩ := ho'.out.kind (g := b) rfl
      obtain ⟨rfl, _⟩ : off = 0 ∧ True := by
        rcases ho'.out.2 with ⟨h, _⟩ | ⟨g', cap', cur', h, _⟩
        · cases h
        · simp at h; exact ⟨h.1.2, trivial⟩
      have hfz : wr.frozen? ⟨b, j, none⟩ = false := by simp [World.frozen?, hk]
      have hcj := hc j (by rw [hl1.out]; exact hlt)
      rw [Nat.zero_add] at hcj
      obtain ⟨d, hd, hd1⟩ := xor90 (hr1.out _ (getD_in (by rw [hl1.out]; exact hlt)))
      generalize l1.getD j 0 = c at hcj hd
      have hb1 := hf2 b rfl
      have hb2 := hxl b rfl
      have HO := ho'.out.put (j := j) hl1.out d
      have HB := hbx'.out.mod ((Mod.refl (fun q => q = b) wr).setCell ⟨b, j, none⟩ (.int .u8 d) (.inl rfl)) (by omega)
      have HY := hy'.out.mod2 ((Mod.refl (fun q => q = b) wr).setCell ⟨b, j, none⟩ (.int .u8 d) (.inl rfl)) (fun _ q hq e => by have := hyl q hq; omega)
      have HM := hM'.out.setCell ⟨b, j, none⟩ (.int .u8 d) (.inr (by show _ ≤ b; omega))
      have HO1 : Hid (Own _ _ _) := HO
      have HB1 : Hid (MB _ _ _ _ _ _ _ _ _ _ _ _ _ _ _) := HB
      have HY1 : Hid (Sl _ _ _) := HY
      have HM1 : Hid (Mod _ _ _) := HM
      have hji : (j : Int) < l.length := by omega
      have HLT : Hid (j < l.length) := hlt
      clear HO HB HY HM hsl h4 hc hk hne ho' hbx' hy' hM'
      go_wp2_with (fail)
      go_region
      go_wp2
      go_roundw
      case rel => exact ⟨j + 1, l1.set j d, by go_num, HLT.out, by show _ = _; rw [List.length_set]; exact hl1.out, set_rng hr1.out j hd1, HO1.out, HB1.out, HY1.out.mod (Mod.refl (fun _ => False) _).drew (fun _ _ h => h), HM1.out.drew⟩
      case measure => have := HLT.out; simp [intOf]; omega
    · go_wp2_with (fail)
      refine (EqBytes_any y v B B _ hy'.out (hs.mod hM'.out (fun _ _ h => h))).mono ?_
      rintro e w11 ⟨rfl, hm11⟩
      simp only [decide_true]
      go_wp2_with (fail)
      refine (awake _).mono ?_
      rintro e w12 ⟨rfl, hm12⟩
      go_wp2
      go_ret
      exact ⟨by simp, (hM'.out.trans hm11 (V := fun _ => False) (fun _ _ h => h) (fun _ _ h => h)).trans hm12 (V := fun _ => False) (fun _ _ h => h) (fun _ _ h => h)⟩
namespace parcelUnpacks
open Go.ChangeShapes Go.WideShapes Go.ChangeAt Go.RowKit
set_option maxRecDepth 100000 in
theorem lifted (os : Os) (started : os.Started) (H : Type) (enc : TypeId × Value → H) :
    ReturnsInHanded {} Try.checked os 4 .any (Rows.parcelUnpacksSpec.pre6 enc Try.prog Try.f4 Rows.parcelUnpacksRow.domain false) (Rows.parcelUnpacksSpec.post enc Try.prog Try.f4 false true false false) := by
  refine returnsInHanded_of_change_sized (C := Try.checked) own started (by kernel_rfl) Try.func4
    (ChangeSpec.witness6 (enc := enc) (C := Try.checked) false ⟨#[], #[.slice none 0 0], []⟩ 8 (by kernel_rfl) (by kernel_rfl) (by kernel_rfl) (by kernel_rfl)) ?_
  intro W base args ds gs before hval0 hW hcnd hsz0 _
  have hval : ∀ (j : Nat) t v, Try.f4.params[j]? = some t → args[j]? = some v → Value.okWide Try.prog W .any base t v := hval0
  have hsz : (DataW.weightsEach Try.prog (Try.f4.params.toList ++ Rows.parcelUnpacksSpec.plain.varTypes Try.prog) (ds ++ gs)).all (· ≤ reachBytes) = true := hsz0
  have hW' := hW
  obtain ⟨p, q, hA0, hV, rfl, hfz, hnd⟩ := hW
  have hA : DataW.TrodAll enc Try.prog W 0 (fun _ => true) true Try.f4.params.toList args.toList ds p := hA0
  rw [Try.params4] at hA hval hsz
  obtain ⟨v0, vs0, d0, ds0, p0, q0, hargs, rfl, rfl, h0, r0⟩ := trodAll_cons hA
  obtain ⟨rfl, rfl, rfl⟩ := trodAll_nil r0
  obtain rfl : args = #[v0] := by cases args; simp_all
  obtain ⟨rfl, rfl⟩ := trodVars_none hV
  have hs0 := okWide_slice Try.underlying26 (hval 0 26 v0 rfl rfl)
  have k0 := h0
  have lt0 : ∀ x ∈ p0, x.block < W.heap.size := by obtain ⟨m, hm⟩ := k0; exact DataW.trod_lt m _ _ _ hm
  obtain ⟨B0, hB0, hBl0⟩ : ∃ B, Sl W v0 B ∧ B.length ≤ 140737488351232 := by
    obtain ⟨ao, len, cap, rfl⟩ := hs0
    obtain ⟨fuel, hf⟩ := h0
    obtain ⟨B, hB, hx⟩ := sl_of_trod (c := .slice ao len cap) (by simpa [Value.cells] using hf)
    refine ⟨B, hB, ?_⟩
    simp only at hx
    rcases hx with ⟨rfl, rfl⟩ | ⟨e, s, rfl, hlen⟩
    · simp
    · have := sized_slice hsz (j := 0) (t := 26) (e := 5) rfl rfl Try.underlying26
      rw [bytes5] at this
      simp only [reachBytes] at this
      omega
  clear hA0 hval0
  refine (unpacks_walk v0 B0 W hB0 hBl0).mono fun e W' ⟨he, hm⟩ => ?_
  subst he
  have bel : Below W.heap.size W W' := hm.below _ (Nat.le_refl _) (fun _ h => h.elim)
  exact ⟨_, rfl, _, _, _, [], _, [], hW', trodAll_mk1 (shut_bool Try.underlying4 _), (trodAll_cons_mk (Below.trod laidOut (by kernel_rfl) (of_decide_eq_true (by kernel_rfl)) k0 bel lt0) trodAll_mk0), rfl, bel.frame _, fun h => by cases h⟩

theorem over : Rows.parcelUnpacksRow.holds Try.pinned (OpenSpec.ofChange Rows.parcelUnpacksSpec) :=
  OpenClaim.holds_of_wide 4 Try.f4 rfl rfl rfl rfl rfl rfl rfl ⟨rfl, rfl, rfl, rfl, rfl⟩ rfl rfl rfl rfl rfl (by kernel_rfl) Try.func4 (by kernel_rfl)
    (of_decide_eq_true (by kernel_rfl)) (by unfold Func.isWrapper; first | (rw [if_pos (by decide +kernel)]; kernel_rfl) | (rw [if_neg (by decide +kernel)]; exact ⟨rfl, rfl⟩))
    (fun os started H enc _ => lifted os started H enc)
end parcelUnpacks
theorem parcelUnpacks_holds : Rows.ParcelUnpacksSaid := parcelUnpacks.over
end Go.Proofs.Ytajhpnfpjickbaa
