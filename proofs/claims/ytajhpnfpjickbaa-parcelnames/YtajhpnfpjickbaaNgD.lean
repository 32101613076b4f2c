/- ParcelPacks: which messages may be, and their bytes, are the document's. No conditions beyond sizes that a slice of bytes has. -/
import Derived.Test.YtajhpnfpjickbaaRx
import Derived.Test.YtajhpnfpjickbaaRs
import Derived.Test.YtajhpnfpjickbaaCy
import Derived.Test.YtajhpnfpjickbaaCz
import Derived.Test.YtajhpnfpjickbaaEn
import Derived.RegionTactic
import Derived.SizedLaws
import Derived.Test.YtajhpnfpjickbaaRw
import Derived.Deep.RegionHeld3
namespace Go.Proofs.Ytajhpnfpjickbaa
open Go.RowKit
/-- What Unpack answers. -/
def unM (L : List Int) : Ms := if unE L = 0 then prM L else ⟨0, 0, 0, 0, 0, 0, 0, false, 0, 0, 0, 0, []⟩
theorem Unp.m {L : List Int} {w : World} {e : Ending} {w' : World} (h : Unp L w e w') : ∃ ao cap, e = .returned (.tuple #[.agg #[.int .i64 (unM L).kind, .int .i64 (unM L).origin, .int .i64 (unM L).life, .int .i64 (unM L).id, .int .i64 (unM L).part, .int .i64 (unM L).parts, .int .i64 (unM L).groups, .bool (unM L).safe, .int .i64 (unM L).st, .int .i64 (unM L).rs, .int .i64 (unM L).rr, .int .i64 (unM L).sq, .slice ao (unM L).body.length cap], .int .i64 (unE L)]) ∧ Mod (fun _ => False) w w' ∧ Own w' (.slice ao (unM L).body.length cap) (unM L).body ∧ (∀ g, (Value.slice ao (unM L).body.length cap).ownBlock = some g → w.heap.size ≤ g) := by
  obtain ⟨k, o, lf, i, p, ps, g, s, st, rs, rr, sq, bv, rfl, hm, hok, hno⟩ := h
  by_cases h0 : unE L = 0
  · obtain ⟨h1, h2, h3⟩ := hok h0
    obtain ⟨ao, cap, rfl⟩ := h2.shape
    refine ⟨ao, cap, ?_, hm, ?_, ?_⟩
    · rw [unM, if_pos h0, ← h1]
    · rw [unM, if_pos h0]; exact h2
    · rw [unM, if_pos h0]; exact h3
  · obtain ⟨rfl, rfl, rfl, rfl, rfl, rfl, rfl, rfl, rfl, rfl, rfl, rfl, rfl⟩ := hno h0
    refine ⟨none, 0, ?_, hm, ?_, ?_⟩
    · rw [unM, if_neg h0]; rfl
    · rw [unM, if_neg h0]; exact Own.nil _
    · intro g hg; simp [Value.ownBlock] at hg
theorem unM_rng {L : List Int} (hr : ∀ c ∈ L, 0 ≤ c ∧ c ≤ 255) : ∀ c ∈ (unM L).body, 0 ≤ c ∧ c ≤ 255 := by
  unfold unM
  by_cases h0 : unE L = 0
  · rw [if_pos h0]; exact fun x hx => hr x (pr_mem L x hx)
  · rw [if_neg h0]; intro c hc; simp at hc
/-- A byte stored into a slice of one's own. -/
theorem Own.put {w : World} {b n cap j : Nat} {l : List Int} (h : Own w (.slice (some ⟨b, 0, none⟩) n cap) l) (hl : l.length = n) (d : Int) : Own (w.setCell ⟨b, j, none⟩ (.int .u8 d)) (.slice (some ⟨b, 0, none⟩) n cap) (l.set j d) := by
  unfold Own at h ⊢
  have hset : U (l.set j d) = (U l).set j (.int .u8 d) := by simp [U, List.map_set]
  rw [List.length_set, hset]
  rw [hl] at h ⊢
  exact (World.ownsRow.stored h j _).1
theorem set_rng {l : List Int} (h : ∀ c ∈ l, 0 ≤ c ∧ c ≤ 255) (j : Nat) {d : Int} (hd : 0 ≤ d ∧ d ≤ 255) : ∀ c ∈ l.set j d, 0 ≤ c ∧ c ≤ 255 := fun x hx => by
  rcases List.mem_or_eq_of_mem_set hx with h' | rfl
  · exact h x h'
  · exact hd
theorem getD_in {l : List Int} {j : Nat} (h : j < l.length) : l.getD j 0 ∈ l := by
  rw [List.getD_eq_getElem?_getD, List.getElem?_eq_getElem h]
  exact List.getElem_mem h
theorem xor90 {c : Int} (h : 0 ≤ c ∧ c ≤ 255) : ∃ d : Int, bits .xor .u8 c 90 = d ∧ 0 ≤ d ∧ d ≤ 255 := by
  obtain ⟨n, rfl⟩ := Int.eq_ofNat_of_zero_le h.1
  have e := u8_xor_nat n 90 (by omega) (by omega)
  have hx : n ^^^ 90 < 256 := Nat.xor_lt_two_pow (n := 8) (by omega) (by omega)
  exact ⟨_, e, by omega, by omega⟩
set_option maxRecDepth 100000 in
set_option maxHeartbeats 4000000 in
theorem unpacks_walk (v : Value) (B : List Int) (w : World) (hs : Sl w v B) (hb : B.length ≤ 140737488351232) :
    Calls Try.prog 4 #[v] w fun e w' => e = .returned (.bool true) ∧ Mod (fun _ => False) w w' := by
  have hrng := hs.rng
  have HU := fun v W h => (Unpack_any v B W h (by omega)).mono fun _ _ h => h.m
  have HD := fun v W h => (dUnpack v B W h (by omega)).mono fun _ _ h => h.m
  have HP := fun v W h => Places v B W h (by omega)
  have HDP := fun v W h => dPlaces v B W h (by omega)
  have hbm := unM_rng hrng
  generalize unE B = E at HU HD
  generalize plE B = F at HP HDP
  generalize plL B = PL at HP HDP
  generalize unM B = mm at HU HD hbm
  obtain ⟨k, o, lf, i, p, ps, g, s, st, rs, rr, sq, l⟩ := mm
  dsimp only at HU HD hbm
  go_enter Try.func4, Try.ntmps4
  go_wp2_with (fail)
  refine (copy_any v B w hs (by omega)).mono ?_
  rintro e w1 ⟨y, rfl, hy, hm1, hf1⟩
  have hy1 := hy.sl hrng
  have hyl := hy.lt
  go_wp2_with (fail)
  refine (HU y w1 hy1).mono ?_
  rintro e w2 ⟨ao, cap, rfl, hm2, ho2, hf2⟩
  have hA2 : Mod (fun _ => False) w2 (w2.alloc (.cells #[.int .i64 k, .int .i64 o, .int .i64 lf, .int .i64 i, .int .i64 p, .int .i64 ps, .int .i64 g, .bool s, .int .i64 st, .int .i64 rs, .int .i64 rr, .int .i64 sq, .slice ao l.length cap] 28)) := (Mod.refl _ _).alloc _
  have hb2 := MB.new w2 k o lf i p ps g s st rs rr sq (.slice ao l.length cap)
  have hM2 := (hm1.trans hm2 (V := fun _ => False) (fun _ _ h => h) (fun _ _ h => h)).trans hA2 (V := fun _ => False) (fun _ _ h => h) (fun _ _ h => h)
  have hs2 := hs.mod hM2 (fun _ _ h => h)
  have hy2 := (hy1.mod hm2 (fun _ _ h => h)).mod hA2 (fun _ _ h => h)
  have hx2 := ho2.mod hA2 (fun _ _ h => h)
  have hxl := ho2.lt
  have hsz1 := hm1.size
  have hsz2 := hm2.size
  clear hy hm1 hm2 hy1 hA2 ho2
  go_wp2_with (fail)
  generalize hg1 : w2.heap.size = g1 at *
  generalize w2.alloc (.cells #[.int .i64 k, .int .i64 o, .int .i64 lf, .int .i64 i, .int .i64 p, .int .i64 ps, .int .i64 g, .bool s, .int .i64 st, .int .i64 rs, .int .i64 rr, .int .i64 sq, .slice ao l.length cap] 28) = w3 at *
  refine (HD v _ hs2).mono ?_
  rintro e w4 ⟨ao', cap', rfl, hm4, ho4, hf4⟩
  have hA4 : Mod (fun _ => False) w4 (w4.alloc (.cells #[.int .i64 k, .int .i64 o, .int .i64 lf, .int .i64 i, .int .i64 p, .int .i64 ps, .int .i64 g, .bool s, .int .i64 st, .int .i64 rs, .int .i64 rr, .int .i64 sq, .slice ao' l.length cap'] 28)) := (Mod.refl _ _).alloc _
  have hb4 := MB.new w4 k o lf i p ps g s st rs rr sq (.slice ao' l.length cap')
  have hN4 := hm4.trans hA4 (V := fun _ => False) (fun _ _ h => h) (fun _ _ h => h)
  have hM4 := hM2.trans hN4 (V := fun _ => False) (fun _ _ h => h) (fun _ _ h => h)
  have hs4 := hs2.mod hN4 (fun _ _ h => h)
  have hy4 := hy2.mod hN4 (fun _ _ h => h)
  have hx4 := hx2.mod hN4 (fun _ _ h => h)
  have hd4 := ho4.mod hA4 (fun _ _ h => h)
  have hc4 := hb2.mod hN4 (fun h => h)
  have hl3 := lt_of_block hb2
  have hsz4 := hm4.size
  clear hs2 hy2 hx2 hb2 hM2 ho4 hm4 hA4 hN4
  go_wp2_with (fail)
  generalize hg2 : w4.heap.size = g2 at *
  generalize w4.alloc (.cells #[.int .i64 k, .int .i64 o, .int .i64 lf, .int .i64 i, .int .i64 p, .int .i64 ps, .int .i64 g, .bool s, .int .i64 st, .int .i64 rs, .int .i64 rr, .int .i64 sq, .slice ao' l.length cap'] 28) = w5 at *
  refine (HP y _ hy4).mono ?_
  rintro e w6 ⟨v6, rfl, hm6, hno6, hok6⟩
  have hM6 := hM4.trans hm6 (V := fun _ => False) (fun _ _ h => h) (fun _ _ h => h)
  have hs6 := hs4.mod hm6 (fun _ _ h => h)
  go_wp2_with (fail)
  refine (HDP v _ hs6).mono ?_
  rintro e w7 ⟨v7, rfl, hm7, hno7, hok7⟩
  have hM7 := hM6.trans hm7 (V := fun _ => False) (fun _ _ h => h) (fun _ _ h => h)
  have hN7 := hm6.trans hm7 (V := fun _ => False) (fun _ _ h => h) (fun _ _ h => h)
  obtain ⟨PX, hp6, hp7⟩ : ∃ PX, SlP w7 v6 PX ∧ SlP w7 v7 PX := by
    by_cases h0 : F = 0
    · exact ⟨PL, (hok6 h0).1.mod hm7 (fun _ _ _ h => h), (hok7 h0).1⟩
    · obtain rfl := hno6 h0
      obtain rfl := hno7 h0
      exact ⟨[], SlP.nil _, SlP.nil _⟩
  have hs7 := hs6.mod hm7 (fun _ _ h => h)
  have hy7 := hy4.mod hN7 (fun _ _ h => h)
  have hx7 := hx4.mod hN7 (fun _ _ h => h)
  have hd7 := hd4.mod hN7 (fun _ _ h => h)
  obtain ⟨a0, a1, a2, a3, a4, a5, a6, a7, a8, a9, a10, a11, a12⟩ := (hc4.mod hN7 (fun h => h)).cells
  obtain ⟨b0, b1, b2, b3, b4, b5, b6, b7, b8, b9, b10, b11, b12⟩ := (hb4.mod hN7 (fun h => h)).cells
  have HSm := Same_eq k o lf i p ps g s st rs rr sq ao ao' cap cap' l w7 (hx7.sl hbm) (hd7.sl hbm)
  have hbx := hc4.mod hN7 (fun h => h)
  clear hs6 hy4 hx4 hd4 hc4 hb4 hM6 hm6 hm7 hno6 hok6 hno7 hok7 hs4 hM4 HU HD HP HDP
  go_wp2_with (fail)
  refine HSm.mono ?_
  rintro e w8 ⟨rfl, hm8⟩
  go_wp2_with (fail)
  refine (SamePlaces_eq v6 v7 PX _ (hp6.mod hm8 (fun _ _ _ h => h)) (hp7.mod hm8 (fun _ _ _ h => h))).mono ?_
  rintro e w9 ⟨rfl, hm9⟩
  have hN9 := hm8.trans hm9 (V := fun _ => False) (fun _ _ h => h) (fun _ _ h => h)
  have hs9 := hs7.mod hN9 (fun _ _ h => h)
  have hy9 := hy7.mod hN9 (fun _ _ h => h)
  go_wp2_with (fail)
  refine (EqBytes_any y v B B _ hy9 hs9).mono ?_
  rintro e w10 ⟨rfl, hm10⟩
  simp only [decide_true]
  have hN10 := hN9.trans hm10 (V := fun _ => False) (fun _ _ h => h) (fun _ _ h => h)
  have hs10 := hs9.mod hm10 (fun _ _ h => h)
  have hy10 := hy9.mod hm10 (fun _ _ h => h)
  have hx10 := hx7.mod hN10 (fun _ _ h => h)
  have hbx10 := hbx.mod hN10 (fun h => h)
  have hM10 := hM7.trans hN10 (V := fun _ => False) (fun _ _ h => h) (fun _ _ h => h)
  clear a0 a1 a2 a3 a4 a5 a6 a7 a8 a9 a10 a11 a12 b0 b1 b2 b3 b4 b5 b6 b7 b8 b9 b10 b11 b12 HSm hs9 hy9 hs7 hy7 hx7 hd7 hbx hN7 hN9 hN10 hm8 hm9 hm10 hp6 hp7 hM7
  go_wp2_with (fail)
  have hll : l.length ≤ 9223372036854775807 := by
    obtain ⟨_, _, _, q1, q2, _⟩ := (hx10.sl hbm).form
    unfold maxLen at q2
    omega
  go_loopw [12] (fun x wr => ∃ (j : Nat) (l1 : List Int), x = .int .i64 j ∧ j ≤ l.length ∧ Hid (l1.length = l.length) ∧ Hid (∀ c ∈ l1, 0 ≤ c ∧ c ≤ 255) ∧ Hid (Own wr (.slice ao l.length cap) l1) ∧ Hid (MB wr g1 k o lf i p ps g s st rs rr sq (.slice ao l.length cap)) ∧ Hid (Sl wr y B) ∧ Hid (Mod (fun _ => False) w wr)) (fun x _ => l.length - (intOf x).toNat)
  case atStart => exact ⟨0, l, rfl, by omega, rfl, hbm, hx10, hbx10, hy10, hM10⟩
  case round =>
    obtain ⟨j, l1, rfl, hj, hl1, hr1, ho', hbx', hy', hM'⟩ := hrel
    clear hbx10 hy10 hM10 hs10 hx10
    have a12 := hbx'.out.cells.2.2.2.2.2.2.2.2.2.2.2.2
    by_cases hlt : j < l.length
    · have hsl := ho'.out.sl hr1.out
      obtain ⟨ao1, cap1, e1, _, _, _, h4⟩ := hsl.form
      simp only [Value.slice.injEq] at e1
      obtain ⟨rfl, _, rfl⟩ := e1
      have hne : l1 ≠ [] := by intro e; have := hl1.out; rw [e] at this; simp at this; omega
      obtain ⟨b, off, rfl, hc⟩ := h4 hne
      obtain ⟨cur, hk⟩ := ho'.out.kind (g := b) rfl
      obtain ⟨rfl, _⟩ : off = 0 ∧ True := by
        rcases ho'.out.2 with ⟨h, _⟩ | ⟨g', cap', cur', h, _⟩
        · cases h
        · simp at h; exact ⟨h.1.2, trivial⟩
      have hfz : wr.frozen? ⟨b, j, none⟩ = false := by simp [World.frozen?, hk]
      have hcj := hc j (by rw [hl1.out]; exact hlt)
      rw [Nat.zero_add] at hcj
      obtain ⟨d, hd, hd1⟩ := xor90 (hr1.out _ (getD_in (by rw [hl1.out]; exact hlt)))
      generalize l1.getD j 0 = c at hcj hd
      have hb1 := hf2 b rfl
      have hb2 := hxl b rfl
      have HO := ho'.out.put (j := j) hl1.out d
      have HB := hbx'.out.mod ((Mod.refl (fun q => q = b) wr).setCell ⟨b, j, none⟩ (.int .u8 d) (.inl rfl)) (by omega)
      have HY := hy'.out.mod2 ((Mod.refl (fun q => q = b) wr).setCell ⟨b, j, none⟩ (.int .u8 d) (.inl rfl)) (fun _ q hq e => by have := hyl q hq; omega)
      have HM := hM'.out.setCell ⟨b, j, none⟩ (.int .u8 d) (.inr (by show _ ≤ b; omega))
      have HO1 : Hid (Own _ _ _) := HO
      have HB1 : Hid (MB _ _ _ _ _ _ _ _ _ _ _ _ _ _ _) := HB
      have HY1 : Hid (Sl _ _ _) := HY
      have HM1 : Hid (Mod _ _ _) := HM
      have hji : (j : Int) < l.length := by omega
      have HLT : Hid (j < l.length) := hlt
      clear HO HB HY HM hsl h4 hc hk hne ho' hbx' hy' hM'
      go_wp2_with (fail)
      go_region
      go_wp2
      go_roundw
      case rel => exact ⟨j + 1, l1.set j d, by go_num, HLT.out, by show _ = _; rw [List.length_set]; exact hl1.out, set_rng hr1.out j hd1, HO1.out, HB1.out, HY1.out.mod (Mod.refl (fun _ => False) _).drew (fun _ _ h => h), HM1.out.drew⟩
      case measure => have := HLT.out; simp [intOf]; omega
    · go_wp2_with (fail)
      refine (EqBytes_any y v B B _ hy'.out (hs.mod hM'.out (fun _ _ h => h))).mono ?_
      rintro e w11 ⟨rfl, hm11⟩
      simp only [decide_true]
      go_wp2_with (fail)
      refine (awake _).mono ?_
      rintro e w12 ⟨rfl, hm12⟩
      go_wp2
      go_ret
      exact ⟨by simp, (hM'.out.trans hm11 (V := fun _ => False) (fun _ _ h => h) (fun _ _ h => h)).trans hm12 (V := fun _ => False) (fun _ _ h => h) (fun _ _ h => h)⟩
namespace parcelUnpacks
open Go.ChangeShapes Go.WideShapes Go.ChangeAt Go.RowKit
set_option maxRecDepth 100000 in
theorem lifted (os : Os) (started : os.Started) (H : Type) (enc : TypeId × Value → H) :
    ReturnsInHanded {} Try.checked os 4 .any (Rows.parcelUnpacksSpec.pre6 enc Try.prog Try.f4 Rows.parcelUnpacksRow.domain false) (Rows.parcelUnpacksSpec.post enc Try.prog Try.f4 false true false false) := by
  refine returnsInHanded_of_change_sized (C := Try.checked) own started (by kernel_rfl) Try.func4
    (ChangeSpec.witness6 (enc := enc) (C := Try.checked) false ⟨#[], #[.slice none 0 0], []⟩ 8 (by kernel_rfl) (by kernel_rfl) (by kernel_rfl) (by kernel_rfl)) ?_
  intro W base args ds gs before hval0 hW hcnd hsz0 _
  have hval : ∀ (j : Nat) t v, Try.f4.params[j]? = some t → args[j]? = some v → Value.okWide Try.prog W .any base t v := hval0
  have hsz : (DataW.weightsEach Try.prog (Try.f4.params.toList ++ Rows.parcelUnpacksSpec.plain.varTypes Try.prog) (ds ++ gs)).all (· ≤ reachBytes) = true := hsz0
  have hW' := hW
  obtain ⟨p, q, hA0, hV, rfl, hfz, hnd⟩ := hW
  have hA : DataW.TrodAll enc Try.prog W 0 (fun _ => true) true Try.f4.params.toList args.toList ds p := hA0
  rw [Try.params4] at hA hval hsz
  obtain ⟨v0, vs0, d0, ds0, p0, q0, hargs, rfl, rfl, h0, r0⟩ := trodAll_cons hA
  obtain ⟨rfl, rfl, rfl⟩ := trodAll_nil r0
  obtain rfl : args = #[v0] := by cases args; simp_all
  obtain ⟨rfl, rfl⟩ := trodVars_none hV
  have hs0 := okWide_slice Try.underlying26 (hval 0 26 v0 rfl rfl)
  have k0 := h0
  have lt0 : ∀ x ∈ p0, x.block < W.heap.size := by obtain ⟨m, hm⟩ := k0; exact DataW.trod_lt m _ _ _ hm
  obtain ⟨B0, hB0, hBl0⟩ : ∃ B, Sl W v0 B ∧ B.length ≤ 140737488351232 := by
    obtain ⟨ao, len, cap, rfl⟩ := hs0
    obtain ⟨fuel, hf⟩ := h0
    obtain ⟨B, hB, hx⟩ := sl_of_trod (c := .slice ao len cap) (by simpa [Value.cells] using hf)
    refine ⟨B, hB, ?_⟩
    simp only at hx
    rcases hx with ⟨rfl, rfl⟩ | ⟨e, s, rfl, hlen⟩
    · simp
    · have := sized_slice hsz (j := 0) (t := 26) (e := 5) rfl rfl Try.underlying26
      rw [bytes5] at this
      simp only [reachBytes] at this
      omega
  clear hA0 hval0
  refine (unpacks_walk v0 B0 W hB0 hBl0).mono fun e W' ⟨he, hm⟩ => ?_
  subst he
  have bel : Below W.heap.size W W' := hm.below _ (Nat.le_refl _) (fun _ h => h.elim)
  exact ⟨_, rfl, _, _, _, [], _, [], hW', trodAll_mk1 (shut_bool Try.underlying4 _), (trodAll_cons_mk (Below.trod laidOut (by kernel_rfl) (of_decide_eq_true (by kernel_rfl)) k0 bel lt0) trodAll_mk0), rfl, bel.frame _, fun h => by cases h⟩

theorem over : Rows.parcelUnpacksRow.holds Try.pinned (OpenSpec.ofChange Rows.parcelUnpacksSpec) :=
  OpenClaim.holds_of_wide 4 Try.f4 rfl rfl rfl rfl rfl rfl rfl ⟨rfl, rfl, rfl, rfl, rfl⟩ rfl rfl rfl rfl rfl (by kernel_rfl) Try.func4 (by kernel_rfl)
    (of_decide_eq_true (by kernel_rfl)) (by unfold Func.isWrapper; first | (rw [if_pos (by decide +kernel)]; kernel_rfl) | (rw [if_neg (by decide +kernel)]; exact ⟨rfl, rfl⟩))
    (fun os started H enc _ => lifted os started H enc)
end parcelUnpacks
theorem parcelUnpacks_holds : Rows.ParcelUnpacksSaid := parcelUnpacks.over
end Go.Proofs.Ytajhpnfpjickbaa
namespace Go.Proofs.Ytajhpnfpjickbaa
open Go.RowKit
set_option maxRecDepth 100000 in
set_option maxHeartbeats 8000000 in
theorem packs_walk (k o lf i p ps g : Int) (s : Bool) (st rs rr sq : Int) (ao : Option Addr) (cap : Nat) (l : List Int) (w : World) (hs : Sl w (.slice ao l.length cap) l) (hb : l.length ≤ 140737488351232) :
    Calls Try.prog 3 #[.agg #[.int .i64 k, .int .i64 o, .int .i64 lf, .int .i64 i, .int .i64 p, .int .i64 ps, .int .i64 g, .bool s, .int .i64 st, .int .i64 rs, .int .i64 rr, .int .i64 sq, .slice ao l.length cap]] w fun e w' => e = .returned (.bool true) ∧ Mod (fun _ => False) w w' := by
  have hrl := hs.rng
  have hA := (Mod.refl (fun _ => False) w).alloc (.cells #[.int .i64 k, .int .i64 o, .int .i64 lf, .int .i64 i, .int .i64 p, .int .i64 ps, .int .i64 g, .bool s, .int .i64 st, .int .i64 rs, .int .i64 rr, .int .i64 sq, .slice ao l.length cap] 28)
  have hb0 := MB.new w k o lf i p ps g s st rs rr sq (.slice ao l.length cap)
  have hs0 := hs.mod hA (fun _ _ h => h)
  have HCp := dCopy k o lf i p ps g s st rs rr sq ao cap l _ hs0 (by omega)
  have HP := fun ao cap W h => Pack_any k o lf i p ps g s st rs rr sq ao cap l W h
  have HD := fun ao cap W h => dPack k o lf i p ps g s st rs rr sq ao cap l W h
  have HC := fun ao cap W h => Check_any k o lf i p ps g s st rs rr sq ao cap l W h
  have HE := fun ao cap W h => dCheck k o lf i p ps g s st rs rr sq ao cap l W h
  have HS := fun ao ao' cap cap' W h h' => Same_eq k o lf i p ps g s st rs rr sq ao ao' cap cap' l W h h'
  have hpr : ∀ c ∈ pk ⟨k, o, lf, i, p, ps, g, s, st, rs, rr, sq, l⟩, 0 ≤ c ∧ c ≤ 255 := pk_rng _ hrl
  generalize chk ⟨k, o, lf, i, p, ps, g, s, st, rs, rr, sq, l⟩ = E at HP HD HC HE
  generalize pk ⟨k, o, lf, i, p, ps, g, s, st, rs, rr, sq, l⟩ = PK at HP HD hpr
  go_enter Try.func3, Try.ntmps3
  go_wp2_with (fail)
  refine HCp.mono ?_
  rintro e w1 ⟨ao', cap', rfl, ho1, hm1, hf1⟩
  have hD1 := (Mod.refl (fun _ => False) w1).alloc (.cells #[.int .i64 k, .int .i64 o, .int .i64 lf, .int .i64 i, .int .i64 p, .int .i64 ps, .int .i64 g, .bool s, .int .i64 st, .int .i64 rs, .int .i64 rr, .int .i64 sq, .slice ao' l.length cap'] 28)
  have hbi := MB.new w1 k o lf i p ps g s st rs rr sq (.slice ao' l.length cap')
  have hM := (hA.trans hm1 (V := fun _ => False) (fun _ _ h => h) (fun _ _ h => h)).trans hD1 (V := fun _ => False) (fun _ _ h => h) (fun _ _ h => h)
  have hbm := (hb0.mod hm1 (fun h => h)).mod hD1 (fun h => h)
  have hin := ho1.mod hD1 (fun _ _ h => h)
  have hsz1 : w.heap.size < w1.heap.size := by have := hm1.size; simp at this; omega
  have hil := ho1.lt
  have hfi : ∀ q, (Value.slice ao' l.length cap').ownBlock = some q → w.heap.size < q ∧ q < w1.heap.size := fun q hq => ⟨by have := hf1 q hq; simp at this; omega, hil q hq⟩
  clear hD1 hm1 ho1 hA hb0 hs0 HCp hf1 hil
  go_wp2_with (fail)
  generalize hg1 : w1.heap.size = g1 at *
  generalize w1.alloc (.cells #[.int .i64 k, .int .i64 o, .int .i64 lf, .int .i64 i, .int .i64 p, .int .i64 ps, .int .i64 g, .bool s, .int .i64 st, .int .i64 rs, .int .i64 rr, .int .i64 sq, .slice ao' l.length cap'] 28) = w2 at *
  have hg2 : g1 < w2.heap.size := lt_of_block hbi
  refine (HP _ _ _ (hin.sl hrl)).mono ?_
  rintro e w3 ⟨x, rfl, hm3, hok3, hno3⟩
  replace hM := hM.trans hm3 (V := fun _ => False) (fun _ _ h => h) (fun _ _ h => h)
  replace hbm := hbm.mod hm3 (fun h => h)
  replace hbi := hbi.mod hm3 (fun h => h)
  replace hin := hin.mod hm3 (fun _ _ h => h)
  obtain ⟨a0, a1, a2, a3, a4, a5, a6, a7, a8, a9, a10, a11, a12⟩ := hbm.cells
  go_wp2_with (fail)
  clear a0 a1 a2 a3 a4 a5 a6 a7 a8 a9 a10 a11 a12
  refine (HD _ _ _ (hs.mod hM (fun _ _ h => h))).mono ?_
  rintro e w4 ⟨y, rfl, hm4, hok4, hno4⟩
  obtain ⟨Bx, hrB, hx, hy, hfx⟩ : ∃ Bx : List Int, (∀ c ∈ Bx, 0 ≤ c ∧ c ≤ 255) ∧ Own w4 x Bx ∧ Own w4 y Bx ∧ (∀ q, x.ownBlock = some q → w2.heap.size ≤ q) := by
    by_cases h0 : E = 0
    · exact ⟨PK, hpr, (hok3 h0).1.mod hm4 (fun _ _ h => h), (hok4 h0).1, (hok3 h0).2⟩
    · obtain rfl := hno3 h0
      obtain rfl := hno4 h0
      exact ⟨[], by simp, Own.nil _, Own.nil _, by intro q hq; simp [Value.ownBlock] at hq⟩
  replace hM := hM.trans hm4 (V := fun _ => False) (fun _ _ h => h) (fun _ _ h => h)
  replace hbm := hbm.mod hm4 (fun h => h)
  replace hbi := hbi.mod hm4 (fun h => h)
  replace hin := hin.mod hm4 (fun _ _ h => h)
  clear hm3 hm4 hok3 hok4 hno3 hno4 HP HD hpr
  obtain ⟨aox, capx, rfl⟩ := hx.shape
  obtain ⟨a0, a1, a2, a3, a4, a5, a6, a7, a8, a9, a10, a11, a12⟩ := hbm.cells
  obtain ⟨b0, b1, b2, b3, b4, b5, b6, b7, b8, b9, b10, b11, b12⟩ := hbi.cells
  have hsw := hM.size
  clear hg1
  go_wp2_with (fail)
  replace hM := hM.drew
  replace hbm : MB w4.drew _ _ _ _ _ _ _ _ _ _ _ _ _ _ := hbm
  replace hbi : MB w4.drew _ _ _ _ _ _ _ _ _ _ _ _ _ _ := hbi
  replace hin : Own w4.drew _ _ := hin
  replace hx : Own w4.drew _ _ := hx
  replace hy : Own w4.drew _ _ := hy
  go_region_held3 (fun y => y.cell? ⟨w.heap.size, 0, none⟩ = some (.int .i64 k) ∧ y.cell? ⟨w.heap.size, 1, none⟩ = some (.int .i64 o) ∧ y.cell? ⟨w.heap.size, 2, none⟩ = some (.int .i64 lf) ∧ y.cell? ⟨w.heap.size, 3, none⟩ = some (.int .i64 i) ∧ y.cell? ⟨w.heap.size, 4, none⟩ = some (.int .i64 p) ∧ y.cell? ⟨w.heap.size, 5, none⟩ = some (.int .i64 ps) ∧ y.cell? ⟨w.heap.size, 6, none⟩ = some (.int .i64 g) ∧ y.cell? ⟨w.heap.size, 7, none⟩ = some (.bool s) ∧ y.cell? ⟨w.heap.size, 8, none⟩ = some (.int .i64 st) ∧ y.cell? ⟨w.heap.size, 9, none⟩ = some (.int .i64 rs) ∧ y.cell? ⟨w.heap.size, 10, none⟩ = some (.int .i64 rr) ∧ y.cell? ⟨w.heap.size, 11, none⟩ = some (.int .i64 sq) ∧ y.cell? ⟨w.heap.size, 12, none⟩ = some (.slice ao l.length cap) ∧ y.cell? ⟨g1, 0, none⟩ = some (.int .i64 k) ∧ y.cell? ⟨g1, 1, none⟩ = some (.int .i64 o) ∧ y.cell? ⟨g1, 2, none⟩ = some (.int .i64 lf) ∧ y.cell? ⟨g1, 3, none⟩ = some (.int .i64 i) ∧ y.cell? ⟨g1, 4, none⟩ = some (.int .i64 p) ∧ y.cell? ⟨g1, 5, none⟩ = some (.int .i64 ps) ∧ y.cell? ⟨g1, 6, none⟩ = some (.int .i64 g) ∧ y.cell? ⟨g1, 7, none⟩ = some (.bool s) ∧ y.cell? ⟨g1, 8, none⟩ = some (.int .i64 st) ∧ y.cell? ⟨g1, 9, none⟩ = some (.int .i64 rs) ∧ y.cell? ⟨g1, 10, none⟩ = some (.int .i64 rr) ∧ y.cell? ⟨g1, 11, none⟩ = some (.int .i64 sq) ∧ y.cell? ⟨g1, 12, none⟩ = some (.slice ao' l.length cap')) (first | exact ⟨a0, a1, a2, a3, a4, a5, a6, a7, a8, a9, a10, a11, a12, b0, b1, b2, b3, b4, b5, b6, b7, b8, b9, b10, b11, b12⟩ | go_keep)
    (first | (go_at_call 15; refine (HC _ _ _ (hin.sl hrl)).mono ?_; rintro e w5 ⟨rfl, hm5⟩; replace hM := hM.trans hm5 (V := fun _ => False) (fun _ _ h => h) (fun _ _ h => h); replace hx := hx.mod hm5 (fun _ _ h => h); replace hy := hy.mod hm5 (fun _ _ h => h); replace hin := hin.mod hm5 (fun _ _ h => h); replace hbm := hbm.mod hm5 (fun h => h); replace hbi := hbi.mod hm5 (fun h => h); replace a0 := hm5.cell a0 (fun h => h); replace a1 := hm5.cell a1 (fun h => h); replace a2 := hm5.cell a2 (fun h => h); replace a3 := hm5.cell a3 (fun h => h); replace a4 := hm5.cell a4 (fun h => h); replace a5 := hm5.cell a5 (fun h => h); replace a6 := hm5.cell a6 (fun h => h); replace a7 := hm5.cell a7 (fun h => h); replace a8 := hm5.cell a8 (fun h => h); replace a9 := hm5.cell a9 (fun h => h); replace a10 := hm5.cell a10 (fun h => h); replace a11 := hm5.cell a11 (fun h => h); replace a12 := hm5.cell a12 (fun h => h); replace b0 := hm5.cell b0 (fun h => h); replace b1 := hm5.cell b1 (fun h => h); replace b2 := hm5.cell b2 (fun h => h); replace b3 := hm5.cell b3 (fun h => h); replace b4 := hm5.cell b4 (fun h => h); replace b5 := hm5.cell b5 (fun h => h); replace b6 := hm5.cell b6 (fun h => h); replace b7 := hm5.cell b7 (fun h => h); replace b8 := hm5.cell b8 (fun h => h); replace b9 := hm5.cell b9 (fun h => h); replace b10 := hm5.cell b10 (fun h => h); replace b11 := hm5.cell b11 (fun h => h); replace b12 := hm5.cell b12 (fun h => h); clear hm5) | (go_at_call 16; refine (HE _ _ _ (hs.mod hM (fun _ _ h => h))).mono ?_; rintro e w6 ⟨rfl, hm6⟩; replace hM := hM.trans hm6 (V := fun _ => False) (fun _ _ h => h) (fun _ _ h => h); replace hx := hx.mod hm6 (fun _ _ h => h); replace hy := hy.mod hm6 (fun _ _ h => h); replace hin := hin.mod hm6 (fun _ _ h => h); replace hbm := hbm.mod hm6 (fun h => h); replace hbi := hbi.mod hm6 (fun h => h); replace a0 := hm6.cell a0 (fun h => h); replace a1 := hm6.cell a1 (fun h => h); replace a2 := hm6.cell a2 (fun h => h); replace a3 := hm6.cell a3 (fun h => h); replace a4 := hm6.cell a4 (fun h => h); replace a5 := hm6.cell a5 (fun h => h); replace a6 := hm6.cell a6 (fun h => h); replace a7 := hm6.cell a7 (fun h => h); replace a8 := hm6.cell a8 (fun h => h); replace a9 := hm6.cell a9 (fun h => h); replace a10 := hm6.cell a10 (fun h => h); replace a11 := hm6.cell a11 (fun h => h); replace a12 := hm6.cell a12 (fun h => h); replace b0 := hm6.cell b0 (fun h => h); replace b1 := hm6.cell b1 (fun h => h); replace b2 := hm6.cell b2 (fun h => h); replace b3 := hm6.cell b3 (fun h => h); replace b4 := hm6.cell b4 (fun h => h); replace b5 := hm6.cell b5 (fun h => h); replace b6 := hm6.cell b6 (fun h => h); replace b7 := hm6.cell b7 (fun h => h); replace b8 := hm6.cell b8 (fun h => h); replace b9 := hm6.cell b9 (fun h => h); replace b10 := hm6.cell b10 (fun h => h); replace b11 := hm6.cell b11 (fun h => h); replace b12 := hm6.cell b12 (fun h => h); clear hm6) | (go_at_call 17; refine (EqBytes_any _ _ Bx Bx _ (hx.sl hrB) (hy.sl hrB)).mono ?_; rintro e w7 ⟨rfl, hm7⟩; simp only [decide_true]; replace hM := hM.trans hm7 (V := fun _ => False) (fun _ _ h => h) (fun _ _ h => h); replace hx := hx.mod hm7 (fun _ _ h => h); replace hy := hy.mod hm7 (fun _ _ h => h); replace hin := hin.mod hm7 (fun _ _ h => h); replace hbm := hbm.mod hm7 (fun h => h); replace hbi := hbi.mod hm7 (fun h => h); replace a0 := hm7.cell a0 (fun h => h); replace a1 := hm7.cell a1 (fun h => h); replace a2 := hm7.cell a2 (fun h => h); replace a3 := hm7.cell a3 (fun h => h); replace a4 := hm7.cell a4 (fun h => h); replace a5 := hm7.cell a5 (fun h => h); replace a6 := hm7.cell a6 (fun h => h); replace a7 := hm7.cell a7 (fun h => h); replace a8 := hm7.cell a8 (fun h => h); replace a9 := hm7.cell a9 (fun h => h); replace a10 := hm7.cell a10 (fun h => h); replace a11 := hm7.cell a11 (fun h => h); replace a12 := hm7.cell a12 (fun h => h); replace b0 := hm7.cell b0 (fun h => h); replace b1 := hm7.cell b1 (fun h => h); replace b2 := hm7.cell b2 (fun h => h); replace b3 := hm7.cell b3 (fun h => h); replace b4 := hm7.cell b4 (fun h => h); replace b5 := hm7.cell b5 (fun h => h); replace b6 := hm7.cell b6 (fun h => h); replace b7 := hm7.cell b7 (fun h => h); replace b8 := hm7.cell b8 (fun h => h); replace b9 := hm7.cell b9 (fun h => h); replace b10 := hm7.cell b10 (fun h => h); replace b11 := hm7.cell b11 (fun h => h); replace b12 := hm7.cell b12 (fun h => h); clear hm7) | (go_at_call 18; refine (HS _ _ _ _ _ (hin.sl hrl) (hs.mod hM (fun _ _ h => h))).mono ?_; rintro e w8 ⟨rfl, hm8⟩; replace hM := hM.trans hm8 (V := fun _ => False) (fun _ _ h => h) (fun _ _ h => h); replace hx := hx.mod hm8 (fun _ _ h => h); replace hy := hy.mod hm8 (fun _ _ h => h); replace hin := hin.mod hm8 (fun _ _ h => h); replace hbm := hbm.mod hm8 (fun h => h); replace hbi := hbi.mod hm8 (fun h => h); replace a0 := hm8.cell a0 (fun h => h); replace a1 := hm8.cell a1 (fun h => h); replace a2 := hm8.cell a2 (fun h => h); replace a3 := hm8.cell a3 (fun h => h); replace a4 := hm8.cell a4 (fun h => h); replace a5 := hm8.cell a5 (fun h => h); replace a6 := hm8.cell a6 (fun h => h); replace a7 := hm8.cell a7 (fun h => h); replace a8 := hm8.cell a8 (fun h => h); replace a9 := hm8.cell a9 (fun h => h); replace a10 := hm8.cell a10 (fun h => h); replace a11 := hm8.cell a11 (fun h => h); replace a12 := hm8.cell a12 (fun h => h); replace b0 := hm8.cell b0 (fun h => h); replace b1 := hm8.cell b1 (fun h => h); replace b2 := hm8.cell b2 (fun h => h); replace b3 := hm8.cell b3 (fun h => h); replace b4 := hm8.cell b4 (fun h => h); replace b5 := hm8.cell b5 (fun h => h); replace b6 := hm8.cell b6 (fun h => h); replace b7 := hm8.cell b7 (fun h => h); replace b8 := hm8.cell b8 (fun h => h); replace b9 := hm8.cell b9 (fun h => h); replace b10 := hm8.cell b10 (fun h => h); replace b11 := hm8.cell b11 (fun h => h); replace b12 := hm8.cell b12 (fun h => h); clear hm8))
  clear a0 a1 a2 a3 a4 a5 a6 a7 a8 a9 a10 a11 a12 b0 b1 b2 b3 b4 b5 b6 b7 b8 b9 b10 b11 b12
  have hll : Bx.length ≤ 9223372036854775807 := by
    obtain ⟨_, _, _, q1, q2, _⟩ := (hx.sl hrB).form
    unfold maxLen at q2
    omega
  go_wp2_with (fail)
  go_loopw [8] (fun u wr => ∃ (j : Nat) (l1 : List Int), u = .int .i64 j ∧ j ≤ Bx.length ∧ Hid (l1.length = Bx.length) ∧ Hid (∀ c ∈ l1, 0 ≤ c ∧ c ≤ 255) ∧ Hid (Own wr (.slice aox Bx.length capx) l1) ∧ Hid (MB wr g1 k o lf i p ps g s st rs rr sq (.slice ao' l.length cap')) ∧ Hid (MB wr w.heap.size k o lf i p ps g s st rs rr sq (.slice ao l.length cap)) ∧ Hid (Own wr (.slice ao' l.length cap') l) ∧ Hid (Mod (fun _ => False) w wr)) (fun u _ => Bx.length - (intOf u).toNat)
  case atStart => exact ⟨0, Bx, rfl, by omega, rfl, hrB, hx, hbi, hbm, hin, hM⟩
  case round =>
    obtain ⟨j, l1, rfl, hj, hl1, hr1, ho', hbi', hbm', hin', hM'⟩ := hrel
    clear hx hbi hbm hin hM hy
    by_cases hlt : j < Bx.length
    · have hsl := ho'.out.sl hr1.out
      obtain ⟨ao1, cap1, e1, _, _, _, h4⟩ := hsl.form
      simp only [Value.slice.injEq] at e1
      obtain ⟨rfl, _, rfl⟩ := e1
      have hne : l1 ≠ [] := by intro e; have := hl1.out; rw [e] at this; simp at this; omega
      obtain ⟨b, off, rfl, hc⟩ := h4 hne
      obtain ⟨cur, hk⟩ := ho'.out.kind (g := b) rfl
      obtain ⟨rfl, _⟩ : off = 0 ∧ True := by
        rcases ho'.out.2 with ⟨h, _⟩ | ⟨g', cap', cur', h, _⟩
        · cases h
        · simp at h; exact ⟨h.1.2, trivial⟩
      have hfz : wr.frozen? ⟨b, j, none⟩ = false := by simp [World.frozen?, hk]
      have hcj := hc j (by rw [hl1.out]; exact hlt)
      rw [Nat.zero_add] at hcj
      obtain ⟨d, hd, hd1⟩ := xor90 (hr1.out _ (getD_in (by rw [hl1.out]; exact hlt)))
      generalize l1.getD j 0 = c at hcj hd
      have hb1 := hfx b rfl
      have hS := (Mod.refl (fun q => q = b) wr).setCell ⟨b, j, none⟩ (.int .u8 d) (.inl rfl)
      have HO := ho'.out.put (j := j) hl1.out d
      have HB := hbi'.out.mod hS (by omega)
      have HB2 := hbm'.out.mod hS (by omega)
      have HY := hin'.out.mod hS (fun q hq e => by have := hfi q hq; omega)
      have HM := hM'.out.setCell ⟨b, j, none⟩ (.int .u8 d) (.inr (by show _ ≤ b; omega))
      have HO1 : Hid (Own _ _ _) := HO
      have HB1 : Hid (MB _ _ _ _ _ _ _ _ _ _ _ _ _ _ _) := HB
      have HB3 : Hid (MB _ _ _ _ _ _ _ _ _ _ _ _ _ _ _) := HB2
      have HY1 : Hid (Own _ _ _) := HY
      have HM1 : Hid (Mod _ _ _) := HM
      have hji : (j : Int) < Bx.length := by omega
      have HLT : Hid (j < Bx.length) := hlt
      clear HO HB HB2 HY HM hsl h4 hc hk hne ho' hbi' hbm' hin' hM' hS
      go_wp2
      go_roundw
      case rel => exact ⟨j + 1, l1.set j d, by go_num, HLT.out, by show _ = _; rw [List.length_set]; exact hl1.out, set_rng hr1.out j hd1, HO1, HB1, HB3, HY1, HM1⟩
      case measure => have := HLT.out; simp [intOf]; omega
    · obtain ⟨a0, a1, a2, a3, a4, a5, a6, a7, a8, a9, a10, a11, a12⟩ := hbm'.out.cells
      obtain ⟨b0, b1, b2, b3, b4, b5, b6, b7, b8, b9, b10, b11, b12⟩ := hbi'.out.cells
      have HSm := HS _ _ _ _ _ (hin'.out.sl hrl) (hs.mod hM'.out (fun _ _ h => h))
      clear ho' hbi' hbm' hin'
      go_wp2_with (fail)
      refine HSm.mono ?_
      rintro e w11 ⟨rfl, hm11⟩
      clear a0 a1 a2 a3 a4 a5 a6 a7 a8 a9 a10 a11 a12 b0 b1 b2 b3 b4 b5 b6 b7 b8 b9 b10 b11 b12
      go_wp2_with (fail)
      refine (awake _).mono ?_
      rintro e w12 ⟨rfl, hm12⟩
      go_wp2
      go_ret
      exact ⟨by simp, (hM'.out.trans hm11 (V := fun _ => False) (fun _ _ h => h) (fun _ _ h => h)).trans hm12 (V := fun _ => False) (fun _ _ h => h) (fun _ _ h => h)⟩
namespace parcelPacks
open Go.ChangeShapes Go.WideShapes Go.ChangeAt Go.RowKit
set_option maxRecDepth 100000 in
theorem lifted (os : Os) (started : os.Started) (H : Type) (enc : TypeId × Value → H) :
    ReturnsInHanded {} Try.checked os 3 .any (Rows.parcelPacksSpec.pre6 enc Try.prog Try.f3 Rows.parcelPacksRow.domain false) (Rows.parcelPacksSpec.post enc Try.prog Try.f3 false true false false) := by
  refine returnsInHanded_of_change_sized (C := Try.checked) own started (by kernel_rfl) Try.func3
    (ChangeSpec.witness6 (enc := enc) (C := Try.checked) false ⟨#[], #[.agg #[.int .i64 0, .int .i64 0, .int .i64 0, .int .i64 0, .int .i64 0, .int .i64 0, .int .i64 0, .bool false, .int .i64 0, .int .i64 0, .int .i64 0, .int .i64 0, .slice none 0 0]], []⟩ 8 (by kernel_rfl) (by kernel_rfl) (by kernel_rfl) (by kernel_rfl)) ?_
  intro W base args ds gs before hval0 hW hcnd hsz0 _
  have hval : ∀ (j : Nat) t v, Try.f3.params[j]? = some t → args[j]? = some v → Value.okWide Try.prog W .any base t v := hval0
  have hsz : (DataW.weightsEach Try.prog (Try.f3.params.toList ++ Rows.parcelPacksSpec.plain.varTypes Try.prog) (ds ++ gs)).all (· ≤ reachBytes) = true := hsz0
  have hW' := hW
  obtain ⟨p, q, hA0, hV, rfl, hfz, hnd⟩ := hW
  have hA : DataW.TrodAll enc Try.prog W 0 (fun _ => true) true Try.f3.params.toList args.toList ds p := hA0
  rw [Try.params3] at hA hval hsz
  obtain ⟨v0, vs0, d0, ds0, p0, q0, hargs, rfl, rfl, h0, r0⟩ := trodAll_cons hA
  obtain ⟨rfl, rfl, rfl⟩ := trodAll_nil r0
  obtain rfl : args = #[v0] := by cases args; simp_all
  obtain ⟨rfl, rfl⟩ := trodVars_none hV
  have k0 := h0
  have lt0 : ∀ x ∈ p0, x.block < W.heap.size := by obtain ⟨m, hm⟩ := k0; exact DataW.trod_lt m _ _ _ hm
  obtain ⟨k0_, o0, lf0, i0, pt0, ps0, g0, s0, st0, rs0, rr0, sq0, ao0, cap0, l0, rfl, hs0, hI0, hw0⟩ := open_msg (hval 0 28 v0 rfl rfl) h0
  have hl0 : l0.length ≤ 140737488351232 := by
    have := hw0 reachBytes (by simp only [DataW.weightsEach, List.cons_append, List.nil_append, List.all_append, Bool.and_eq_true] at hsz; exact hsz.1)
    simpa [reachBytes] using this
  clear hA0 hval0
  refine (packs_walk k0_ o0 lf0 i0 pt0 ps0 g0 s0 st0 rs0 rr0 sq0 ao0 cap0 l0 W hs0 hl0).mono fun e W' ⟨he, hm⟩ => ?_
  subst he
  have bel : Below W.heap.size W W' := hm.below _ (Nat.le_refl _) (fun _ h => h.elim)
  exact ⟨_, rfl, _, _, _, [], _, [], hW', trodAll_mk1 (shut_bool Try.underlying4 _), (trodAll_cons_mk (Below.trod laidOut (by kernel_rfl) (of_decide_eq_true (by kernel_rfl)) k0 bel lt0) trodAll_mk0), rfl, bel.frame _, fun h => by cases h⟩

theorem over : Rows.parcelPacksRow.holds Try.pinned (OpenSpec.ofChange Rows.parcelPacksSpec) :=
  OpenClaim.holds_of_wide 3 Try.f3 rfl rfl rfl rfl rfl rfl rfl ⟨rfl, rfl, rfl, rfl, rfl⟩ rfl rfl rfl rfl rfl (by kernel_rfl) Try.func3 (by kernel_rfl)
    (of_decide_eq_true (by kernel_rfl)) (by unfold Func.isWrapper; first | (rw [if_pos (by decide +kernel)]; kernel_rfl) | (rw [if_neg (by decide +kernel)]; exact ⟨rfl, rfl⟩))
    (fun os started H enc _ => lifted os started H enc)
end parcelPacks
theorem parcelPacks_holds : Rows.ParcelPacksSaid := parcelPacks.over
end Go.Proofs.Ytajhpnfpjickbaa
