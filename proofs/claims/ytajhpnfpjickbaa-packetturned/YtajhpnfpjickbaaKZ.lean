/- PacketTurned: one bit of a packet's bytes turned, they are none. No conditions. -/
import Derived.Test.YtajhpnfpjickbaaK55
import Derived.SizedLaws
import Derived.Laws.OwnMore
namespace Go.Proofs.Ytajhpnfpjickbaa
open Go.RowKit
/-- Bring: into 0 .. m - 1. -/
theorem bring_any (x : Int) (m : Nat) (w : World) (h0 : 0 < m) (hm : m ≤ 1152921504606846976) (h1 : -9223372036854775808 ≤ x) (h2 : x ≤ 9223372036854775807) : Calls Try.prog 33 #[.int .i64 x, .int .i64 (m : Int)] w fun e w' => ∃ t : Nat, e = .returned (.int .i64 (t : Int)) ∧ t < m ∧ w' = w := by
  have q0 : ¬ ((m : Int) ≤ 0) := by omega
  have q1 : ¬ ((m : Int) = 0) := by omega
  have q2 : ((m : Int) == 0) = false := by simp; omega
  have hb : -(m : Int) < x.tmod (m : Int) ∧ x.tmod (m : Int) < (m : Int) := by
    rcases (show 0 ≤ x ∨ x < 0 by omega) with h | h
    · rw [Int.tmod_eq_emod_of_nonneg h]
      have a1 := Int.emod_nonneg x q1
      have a2 := Int.emod_lt_of_pos x (show (0 : Int) < m by omega)
      omega
    · have e := Int.neg_tmod (-x) (m : Int)
      rw [Int.neg_neg, Int.tmod_eq_emod_of_nonneg (by omega : 0 ≤ -x)] at e
      rw [e]
      have a1 := Int.emod_nonneg (-x) q1
      have a2 := Int.emod_lt_of_pos (-x) (show (0 : Int) < m by omega)
      omega
  generalize hr : x.tmod (m : Int) = r at hb
  obtain ⟨b1, b2⟩ := hb
  by_cases hneg : r < 0
  · obtain ⟨t, ht⟩ : ∃ t : Nat, (t : Int) = r + (m : Int) := ⟨(r + (m : Int)).toNat, by omega⟩
    go_enter Try.func33, Try.ntmps33
    go_wp2
    go_ret
    exact ⟨t, by simp [ht], by omega, rfl⟩
  · obtain ⟨t, ht⟩ : ∃ t : Nat, (t : Int) = r := ⟨r.toNat, by omega⟩
    go_enter Try.func33, Try.ntmps33
    go_wp2
    go_ret
    exact ⟨t, by simp [ht], by omega, rfl⟩
theorem pchk_two (P : Pk) : pchk P = 0 ∨ pchk P = 2 := by
  unfold pchk
  split
  · exact .inl rfl
  · exact .inr rfl
theorem PkIn.mod0 {w w' : World} {m : Nat} {xs : Array Value} {P : Pk} (h : PkIn w m xs P) (hm : Mod (fun _ => False) w w') : PkIn w' m xs P := h.mod hm (fun _ h => h.elim)
theorem pturn_no (P : Pk) (xs : Array Value) (x : Int) (w : World) (h : PkIn w 0 xs P) (r : Rn P) (hc : pchk P = 2) : Calls Try.prog 11 #[.agg xs, .int .i64 x] w fun e w' => e = .returned (.bool true) ∧ Mod (fun _ => False) w w' := by
  have hM0 : Mod (fun _ => False) w (w.alloc (.cells xs 76)) := (Mod.refl _ w).alloc _
  have hB0 := Bk.new w xs 76
  have hsx := h.size.1
  have HA := pawake
  have HP := fun W hm => @pPack_in 0 xs P W (h.mod0 hm) r
  rw [hc] at HP
  clear h r hc
  go_enter Try.func11, Try.ntmps11
  go_wp2_with (fail)
  refine (HA _).mono ?_
  rintro e w1 ⟨rfl, hm1⟩
  have hM1 := hM0.trans hm1 (V := fun _ => False) (fun _ _ h => h) (fun _ _ h => h)
  have hB1 := hB0.mod hm1 (fun h => h)
  have HP1 := HP _ hM1
  clear HA HP hB0 hm1 hM0
  go_wp2_with (refine wpList_load_row info40 Try.underlying76 rfl rfl _ rfl w.heap.size rfl hB1 hsx ?_; simp only [Act.put, List.setIfInBounds_toArray, List.set_cons_succ, List.set_cons_zero])
  refine HP1.mono ?_
  rintro e w2 ⟨v1, rfl, hm2, _, _⟩
  clear HP1
  go_wp2
  go_ret
  exact ⟨rfl, hM1.trans hm2 (fun _ _ h => h) (fun _ _ h => h)⟩
set_option maxRecDepth 100000 in
set_option maxHeartbeats 8000000 in
theorem pturn_ok (P : Pk) (xs : Array Value) (x : Int) (w : World) (h : PkIn w 0 xs P) (r : Rn P) (hx : -9223372036854775808 ≤ x ∧ x ≤ 9223372036854775807) (hc : pchk P = 0) : Calls Try.prog 11 #[.agg xs, .int .i64 x] w fun e w' => e = .returned (.bool true) ∧ Mod (fun _ => False) w w' := by
  have hM0 : Mod (fun _ => False) w (w.alloc (.cells xs 76)) := (Mod.refl _ w).alloc _
  have hB0 := Bk.new w xs 76
  have hsx := h.size.1
  have HA := pawake
  have HP := fun W hm => @pPack_in 0 xs P W (h.mod0 hm) r
  have HU := fun v W h => @pUnpack_by P hc v W h
  have hrb : ∀ c ∈ pby P, 0 ≤ c ∧ c ≤ 255 := pby_rng (by obtain ⟨_, _, _, _, _, _, _, p1, _⟩ := h; exact p1.rng)
  have hle := pby_len hc
  have HB := fun (W : World) (m : Nat) h0 hm => bring_any x m W h0 hm hx.1 hx.2
  rw [hc] at HP
  generalize pby P = l at *
  obtain ⟨n, hn⟩ : ∃ n, n = l.length := ⟨_, rfl⟩
  have HN : Hid (n = l.length) := hn
  have HR : Hid (∀ c ∈ l, 0 ≤ c ∧ c ≤ 255) := hrb
  have hn5 : n ≤ 508 := by omega
  clear h r hc hx hrb hle hn
  go_enter Try.func11, Try.ntmps11
  go_wp2_with (fail)
  refine (HA _).mono ?_
  rintro e w1 ⟨rfl, hm1⟩
  have hM1 := hM0.trans hm1 (V := fun _ => False) (fun _ _ h => h) (fun _ _ h => h)
  have hB1 := hB0.mod hm1 (fun h => h)
  have HP1 := HP _ hM1
  clear HA HP hB0 hm1 hM0
  go_wp2_with (refine wpList_load_row info40 Try.underlying76 rfl rfl _ rfl w.heap.size rfl hB1 hsx ?_; simp only [Act.put, List.setIfInBounds_toArray, List.set_cons_succ, List.set_cons_zero])
  refine HP1.mono ?_
  rintro e w2 ⟨v1, rfl, hm2, hk2, _⟩
  obtain ⟨ho2, hf2⟩ := hk2 trivial
  have hm := hM1.trans hm2 (V := fun _ => False) (fun _ _ h => h) (fun _ _ h => h)
  have hsl : (Sm.sealed l).length = n + 4 := by rw [Sm.sealed_len, ← HN.out]
  obtain ⟨g, cap1, rfl, hc1, hc2⟩ := ho2.form (by omega)
  have hg : w.heap.size ≤ g := by have := hf2 g rfl; have := hM1.size; omega
  rw [hsl] at hc1 ⊢
  have ho : Own w2 (.slice (some ⟨g, 0, none⟩) (n + 4) cap1) (Sm.sealed l) := by rw [← hsl]; exact ho2
  clear HP1 hB1 hm2 hM1 hk2 hf2 ho2
  have hmul : (8 : Int) * ((n + 4 : Nat) : Int) = ((8 * (n + 4) : Nat) : Int) := by omega
  go_wp2_with (fail)
  have hmul2 : (8 : Int) * ((n : Int) + 4) = ((8 * (n + 4) : Nat) : Int) := by omega
  rw [hmul2]
  refine (HB _ (8 * (n + 4)) (by omega) (by omega)).mono ?_
  rintro e wn ⟨t, rfl, ht, rfl⟩
  have HO : Hid (Own wn (.slice (some ⟨g, 0, none⟩) (n + 4) cap1) (Sm.sealed l)) := ho
  have HSL : Hid ((Sm.sealed l).length = n + 4) := hsl
  clear ho hsl HB hc2 hmul hmul2
  obtain ⟨K, J, hK, hJ, hK2, hJ2⟩ : ∃ K J : Nat, (t : Int) / 8 = (K : Int) ∧ (t : Int) % 8 = (J : Int) ∧ K < n + 4 ∧ J < 8 := ⟨t / 8, t % 8, by omega, by omega, by omega, by omega⟩
  have hK3 : (t : Int).tdiv 8 = (K : Int) := by rw [Int.tdiv_eq_ediv_of_nonneg (by omega)]; exact hK
  have hJ3 : (t : Int).tmod 8 = (J : Int) := by rw [Int.tmod_eq_emod_of_nonneg (by omega)]; exact hJ
  have hKi : (K : Int) < (n : Int) + 4 := by omega
  have hcr := Sm.sealed_rng HR.out ((Sm.sealed l).getD K 0) (by have := HSL.out; simp [show K < (Sm.sealed l).length by omega])
  obtain ⟨c, hc⟩ : ∃ c : Nat, (c : Int) = (Sm.sealed l).getD K 0 := ⟨((Sm.sealed l).getD K 0).toNat, by omega⟩
  have hcell : wn.cell? ⟨g, K, none⟩ = some (.int .u8 (c : Int)) := by
    obtain ⟨_, _, e1, _, _, _, h4⟩ := (HO.out.sl (Sm.sealed_rng HR.out)).form
    obtain ⟨_, _, e2, h5⟩ := h4 (by intro e; have := HSL.out; rw [e] at this; simp at this)
    rw [Value.slice.injEq] at e1
    obtain ⟨e1, _, _⟩ := e1
    rw [← e1] at e2
    cases e2
    have := h5 K (by have := HSL.out; omega)
    rw [Nat.zero_add, ← hc] at this
    exact this
  have hfz : wn.frozen? ⟨g, K, none⟩ = false := by
    obtain ⟨cur, hcur⟩ := HO.out.kind (g := g) rfl
    simp [World.frozen?, hcur]
  rw [← hc] at hcr
  have hp : 2 ^ J < 256 := by
    have : 2 ^ J ≤ 2 ^ 7 := Nat.pow_le_pow_right (by omega) (by omega)
    omega
  have hp0 : 2 ^ J ≠ 0 := by have := Nat.two_pow_pos J; omega
  obtain ⟨d, hd⟩ : ∃ d, d = c ^^^ 2 ^ J := ⟨_, rfl⟩
  have hd8 : d < 256 := by rw [hd]; exact Sm.xor_lt8 (by omega) hp
  have hdc : d ≠ c := by
    intro e
    rw [hd] at e
    apply hp0
    have := congrArg (c ^^^ ·) e
    simp [← Nat.xor_assoc] at this
  have hbk : d ^^^ 2 ^ J = c := by rw [hd, Nat.xor_assoc, Nat.xor_self, Nat.xor_zero]
  have e2J : (2 : Int) ^ J % 256 = ((2 ^ J : Nat) : Int) := by
    rw [show (2 : Int) ^ J = ((2 ^ J : Nat) : Int) by simp]
    generalize 2 ^ J = q at hp
    omega
  have hxor : bits .xor .u8 (c : Int) ((2 : Int) ^ J % 256) = (d : Int) := by
    rw [e2J, u8_xor_nat c (2 ^ J) (by omega) hp, ← hd]
  have hxor2 : bits .xor .u8 (d : Int) ((2 : Int) ^ J % 256) = (c : Int) := by
    rw [e2J, u8_xor_nat d (2 ^ J) (by omega) hp, hbk]
  have HX2 : Hid (bits .xor .u8 (d : Int) ((2 : Int) ^ J % 256) = (c : Int)) := hxor2
  clear hp hp0 hd e2J hbk hxor2
  have HC : Hid ((c : Int) = (Sm.sealed l).getD K 0) := hc
  clear hc
  go_wp2
  go_region
  have hset : U ((Sm.sealed l).set K (d : Int)) = (U (Sm.sealed l)).set K (.int .u8 (d : Int)) := by simp [U, List.map_set]
  have hlen2 : ((Sm.sealed l).set K (d : Int)).length = n + 4 := by rw [List.length_set]; exact HSL.out
  have HO2 : Own ((wn.setCell ⟨g, K, none⟩ (.int .u8 (d : Int))).drew) (.slice (some ⟨g, 0, none⟩) (n + 4) cap1) ((Sm.sealed l).set K (d : Int)) := by
    have h := HO.out
    unfold Own at h ⊢
    rw [HSL.out] at h
    rw [hset, hlen2]
    exact (World.ownsRow.stored h K _).1
  have hM2 : Mod (fun _ => False) w ((wn.setCell ⟨g, K, none⟩ (.int .u8 (d : Int))).drew) := (hm.setCell _ _ (.inr hg)).drew
  have hT := Sm.told l K (d : Int) (by rw [← HN.out]; exact hK2) HR.out ⟨by omega, by omega⟩ (by rw [← HC.out]; omega)
  have hR2 : ∀ x ∈ (Sm.sealed l).set K (d : Int), 0 ≤ x ∧ x ≤ 255 := fun x hx => by
    rcases List.mem_or_eq_of_mem_set hx with h | rfl
    · exact Sm.sealed_rng HR.out x h
    · omega
  have hE : uE ((Sm.sealed l).set K (d : Int)) = 60 := by
    have : Sm.openE ((Sm.sealed l).set K (d : Int)) = 60 := by
      unfold Sm.openE
      rw [hlen2, if_neg (by omega), Nat.add_sub_cancel, HN.out, if_neg hT.1]
    rw [uE, if_neg (by omega), if_pos (by rw [this]; decide), this]
  have HS0 : Hid (((Sm.sealed l).set K (d : Int)).set K (c : Int) = Sm.sealed l) := by
    have e1 : ((Sm.sealed l).set K (d : Int)).set K (c : Int) = (Sm.sealed l).set K (c : Int) := by simp
    show _ = _
    rw [e1, HC.out]
    have hk : K < (Sm.sealed l).length := by rw [HSL.out]; exact hK2
    simp [hk]
  generalize (wn.setCell ⟨g, K, none⟩ (.int .u8 (d : Int))).drew = W2 at HO2 hM2 ⊢
  have HUn := pUnpack_any _ _ W2 (HO2.sl hR2)
  unfold UPost at HUn
  rw [hE] at HUn
  have hd2 : ((Sm.sealed l).set K (d : Int)).getD K 0 = (d : Int) := by
    have hk : K < (Sm.sealed l).length := by rw [HSL.out]; exact hK2
    simp [hk]
  generalize (Sm.sealed l).set K (d : Int) = L at *
  have HL2 : Hid (L.length = n + 4) := hlen2
  have HR2 : Hid (∀ x ∈ L, 0 ≤ x ∧ x ≤ 255) := hR2
  clear hT hE hset hlen2 hR2 hm hcell hfz hxor HO
  go_wp2_with (fail)
  refine HUn.mono ?_
  rintro e w3 ⟨zs, rfl, hm3, _, hk3⟩
  obtain rfl := hk3 (by decide)
  have HO3 := HO2.mod hm3 (fun _ _ h => h)
  have hM3 := hM2.trans hm3 (V := fun _ => False) (fun _ _ h => h) (fun _ _ h => h)
  have hBn := Bk.new w3 pz 76
  have hMa : Mod (fun _ => False) w3 (w3.alloc (.cells pz 76)) := (Mod.refl _ w3).alloc _
  have hgl : g < w3.heap.size := HO3.lt g rfl
  clear HUn hk3 hm3 hM2 HO2
  have hcell : ∀ W, Own W (.slice (some ⟨g, 0, none⟩) (n + 4) cap1) L → W.cell? ⟨g, K, none⟩ = some (.int .u8 (d : Int)) ∧ W.frozen? ⟨g, K, none⟩ = false := fun W hW => by
    constructor
    · obtain ⟨_, _, e1, _, _, _, h4⟩ := (hW.sl HR2.out).form
      obtain ⟨_, _, e2, h5⟩ := h4 (by intro e; have := HL2.out; rw [e] at this; simp at this)
      rw [Value.slice.injEq] at e1
      obtain ⟨e1, _, _⟩ := e1
      rw [← e1] at e2
      cases e2
      have := h5 K (by have := HL2.out; omega)
      rw [Nat.zero_add, hd2] at this
      exact this
    · obtain ⟨cur, hcur⟩ := hW.kind (g := g) rfl
      simp [World.frozen?, hcur]
  have HCL : Hid (∀ W, Own W (.slice (some ⟨g, 0, none⟩) (n + 4) cap1) L → W.cell? ⟨g, K, none⟩ = some (.int .u8 (d : Int)) ∧ W.frozen? ⟨g, K, none⟩ = false) := hcell
  clear hcell hd2
  have hxor := HX2.out
  go_wp2_with (refine wpList_store_row info40 rfl rfl _ _ rfl w3.heap.size pz rfl rfl hBn rfl rfl rfl ?_; intro w4 hB4 hM4; have hM34 : Mod (fun _ => False) w3 w4 := hMa.trans hM4 (fun _ _ h => h) (fun i hi h => by omega); have HO4 := HO3.mod hM34 (fun _ _ h => h); obtain ⟨cl4, fz4⟩ := HCL.out w4 HO4)
  have hMw4 := hM3.trans hM34 (V := fun _ => False) (fun _ _ h => h) (fun _ _ h => h)
  clear hBn hMa hB4 hM4 hM34 hM3 HO3
  go_region
  have hset : U (L.set K (c : Int)) = (U L).set K (.int .u8 (c : Int)) := by simp [U, List.map_set]
  have hlen3 : (L.set K (c : Int)).length = n + 4 := by rw [List.length_set]; exact HL2.out
  have HO5 : Own ((w4.setCell ⟨g, K, none⟩ (.int .u8 (c : Int))).drew) (.slice (some ⟨g, 0, none⟩) (n + 4) cap1) (L.set K (c : Int)) := by
    have h := HO4
    unfold Own at h ⊢
    rw [HL2.out] at h
    rw [hset, hlen3]
    exact (World.ownsRow.stored h K _).1
  have hM5 : Mod (fun _ => False) w ((w4.setCell ⟨g, K, none⟩ (.int .u8 (c : Int))).drew) := (hMw4.setCell _ _ (.inr hg)).drew
  rw [HS0.out] at HO5
  generalize (w4.setCell ⟨g, K, none⟩ (.int .u8 (c : Int))).drew = W5 at HO5 hM5 ⊢
  have HU5 := HU _ W5 (HO5.sl (Sm.sealed_rng HR.out))
  clear hset hlen3 HU cl4 fz4 HO4 hMw4 hxor
  go_wp2_with (fail)
  refine HU5.mono ?_
  rintro e w6 ⟨ys, rfl, hm6, hy6⟩
  have hM6 := hM5.trans hm6 (V := fun _ => False) (fun _ _ h => h) (fun _ _ h => h)
  obtain ⟨hsy, hyo⟩ := hy6.size
  have hBn := Bk.new w6 pz 76
  have hMa : Mod (fun _ => False) w6 (w6.alloc (.cells pz 76)) := (Mod.refl _ w6).alloc _
  clear HU5 hm6 hM5 HO5 hy6
  go_wp2_with (refine wpList_store_part info40 rfl rfl _ _ rfl w6.heap.size 0 ys rfl rfl hBn (by show 40 ≤ 40; omega) hsy hyo _ rfl ?_; intro w7 hB7 hM7)
  go_ret
  exact ⟨rfl, (hM6.trans hMa (V := fun _ => False) (fun _ _ h => h) (fun _ _ h => h)).trans hM7 (fun _ _ h => h) (fun i hi h => by have := hM6.size; omega)⟩
theorem pturn_walk (P : Pk) (xs : Array Value) (x : Int) (w : World) (h : PkIn w 0 xs P) (r : Rn P) (hx : -9223372036854775808 ≤ x ∧ x ≤ 9223372036854775807) : Calls Try.prog 11 #[.agg xs, .int .i64 x] w fun e w' => e = .returned (.bool true) ∧ Mod (fun _ => False) w w' := by
  rcases pchk_two P with hc | hc
  · exact pturn_ok P xs x w h r hx hc
  · exact pturn_no P xs x w h r hc
namespace packetTurned
open Go.ChangeShapes Go.WideShapes Go.ChangeAt Go.RowKit
set_option maxRecDepth 100000 in
theorem lifted (os : Os) (started : os.Started) (H : Type) (enc : TypeId × Value → H) :
    ReturnsInHanded {} Try.checked os 11 .any (Rows.packetTurnedSpec.pre6 enc Try.prog Try.f11 Rows.packetTurnedRow.domain false) (Rows.packetTurnedSpec.post enc Try.prog Try.f11 false true false false) := by
  refine returnsInHanded_of_change_sized (C := Try.checked) own started (by kernel_rfl) Try.func11
    (ChangeSpec.witness6 (enc := enc) (C := Try.checked) false ⟨#[], #[.agg #[.int .i64 0, .int .i64 0, .int .i64 0, .int .i64 0, .int .i64 0, .int .i64 0, .int .i64 0, .int .i64 0, .int .i64 0, .int .i64 0, .int .i64 0, .int .i64 0, .int .i64 0, .int .i64 0, .bool false, .int .i64 0, .int .i64 0, .int .i64 0, .int .i64 0, .slice none 0 0, .int .i64 0, .int .i64 0, .int .i64 0, .int .i64 0, .int .i64 0, .int .i64 0, .int .i64 0, .int .i64 0, .slice none 0 0, .int .i64 0, .int .i64 0, .int .i64 0, .int .i64 0, .int .i64 0, .int .i64 0, .int .i64 0, .slice none 0 0, .int .i64 0, .int .i64 0, .int .i64 0], .int .i64 0], []⟩ 8 (by kernel_rfl) (by kernel_rfl) (by kernel_rfl) (by kernel_rfl)) ?_
  intro W base args ds gs before hval0 hW hcnd hsz0 _
  have hval : ∀ (j : Nat) t v, Try.f11.params[j]? = some t → args[j]? = some v → Value.okWide Try.prog W .any base t v := hval0
  have hsz : (DataW.weightsEach Try.prog (Try.f11.params.toList ++ Rows.packetTurnedSpec.plain.varTypes Try.prog) (ds ++ gs)).all (· ≤ reachBytes) = true := hsz0
  have hW' := hW
  obtain ⟨p, q, hA0, hV, rfl, hfz, hnd⟩ := hW
  have hA : DataW.TrodAll enc Try.prog W 0 (fun _ => true) true Try.f11.params.toList args.toList ds p := hA0
  rw [Try.params11] at hA hval hsz
  obtain ⟨v0, vs0, d0, ds0, p0, q0, hargs, rfl, rfl, h0, r0⟩ := trodAll_cons hA
  obtain ⟨v1, vs1, d1, ds1, p1, q1, rfl, rfl, rfl, h1, r1⟩ := trodAll_cons r0
  obtain ⟨rfl, rfl, rfl⟩ := trodAll_nil r1
  obtain rfl : args = #[v0, v1] := by cases args; simp_all
  obtain ⟨rfl, rfl⟩ := trodVars_none hV
  have k0 := h0
  have lt0 : ∀ x ∈ p0, x.block < W.heap.size := by obtain ⟨m, hm⟩ := k0; exact DataW.trod_lt m _ _ _ hm
  obtain ⟨P, xs, rfl, hP, hR⟩ := open_packet (hval 0 76 v0 rfl rfl) h0
  obtain ⟨a1, rfl, rfl, rfl, w1⟩ := open_int Try.underlying3 (hval 1 3 v1 rfl rfl) h1
  clear hA0 hval0
  refine (pturn_walk P xs a1 W hP hR (i64_of_wf w1)).mono fun e W' ⟨he, hm⟩ => ?_
  subst he
  have bel : Below W.heap.size W W' := hm.below _ (Nat.le_refl _) (fun _ h => h.elim)
  exact ⟨_, rfl, _, _, _, [], _, [], hW', trodAll_mk1 (shut_bool Try.underlying4 _), (trodAll_cons_mk (Below.trod laidOut (by kernel_rfl) (of_decide_eq_true (by kernel_rfl)) k0 bel lt0) (trodAll_cons_mk (shut_int Try.underlying3 w1) trodAll_mk0)), rfl, bel.frame _, fun h => by cases h⟩

theorem over : Rows.packetTurnedRow.holds Try.pinned (OpenSpec.ofChange Rows.packetTurnedSpec) :=
  OpenClaim.holds_of_wide 11 Try.f11 rfl rfl rfl rfl rfl rfl rfl ⟨rfl, rfl, rfl, rfl, rfl⟩ rfl rfl rfl rfl rfl (by kernel_rfl) Try.func11 (by kernel_rfl)
    (of_decide_eq_true (by kernel_rfl)) (by unfold Func.isWrapper; first | (rw [if_pos (by decide +kernel)]; kernel_rfl) | (rw [if_neg (by decide +kernel)]; exact ⟨rfl, rfl⟩))
    (fun os started H enc _ => lifted os started H enc)
end packetTurned
theorem packetTurned_holds : Rows.PacketTurnedSaid := packetTurned.over
end Go.Proofs.Ytajhpnfpjickbaa
