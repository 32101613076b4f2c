/- SumBit holds: for any bytes and any number the law answers true and turns nothing that was there: one turned bit is always told. Conditions: none beyond the form's own reach (a slice of bytes takes at most 2^47 - 4096 bytes). -/
import Derived.Test.YtmfpllogpjlkpaaEn
import Derived.Test.YtmfpllogpjlkpaaBack
import Derived.Laws.OwnMore
namespace Go.Proofs.Ytmfpllogpjlkpaa
open Go.RowKit
/-- Bring: into 0 .. m - 1. -/
theorem bring_any (x : Int) (m : Nat) (w : World) (h0 : 0 < m) (hm : m ≤ 1152921504606846976) (h1 : -9223372036854775808 ≤ x) (h2 : x ≤ 9223372036854775807) : Calls Try.prog 17 #[.int .i64 x, .int .i64 (m : Int)] w fun e w' => ∃ t : Nat, e = .returned (.int .i64 (t : Int)) ∧ t < m ∧ w' = w := by
  have q0 : ¬ ((m : Int) ≤ 0) := by omega
  have q1 : ¬ ((m : Int) = 0) := by omega
  have q2 : ((m : Int) == 0) = false := by simp; omega
  have hb : -(m : Int) < x.tmod (m : Int) ∧ x.tmod (m : Int) < (m : Int) := by
    rcases (show 0 ≤ x ∨ x < 0 by omega) with h | h
    · rw [Int.tmod_eq_emod_of_nonneg h]
      have a1 := Int.emod_nonneg x q1
      have a2 := Int.emod_lt_of_pos x (show (0 : Int) < m by omega)
      omega
    · have e := Int.neg_tmod (-x) (m : Int)
      rw [Int.neg_neg, Int.tmod_eq_emod_of_nonneg (by omega : 0 ≤ -x)] at e
      rw [e]
      have a1 := Int.emod_nonneg (-x) q1
      have a2 := Int.emod_lt_of_pos (-x) (show (0 : Int) < m by omega)
      omega
  generalize hr : x.tmod (m : Int) = r at hb
  obtain ⟨b1, b2⟩ := hb
  by_cases hneg : r < 0
  · obtain ⟨t, ht⟩ : ∃ t : Nat, (t : Int) = r + (m : Int) := ⟨(r + (m : Int)).toNat, by omega⟩
    go_enter Try.func17, Try.ntmps17
    go_wp2
    go_ret
    exact ⟨t, by simp [ht], by omega, rfl⟩
  · obtain ⟨t, ht⟩ : ∃ t : Nat, (t : Int) = r := ⟨r.toNat, by omega⟩
    go_enter Try.func17, Try.ntmps17
    go_wp2
    go_ret
    exact ⟨t, by simp [ht], by omega, rfl⟩
set_option maxRecDepth 100000 in
set_option maxHeartbeats 2000000 in
theorem bit_walk (v : Value) (l : List Int) (x : Int) (w : World) (hs : Sl w v l) (hb : l.length ≤ 140737488351232) (h1 : -9223372036854775808 ≤ x) (h2 : x ≤ 9223372036854775807) :
    Calls Try.prog 5 #[v, .int .i64 x] w fun e w' => e = .returned (.bool true) ∧ Mod (fun _ => False) w w' := by
  have hrg := hs.rng
  have HS : Hid (Sl w v l) := hs
  obtain ⟨ao, cap, rfl⟩ : ∃ ao cap, v = .slice ao l.length cap := by obtain ⟨ao, cap, e, _⟩ := hs.form; exact ⟨ao, cap, e⟩
  have HB : Hid (∀ (W : World) (m : Nat), 0 < m → m ≤ 1152921504606846976 → Calls Try.prog 17 #[.int .i64 x, .int .i64 (m : Int)] W fun e w' => ∃ t : Nat, e = .returned (.int .i64 (t : Int)) ∧ t < m ∧ w' = W) := fun W m h0 hm => bring_any x m W h0 hm h1 h2
  obtain ⟨n, hn⟩ : ∃ n, n = l.length := ⟨_, rfl⟩
  rw [← hn] at hb HS ⊢
  have HN : Hid (n = l.length) := hn
  have HR : Hid (∀ c ∈ l, 0 ≤ c ∧ c ≤ 255) := hrg
  clear h1 h2 hs hn hrg
  go_enter Try.func5, Try.ntmps5
  go_wp2_with fail
  refine (works_any _).mono ?_
  rintro e w0 ⟨rfl, hm⟩
  go_wp2_with fail
  refine (Seal_any _ l _ (HS.out.mod hm (fun _ _ h => h)) (by have := HN.out; omega)).mono ?_
  rintro e w1 ⟨v1, rfl, ho1, hm1, hv1⟩
  have hz := hm.size
  replace hm := hm.and hm1
  obtain ⟨g, cap1, rfl, hc1, hc2⟩ := ho1.form (by rw [sealed_len]; omega)
  have hg : w.heap.size ≤ g := by have := hv1 g rfl; omega
  rw [sealed_len, ← HN.out] at hc1
  have hsl : (sealed l).length = n + 4 := by rw [sealed_len, ← HN.out]
  rw [hsl]
  clear hm1 hv1
  go_wp2_with fail
  refine (HB.out _ (8 * (n + 4)) (by omega) (by omega)).mono ?_
  rintro e wn ⟨t, rfl, ht, rfl⟩
  have HO : Hid (Own wn (.slice (some ⟨g, 0, none⟩) (n + 4) cap1) (sealed l)) := by show Own _ _ _; rw [← hsl]; exact ho1
  have HSL : Hid ((sealed l).length = n + 4) := hsl
  clear ho1 hsl HB hc2
  obtain ⟨K, J, hK, hJ, hK2, hJ2⟩ : ∃ K J : Nat, (t : Int) / 8 = (K : Int) ∧ (t : Int) % 8 = (J : Int) ∧ K < n + 4 ∧ J < 8 := ⟨t / 8, t % 8, by omega, by omega, by omega, by omega⟩
  have hK3 : (t : Int).tdiv 8 = (K : Int) := by rw [Int.tdiv_eq_ediv_of_nonneg (by omega)]; exact hK
  have hJ3 : (t : Int).tmod 8 = (J : Int) := by rw [Int.tmod_eq_emod_of_nonneg (by omega)]; exact hJ
  have hcr := sealed_rng HR.out ((sealed l).getD K 0) (by have := HSL.out; simp [show K < (sealed l).length by omega])
  obtain ⟨c, hc⟩ : ∃ c : Nat, (c : Int) = (sealed l).getD K 0 := ⟨((sealed l).getD K 0).toNat, by omega⟩
  have hcell : wn.cell? ⟨g, K, none⟩ = some (.int .u8 (c : Int)) := by
    obtain ⟨_, _, e1, _, _, _, h4⟩ := (HO.out.sl (sealed_rng HR.out)).form
    obtain ⟨_, _, e2, h5⟩ := h4 (by intro e; have := HSL.out; rw [e] at this; simp at this)
    rw [Value.slice.injEq] at e1
    obtain ⟨e1, _, _⟩ := e1
    rw [← e1] at e2
    cases e2
    have := h5 K (by have := HSL.out; omega)
    rw [Nat.zero_add, ← hc] at this
    exact this
  have hfz : wn.frozen? ⟨g, K, none⟩ = false := by
    obtain ⟨cur, hcur⟩ := HO.out.kind (g := g) rfl
    simp [World.frozen?, hcur]
  rw [← hc] at hcr
  have hp : 2 ^ J < 256 := by
    have : 2 ^ J ≤ 2 ^ 7 := Nat.pow_le_pow_right (by omega) (by omega)
    omega
  have hp0 : 2 ^ J ≠ 0 := by have := Nat.two_pow_pos J; omega
  obtain ⟨d, hd⟩ : ∃ d, d = c ^^^ 2 ^ J := ⟨_, rfl⟩
  have hd8 : d < 256 := by rw [hd]; exact xor_lt8 (by omega) hp
  have hdc : d ≠ c := by
    intro e
    rw [hd] at e
    apply hp0
    have := congrArg (c ^^^ ·) e
    simp [← Nat.xor_assoc] at this
  have hxor : bits .xor .u8 (c : Int) ((2 : Int) ^ J % 256) = (d : Int) := by
    have e1 : (2 : Int) ^ J = ((2 ^ J : Nat) : Int) := by simp
    have e2 : (2 : Int) ^ J % 256 = ((2 ^ J : Nat) : Int) := by
      rw [e1]
      generalize 2 ^ J = q at hp
      omega
    rw [e2, u8_xor_nat c (2 ^ J) (by omega) hp, ← hd]
  clear hp hp0 hd
  have HC : Hid ((c : Int) = (sealed l).getD K 0) := hc
  clear hc
  go_wp2
  go_region
  have hset : U ((sealed l).set K (d : Int)) = (U (sealed l)).set K (.int .u8 (d : Int)) := by simp [U, List.map_set]
  have hlen2 : ((sealed l).set K (d : Int)).length = n + 4 := by rw [List.length_set]; exact HSL.out
  have HO2 : Own ((wn.setCell ⟨g, K, none⟩ (.int .u8 (d : Int))).drew) (.slice (some ⟨g, 0, none⟩) (n + 4) cap1) ((sealed l).set K (d : Int)) := by
    have h := HO.out
    unfold Own at h ⊢
    rw [HSL.out] at h
    rw [hset, hlen2]
    exact (World.ownsRow.stored h K _).1
  have hM2 : Mod (fun _ => False) w ((wn.setCell ⟨g, K, none⟩ (.int .u8 (d : Int))).drew) := (hm.setCell _ _ (.inr hg)).drew
  have hT := told l K (d : Int) (by rw [← HN.out]; exact hK2) HR.out ⟨by omega, by omega⟩ (by rw [← HC.out]; omega)
  have hR2 : ∀ x ∈ (sealed l).set K (d : Int), 0 ≤ x ∧ x ≤ 255 := fun x hx => by
    rcases List.mem_or_eq_of_mem_set hx with h | rfl
    · exact sealed_rng HR.out x h
    · omega
  have hE : openE ((sealed l).set K (d : Int)) = 60 := by
    unfold openE
    rw [hlen2, if_neg (by omega), Nat.add_sub_cancel, HN.out, if_neg hT.1]
  have hD : openD ((sealed l).set K (d : Int)) = [] := openD_bad (by rw [hE]; decide)
  generalize (wn.setCell ⟨g, K, none⟩ (.int .u8 (d : Int))).drew = W2 at HO2 hM2 ⊢
  have hS2 := HO2.sl hR2
  have HO3 : Hid (Calls Try.prog 14 #[.slice (some ⟨g, 0, none⟩) (n + 4) cap1] W2 fun e w' => ∃ v', e = .returned (.tuple #[v', .int .i64 60]) ∧ Own w' v' [] ∧ Mod (fun _ => False) W2 w' ∧ (∀ g, v'.ownBlock = some g → W2.heap.size ≤ g)) := Open_at 60 [] hS2 (by rw [hlen2]; omega) hE hD
  rw [← HN.out] at hT
  generalize (sealed l).set K (d : Int) = L at hS2 hT hlen2
  have HT : Hid (K < n → chk (L.take n) ≠ chk l) := hT.2
  have HS2 : Hid (Sl W2 (.slice (some ⟨g, 0, none⟩) (n + 4) cap1) L) := hS2
  have HL2 : Hid (L.length = n + 4) := hlen2
  clear hT hS2 hR2 hE hD HO2 hset hlen2 HO HC hm hcell hfz hxor
  go_wp2_with fail
  refine HO3.out.mono ?_
  rintro e w3 ⟨v3, rfl, ho3, hm3, _⟩
  obtain ⟨ao3, cap3, rfl⟩ := ho3.shape
  have hm := hM2.and hm3
  have hS3 := HS2.out.mod hm3 (fun _ _ h => h)
  clear HS2 HO3 ho3
  by_cases hlt : K < n
  · have hne := HT.out hlt
    have q1 : ¬ ((8 : Int) * (n : Int) ≤ (t : Int)) := by omega
    have hst : Sl w3 (.slice (some ⟨g, 0, none⟩) n cap1) (L.take n) := (HL2.out.symm ▸ hS3 : Sl w3 (.slice (some ⟨g, 0, none⟩) L.length cap1) L).take n (by have := HL2.out; omega)
    have hq : n ≤ cap1 := by omega
    have hO1 : ∀ W, Mod (fun _ => False) w3 W → Calls Try.prog 10 #[.slice (some ⟨g, 0, none⟩) n cap1] W fun e w' => e = .returned (.int .u32 (chk (L.take n) : Nat)) ∧ Mod (fun _ => False) W w' := fun W hW => Of_any _ _ W (hst.mod hW (fun _ _ h => h))
    have hO2 : ∀ W, Mod (fun _ => False) w W → Calls Try.prog 10 #[.slice ao n cap] W fun e w' => e = .returned (.int .u32 (chk l : Nat)) ∧ Mod (fun _ => False) W w' := fun W hW => Of_any _ _ W (HS.out.mod hW (fun _ _ h => h))
    generalize chk (L.take n) = P1 at hne hO1
    generalize chk l = P2 at hne hO2
    have b1 : ((P1 : Int) == (P2 : Int)) = false := by simp; omega
    have b2 : ((P1 : Int) != (P2 : Int)) = true := by simp; omega
    have HO1 : Hid (∀ W, Mod (fun _ => False) w3 W → Calls Try.prog 10 #[.slice (some ⟨g, 0, none⟩) n cap1] W fun e w' => e = .returned (.int .u32 (P1 : Int)) ∧ Mod (fun _ => False) W w') := hO1
    have HO2 : Hid (∀ W, Mod (fun _ => False) w W → Calls Try.prog 10 #[.slice ao n cap] W fun e w' => e = .returned (.int .u32 (P2 : Int)) ∧ Mod (fun _ => False) W w') := hO2
    clear hO1 hO2 hne hst hS3
    go_wp2_with fail
    refine (HO1.out _ (Mod.refl _ _)).mono ?_
    rintro e w4 ⟨rfl, hm4⟩
    replace hm := hm.and hm4
    go_wp2_with fail
    refine (HO2.out _ hm).mono ?_
    rintro e w5 ⟨rfl, hm5⟩
    replace hm := hm.and hm5
    go_wp2
    go_ret
    exact ⟨rfl, hm⟩
  · have q1 : (8 : Int) * (n : Int) ≤ (t : Int) := by omega
    go_wp2
    go_ret
    exact ⟨rfl, hm⟩

namespace sumBit
open Go.ChangeShapes Go.WideShapes Go.ChangeAt Go.RowKit
set_option maxRecDepth 100000 in
theorem lifted (os : Os) (started : os.Started) (H : Type) (enc : TypeId × Value → H) :
    ReturnsInHanded {} Try.checked os 5 .any (Rows.sumBitSpec.pre6 enc Try.prog Try.f5 Rows.sumBitRow.domain false) (Rows.sumBitSpec.post enc Try.prog Try.f5 false true false false) := by
  refine returnsInHanded_of_change_sized (C := Try.checked) own started (by kernel_rfl) Try.func5
    (ChangeSpec.witness6 (enc := enc) (C := Try.checked) false ⟨#[], #[.slice none 0 0, .int .i64 0], []⟩ 8 (by kernel_rfl) (by kernel_rfl) (by kernel_rfl) (by kernel_rfl)) ?_
  intro W base args ds gs before hval0 hW hcnd hsz0 _
  have hval : ∀ (j : Nat) t v, Try.f5.params[j]? = some t → args[j]? = some v → Value.okWide Try.prog W .any base t v := hval0
  have hsz : (DataW.weightsEach Try.prog (Try.f5.params.toList ++ Rows.sumBitSpec.plain.varTypes Try.prog) (ds ++ gs)).all (· ≤ reachBytes) = true := hsz0
  have hW' := hW
  obtain ⟨p, q, hA0, hV, rfl, hfz, hnd⟩ := hW
  have hA : DataW.TrodAll enc Try.prog W 0 (fun _ => true) true Try.f5.params.toList args.toList ds p := hA0
  rw [Try.params5] at hA hval hsz
  obtain ⟨v0, vs0, d0, ds0, p0, q0, hargs, rfl, rfl, h0, r0⟩ := trodAll_cons hA
  obtain ⟨v1, vs1, d1, ds1, p1, q1, rfl, rfl, rfl, h1, r1⟩ := trodAll_cons r0
  obtain ⟨rfl, rfl, rfl⟩ := trodAll_nil r1
  obtain rfl : args = #[v0, v1] := by cases args; simp_all
  obtain ⟨rfl, rfl⟩ := trodVars_none hV
  have hs0 := okWide_slice Try.underlying22 (hval 0 22 v0 rfl rfl)
  have k0 := h0
  have lt0 : ∀ x ∈ p0, x.block < W.heap.size := by obtain ⟨m, hm⟩ := k0; exact DataW.trod_lt m _ _ _ hm
  obtain ⟨B0, hB0, hBl0⟩ : ∃ B, Sl W v0 B ∧ B.length ≤ 140737488351232 := by
    obtain ⟨ao, len, cap, rfl⟩ := hs0
    obtain ⟨fuel, hf⟩ := h0
    obtain ⟨B, hB, hbulk, hx⟩ := sl_of_trod (c := .slice ao len cap) (by simpa [Value.cells] using hf)
    refine ⟨B, hB, ?_⟩
    simp only at hbulk hx
    rcases hx with rfl | ⟨e, s, rfl, hlen⟩
    · simp [Rows.uptoBulk] at hbulk; simp [hbulk]
    · have := sized_slice hsz (j := 0) (t := 22) (e := 5) rfl rfl Try.underlying22
      rw [bytes5] at this
      simp only [reachBytes] at this
      omega
  obtain ⟨a1, rfl, rfl, rfl, w1⟩ := open_int Try.underlying3 (hval 1 3 v1 rfl rfl) h1
  clear hA0 hval0
  refine (bit_walk v0 B0 a1 W hB0 hBl0 (bounds_i64 w1).1 (bounds_i64 w1).2).mono fun e W' ⟨he, hm⟩ => ?_
  subst he
  have bel : Below W.heap.size W W' := hm.below _ (Nat.le_refl _) (fun _ h => h.elim)
  exact ⟨_, rfl, _, _, _, [], _, [], hW', trodAll_mk1 (shut_bool Try.underlying4 _), (trodAll_cons_mk (Below.trod laidOut (by kernel_rfl) (of_decide_eq_true (by kernel_rfl)) k0 bel lt0) (trodAll_cons_mk (shut_int Try.underlying3 w1) trodAll_mk0)), rfl, bel.frame _, fun h => by cases h⟩

theorem over : Rows.sumBitRow.holds Try.pinned (OpenSpec.ofChange Rows.sumBitSpec) :=
  OpenClaim.holds_of_wide 5 Try.f5 rfl rfl rfl rfl rfl rfl rfl ⟨rfl, rfl, rfl, rfl, rfl⟩ rfl rfl rfl rfl rfl (by kernel_rfl) Try.func5 (by kernel_rfl)
    (of_decide_eq_true (by kernel_rfl)) (by unfold Func.isWrapper; first | (rw [if_pos (by decide +kernel)]; kernel_rfl) | (rw [if_neg (by decide +kernel)]; exact ⟨rfl, rfl⟩))
    (fun os started H enc _ => lifted os started H enc)
end sumBit
theorem sumBit_holds : Rows.SumBitSaid := sumBit.over
end Go.Proofs.Ytmfpllogpjlkpaa
