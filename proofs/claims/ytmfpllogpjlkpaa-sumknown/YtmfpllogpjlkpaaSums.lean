/- SumSums holds: for any bytes the law answers true and turns nothing that was there: Of, Seal and Open answer as the chapter says, and what they answer is memory of its own. Conditions: none beyond the form's own reach (a slice of bytes takes at most 2^47 - 4096 bytes). -/
import Derived.Test.YtmfpllogpjlkpaaRe
import Derived.Laws.OwnMore
namespace Go.Proofs.Ytmfpllogpjlkpaa
open Go.RowKit
theorem Own.put {w : World} {g n cap K : Nat} {L : List Int} {d : Int} (hn : L.length = n) (h : Own w (.slice (some ⟨g, 0, none⟩) n cap) L) : Own (w.setCell ⟨g, K, none⟩ (.int .u8 d)) (.slice (some ⟨g, 0, none⟩) n cap) (L.set K d) := by
  unfold Own at h ⊢
  rw [show U (L.set K d) = (U L).set K (.int .u8 d) by simp [U, List.map_set], List.length_set, hn]
  rw [hn] at h
  exact (World.ownsRow.stored h K _).1
theorem Own.cell {w : World} {g n cap : Nat} {L : List Int} (hn : L.length = n) (h : Own w (.slice (some ⟨g, 0, none⟩) n cap) L) (K : Nat) (hK : K < n) : w.cell? ⟨g, K, none⟩ = some (.int .u8 (L.getD K 0)) ∧ w.frozen? ⟨g, K, none⟩ = false := by
  obtain ⟨cur, hcur⟩ := h.kind (g := g) rfl
  refine ⟨?_, by simp [World.frozen?, hcur]⟩
  unfold Own at h
  rw [hn] at h
  have := World.ownsRow.cellAt h K (by omega)
  rw [this]
  exact U_get L K (by omega)
set_option maxRecDepth 100000 in
set_option maxHeartbeats 4000000 in
theorem sums_walk (v : Value) (l : List Int) (w : World) (hs : Sl w v l) (hb : l.length ≤ 140737488351232) :
    Calls Try.prog 3 #[v] w fun e w' => e = .returned (.bool true) ∧ Mod (fun _ => False) w w' := by
  have hrg := hs.rng
  have hsr := sealed_rng hrg
  have HSL : Hid ((sealed l).length = l.length + 4) := sealed_len l
  have HLT : Hid (l ≠ [] → ∀ q, v.ownBlock = some q → q < w.heap.size) := fun h => hs.lt h
  have HRG : Hid (∀ c ∈ l, 0 ≤ c ∧ c ≤ 255) := hrg
  have HSR : Hid (∀ c ∈ sealed l, 0 ≤ c ∧ c ≤ 255) := hsr
  clear hrg hsr
  obtain ⟨ao, cap, rfl⟩ : ∃ ao cap, v = .slice ao l.length cap := by obtain ⟨ao, cap, e, _⟩ := hs.form; exact ⟨ao, cap, e⟩
  have HSeal : Hid (∀ W v, Sl W v l → Calls Try.prog 9 #[v] W fun e w' => ∃ v', e = .returned v' ∧ Own w' v' (sealed l) ∧ Mod (fun _ => False) W w' ∧ (∀ g, v'.ownBlock = some g → W.heap.size ≤ g)) := fun W v h => Seal_any v l W h (by omega)
  have HrSeal : Hid (∀ W v, Sl W v l → Calls Try.prog 13 #[v] W fun e w' => ∃ v', e = .returned v' ∧ Own w' v' (sealed l) ∧ Mod (fun _ => False) W w' ∧ (∀ g, v'.ownBlock = some g → W.heap.size ≤ g)) := fun W v h => rSeal_any v l W h (by omega)
  generalize sealed l = SL at HSL HSR HSeal HrSeal
  go_enter Try.func3, Try.ntmps3
  go_wp2_with fail
  refine (copy_any _ l _ hs (by omega)).mono ?_
  rintro e w1 ⟨v1, rfl, ho1, hm, hv1⟩
  replace hs := hs.mod hm (fun _ _ h => h)
  go_wp2_with fail
  refine (HSeal.out _ v1 (ho1.sl HRG.out)).mono ?_
  rintro e w2 ⟨v2, rfl, ho2, hm2, hv2⟩
  have hv2' : ∀ g, v2.ownBlock = some g → w.heap.size ≤ g := fun g hg => Nat.le_trans hm.size (hv2 g hg)
  have hne : ∀ g, v2.ownBlock = some g → v1.ownBlock ≠ some g := fun g hg e => by have h1 := hv2 g hg; have h2 := ho1.lt g e; omega
  replace hm := hm.and hm2
  replace hs := hs.mod hm2 (fun _ _ h => h)
  replace ho1 := ho1.mod hm2 (fun _ _ h => h)
  clear hm2 hv2
  obtain ⟨g, cap2, rfl, hc1, hc2⟩ := ho2.form (by have := HSL.out; omega)
  have hg : w.heap.size ≤ g := hv2' g rfl
  have hne1 : v1.ownBlock ≠ some g := hne g rfl
  rw [HSL.out] at hc1 ho2 ⊢
  clear hv2' hne
  go_wp2_with fail
  refine (Of_any v1 l _ (ho1.sl HRG.out)).mono ?_
  rintro e w3 ⟨rfl, hm3⟩
  replace hm := hm.and hm3
  replace hs := hs.mod hm3 (fun _ _ h => h)
  replace ho1 := ho1.mod hm3 (fun _ _ h => h)
  replace ho2 := ho2.mod hm3 (fun _ _ h => h)
  clear hm3
  go_wp2_with fail
  refine (rOf_any _ l _ hs).mono ?_
  rintro e w3' ⟨rfl, rfl⟩
  generalize chk l = X
  go_wp2_with fail
  refine (HrSeal.out _ _ hs).mono ?_
  rintro e w4 ⟨v4, rfl, ho4, hm4, hv4⟩
  replace hm := hm.and hm4
  replace hs := hs.mod hm4 (fun _ _ h => h)
  replace ho1 := ho1.mod hm4 (fun _ _ h => h)
  replace ho2 := ho2.mod hm4 (fun _ _ h => h)
  clear hm4 hv4
  go_wp2_with fail
  refine (EqBytes_at true (ho2.sl HSR.out) (ho4.sl HSR.out) (by simp)).mono ?_
  rintro e w5 ⟨rfl, hm5⟩
  replace hm := hm.and hm5
  replace hs := hs.mod hm5 (fun _ _ h => h)
  replace ho1 := ho1.mod hm5 (fun _ _ h => h)
  replace ho2 := ho2.mod hm5 (fun _ _ h => h)
  clear hm5 ho4
  go_wp2_with fail
  refine (EqBytes_at true (ho1.sl HRG.out) hs (by simp)).mono ?_
  rintro e w6 ⟨rfl, hm6⟩
  replace hm := hm.and hm6
  replace hs := hs.mod hm6 (fun _ _ h => h)
  replace ho1 := ho1.mod hm6 (fun _ _ h => h)
  replace ho2 := ho2.mod hm6 (fun _ _ h => h)
  clear hm6
  go_wp2
  have hmW := hm.alloc (.cells #[.slice ao l.length cap, .slice (some ⟨g, 0, none⟩) (l.length + 4) cap2] 22)
  have hA := (Mod.refl (fun _ => False) w6).alloc (.cells #[.slice ao l.length cap, .slice (some ⟨g, 0, none⟩) (l.length + 4) cap2] 22)
  replace hs := hs.mod hA (fun _ _ h => h)
  replace ho1 := ho1.mod hA (fun _ _ h => h)
  replace ho2 := ho2.mod hA (fun _ _ h => h)
  have hp0 : (w6.alloc (.cells #[.slice ao l.length cap, .slice (some ⟨g, 0, none⟩) (l.length + 4) cap2] 22)).cell? ⟨w6.heap.size, 0, none⟩ = some (.slice ao l.length cap) := by rw [cell_of_row _ _ 0 _ _ _ (heap_alloc_last w6 _)]; rfl
  have hp1 : (w6.alloc (.cells #[.slice ao l.length cap, .slice (some ⟨g, 0, none⟩) (l.length + 4) cap2] 22)).cell? ⟨w6.heap.size, 1, none⟩ = some (.slice (some ⟨g, 0, none⟩) (l.length + 4) cap2) := by rw [cell_of_row _ _ 1 _ _ _ (heap_alloc_last w6 _)]; rfl
  clear hm hA
  generalize w6.alloc (.cells #[.slice ao l.length cap, .slice (some ⟨g, 0, none⟩) (l.length + 4) cap2] 22) = WB at hmW hs ho1 ho2 hp0 hp1 ⊢
  generalize w6.heap.size = pb at hp0 hp1 ⊢
  have HP0 : Hid (WB.cell? ⟨pb, 0, none⟩ = some (.slice ao l.length cap)) := hp0
  have HP1 : Hid (WB.cell? ⟨pb, 1, none⟩ = some (.slice (some ⟨g, 0, none⟩) (l.length + 4) cap2)) := hp1
  clear hp0 hp1 hc2
  go_loopw [40] (fun i wr => ∃ k : Nat, i = .int .i64 (k : Int) ∧ k ≤ 2 ∧ Mod (fun _ => False) WB wr) (fun i _ => 2 - (intOf i).toNat)
  case atStart => exact ⟨0, rfl, by omega, Mod.refl _ _⟩
  case round =>
    obtain ⟨k, rfl, hk, hmr⟩ := hrel
    by_cases hlt : k < 2
    · obtain ⟨xv, X, hxc, hxs, hxl⟩ : ∃ xv X, wr.cell? ⟨pb, k, none⟩ = some xv ∧ Sl wr xv X ∧ X.length ≤ 140737488355328 := by
        rcases (show k = 0 ∨ k = 1 by omega) with rfl | rfl
        · exact ⟨_, l, hmr.cell HP0.out (fun h => h), hs.mod hmr (fun _ _ h => h), by omega⟩
        · exact ⟨_, SL, hmr.cell HP1.out (fun h => h), (ho2.sl HSR.out).mod hmr (fun _ _ h => h), by have := HSL.out; omega⟩
      have hxr := hxs.rng
      have HXR : Hid (∀ c ∈ X, 0 ≤ c ∧ c ≤ 255) := hxr
      have HXD : Hid (∀ c ∈ openD X, 0 ≤ c ∧ c ≤ 255) := openD_rng hxr
      have HO1 : Hid (∀ W v, Sl W v X → Calls Try.prog 14 #[v] W fun e w' => ∃ v', e = .returned (.tuple #[v', .int .i64 (openE X)]) ∧ Own w' v' (openD X) ∧ Mod (fun _ => False) W w' ∧ (∀ g, v'.ownBlock = some g → W.heap.size ≤ g)) := fun W v h => Open_any v X W h hxl
      have HO2 : Hid (∀ W v, Sl W v X → Calls Try.prog 15 #[v] W fun e w' => ∃ v', e = .returned (.tuple #[v', .int .i64 (openE X)]) ∧ Own w' v' (openD X) ∧ Mod (fun _ => False) W w' ∧ (∀ g, v'.ownBlock = some g → W.heap.size ≤ g)) := fun W v h => rOpen_any v X W h hxl
      have hdl := openD_len X
      generalize openE X = E at HO1 HO2
      generalize openD X = D at HO1 HO2 HXD hdl
      clear hxr hs ho1 ho2
      have hk2 : (k : Int) < 2 := by omega
      have hk0 : (0 : Int) ≤ (k : Int) := by omega
      go_wp2_with fail
      refine (copy_any xv X _ hxs hxl).mono ?_
      rintro e wa ⟨v5, rfl, ho5, hma, hv5⟩
      have hxs' : Hid (X ≠ [] → ∀ g, xv.ownBlock = some g → g < wr.heap.size) := fun h => hxs.lt h
      have hsz := hma.size
      replace hxs := hxs.mod hma (fun _ _ h => h)
      replace hmr := hmr.and hma
      clear hma hxc
      go_wp2_with fail
      refine (HO1.out _ v5 (ho5.sl HXR.out)).mono ?_
      rintro e wb ⟨v6, rfl, ho6, hmb, hv6⟩
      have hne5 : ∀ q, v5.ownBlock = some q → ¬ v6.ownBlock = some q := fun q h1 h2 => by have := hv6 q h2; have := ho5.lt q h1; omega
      have hne6 : X ≠ [] → ∀ q, xv.ownBlock = some q → ¬ v6.ownBlock = some q := fun hX q h1 h2 => by have := hv6 q h2; have := hxs'.out hX q h1; omega
      have hne7 : ∀ q, q < WB.heap.size → ¬ v6.ownBlock = some q := fun q h1 h2 => by have := hv6 q h2; have := hmr.size; omega
      have HNE5 : Hid (∀ q, v5.ownBlock = some q → ¬ v6.ownBlock = some q) := hne5
      have HNE6 : Hid (X ≠ [] → ∀ q, xv.ownBlock = some q → ¬ v6.ownBlock = some q) := hne6
      have HNE7 : Hid (∀ q, q < WB.heap.size → ¬ v6.ownBlock = some q) := hne7
      replace hxs := hxs.mod hmb (fun _ _ h => h)
      replace ho5 := ho5.mod hmb (fun _ _ h => h)
      replace hmr := hmr.and hmb
      clear hmb hv6 hv5 hne5 hne6 hne7 hxs' hsz
      go_wp2_with fail
      refine (HO2.out _ xv hxs).mono ?_
      rintro e wc ⟨v7, rfl, ho7, hmc, _⟩
      replace hxs := hxs.mod hmc (fun _ _ h => h)
      replace ho5 := ho5.mod hmc (fun _ _ h => h)
      replace ho6 := ho6.mod hmc (fun _ _ h => h)
      replace hmr := hmr.and hmc
      clear hmc
      go_wp2_with fail
      refine (EqBytes_at true (ho6.sl HXD.out) (ho7.sl HXD.out) (by simp)).mono ?_
      rintro e wd ⟨rfl, hmd⟩
      replace hxs := hxs.mod hmd (fun _ _ h => h)
      replace ho5 := ho5.mod hmd (fun _ _ h => h)
      replace ho6 := ho6.mod hmd (fun _ _ h => h)
      replace hmr := hmr.and hmd
      clear hmd ho7
      go_wp2_with fail
      refine (EqBytes_at true (ho5.sl HXR.out) hxs (by simp)).mono ?_
      rintro e we ⟨rfl, hme⟩
      replace hxs := hxs.mod hme (fun _ _ h => h)
      replace ho5 := ho5.mod hme (fun _ _ h => h)
      replace ho6 := ho6.mod hme (fun _ _ h => h)
      replace hmr := hmr.and hme
      clear hme
      obtain ⟨a6, c6, rfl⟩ := ho6.shape
      obtain ⟨m, hmd⟩ : ∃ m, m = D.length := ⟨_, rfl⟩
      rw [← hmd] at ho6 hdl HNE5 HNE6 HNE7 ⊢
      have HMD : Hid (m = D.length) := hmd
      have hm63 : m ≤ 140737488355328 := by omega
      clear hmd hdl HO1 HO2 hxl
      go_wp2
      go_loopw [12] (fun i wq => ∃ (j : Nat) (L : List Int), i = .int .i64 (j : Int) ∧ j ≤ m ∧ Hid (L.length = m) ∧ Own wq (.slice a6 m c6) L ∧ Mod (fun b => (Value.slice a6 m c6).ownBlock = some b) we wq) (fun i _ => m - (intOf i).toNat)
      case atStart => exact ⟨0, D, rfl, by omega, HMD.out.symm, ho6, Mod.refl _ _⟩
      case round =>
        obtain ⟨j, L, rfl, hj, hL, hoL, hmL⟩ := hrel
        by_cases hjm : j < m
        · obtain ⟨g6, rfl⟩ : ∃ g6, a6 = some ⟨g6, 0, none⟩ := by
            obtain ⟨g6, c', e, _⟩ := hoL.form (by have := hL.out; omega)
            rw [Value.slice.injEq] at e
            exact ⟨g6, e.1⟩
          obtain ⟨q1, q2⟩ := hoL.cell hL.out j hjm
          generalize L.getD j 0 = cj at q1
          have hjm2 : (j : Int) < (m : Int) := by omega
          go_wp2
          go_roundw
          case rel => exact ⟨j + 1, L.set j _, by go_num, by omega, by show _ = _; rw [List.length_set]; exact hL.out, hoL.put hL.out, hmL.setCell _ _ (.inl rfl)⟩
          case measure => simp [intOf]; omega
        · have hx2 := hxs.mod2 hmL (fun hX q hq => HNE6.out hX q hq)
          have h52 := ho5.mod hmL (fun q hq => HNE5.out q hq)
          have hmr2 : Mod (fun _ => False) WB _ := hmr.trans hmL (fun _ _ h => h) (fun q hq h => HNE7.out q hq h)
          clear hxs ho5 ho6 hmL hmr hoL
          go_wp2_with fail
          refine (EqBytes_at true (h52.sl HXR.out) hx2 (by simp)).mono ?_
          rintro e wf ⟨rfl, hmf⟩
          replace hmr2 := hmr2.and hmf
          go_wp2
          go_roundw
          case rel => exact ⟨k + 1, by go_num, by omega, hmr2⟩
          case measure => simp [intOf]; omega
    · replace hmW := hmW.and hmr
      replace hs := hs.mod hmr (fun _ _ h => h)
      replace ho1 := ho1.mod hmr (fun _ _ h => h)
      replace ho2 := ho2.mod hmr (fun _ _ h => h)
      obtain ⟨m, hmd⟩ : ∃ m, m = l.length + 4 := ⟨_, rfl⟩
      rw [← hmd] at ho2 HSL ⊢
      have HMD : Hid (m = l.length + 4) := hmd
      have hm63 : m ≤ 140737488355328 := by omega
      clear hmd hmr HP0 HP1 hc1
      go_wp2
      go_loopw [13] (fun i wq => ∃ (j : Nat) (L : List Int), i = .int .i64 (j : Int) ∧ j ≤ m ∧ Hid (L.length = m) ∧ Own wq (.slice (some ⟨g, 0, none⟩) m cap2) L ∧ Mod (fun b => b = g) wr wq) (fun i _ => m - (intOf i).toNat)
      case atStart => exact ⟨0, SL, rfl, by omega, HSL.out, ho2, Mod.refl _ _⟩
      case round =>
        obtain ⟨j, L, rfl, hj, hL, hoL, hmL⟩ := hrel
        by_cases hjm : j < m
        · obtain ⟨q1, q2⟩ := hoL.cell hL.out j hjm
          generalize L.getD j 0 = cj at q1
          have hjm2 : (j : Int) < (m : Int) := by omega
          go_wp2
          go_roundw
          case rel => exact ⟨j + 1, L.set j _, by go_num, by omega, by show _ = _; rw [List.length_set]; exact hL.out, hoL.put hL.out, hmL.setCell _ _ (.inl rfl)⟩
          case measure => simp [intOf]; omega
        · have hx2 := hs.mod2 hmL (fun hX q hq => by rintro rfl; have := HLT.out hX _ hq; omega)
          have h12 := ho1.mod hmL (fun q hq => by rintro rfl; exact hne1 hq)
          have hmW2 : Mod (fun _ => False) w _ := hmW.trans hmL (fun _ _ h => h) (fun q hq h => by omega)
          clear hs ho1 ho2 hmL hmW hoL
          go_wp2_with fail
          refine (EqBytes_at true (h12.sl HRG.out) hx2 (by simp)).mono ?_
          rintro e wf ⟨rfl, hmf⟩
          replace hmW2 := hmW2.and hmf
          go_wp2_with fail
          refine (works_any _).mono ?_
          rintro e wg ⟨rfl, hmg⟩
          replace hmW2 := hmW2.and hmg
          go_wp2
          go_ret
          exact ⟨rfl, hmW2⟩

namespace sumSums
open Go.ChangeShapes Go.WideShapes Go.ChangeAt Go.RowKit
set_option maxRecDepth 100000 in
theorem lifted (os : Os) (started : os.Started) (H : Type) (enc : TypeId × Value → H) :
    ReturnsInHanded {} Try.checked os 3 .any (Rows.sumSumsSpec.pre6 enc Try.prog Try.f3 Rows.sumSumsRow.domain false) (Rows.sumSumsSpec.post enc Try.prog Try.f3 false true false false) := by
  refine returnsInHanded_of_change_sized (C := Try.checked) own started (by kernel_rfl) Try.func3
    (ChangeSpec.witness6 (enc := enc) (C := Try.checked) false ⟨#[], #[.slice none 0 0], []⟩ 8 (by kernel_rfl) (by kernel_rfl) (by kernel_rfl) (by kernel_rfl)) ?_
  intro W base args ds gs before hval0 hW hcnd hsz0 _
  have hval : ∀ (j : Nat) t v, Try.f3.params[j]? = some t → args[j]? = some v → Value.okWide Try.prog W .any base t v := hval0
  have hsz : (DataW.weightsEach Try.prog (Try.f3.params.toList ++ Rows.sumSumsSpec.plain.varTypes Try.prog) (ds ++ gs)).all (· ≤ reachBytes) = true := hsz0
  have hW' := hW
  obtain ⟨p, q, hA0, hV, rfl, hfz, hnd⟩ := hW
  have hA : DataW.TrodAll enc Try.prog W 0 (fun _ => true) true Try.f3.params.toList args.toList ds p := hA0
  rw [Try.params3] at hA hval hsz
  obtain ⟨v0, vs0, d0, ds0, p0, q0, hargs, rfl, rfl, h0, r0⟩ := trodAll_cons hA
  obtain ⟨rfl, rfl, rfl⟩ := trodAll_nil r0
  obtain rfl : args = #[v0] := by cases args; simp_all
  obtain ⟨rfl, rfl⟩ := trodVars_none hV
  have hs0 := okWide_slice Try.underlying22 (hval 0 22 v0 rfl rfl)
  have k0 := h0
  have lt0 : ∀ x ∈ p0, x.block < W.heap.size := by obtain ⟨m, hm⟩ := k0; exact DataW.trod_lt m _ _ _ hm
  obtain ⟨B0, hB0, hBl0⟩ : ∃ B, Sl W v0 B ∧ B.length ≤ 140737488351232 := by
    obtain ⟨ao, len, cap, rfl⟩ := hs0
    obtain ⟨fuel, hf⟩ := h0
    obtain ⟨B, hB, hbulk, hx⟩ := sl_of_trod (c := .slice ao len cap) (by simpa [Value.cells] using hf)
    refine ⟨B, hB, ?_⟩
    simp only at hbulk hx
    rcases hx with rfl | ⟨e, s, rfl, hlen⟩
    · simp [Rows.uptoBulk] at hbulk; simp [hbulk]
    · have := sized_slice hsz (j := 0) (t := 22) (e := 5) rfl rfl Try.underlying22
      rw [bytes5] at this
      simp only [reachBytes] at this
      omega
  clear hA0 hval0
  refine (sums_walk v0 B0 W hB0 hBl0).mono fun e W' ⟨he, hm⟩ => ?_
  subst he
  have bel : Below W.heap.size W W' := hm.below _ (Nat.le_refl _) (fun _ h => h.elim)
  exact ⟨_, rfl, _, _, _, [], _, [], hW', trodAll_mk1 (shut_bool Try.underlying4 _), (trodAll_cons_mk (Below.trod laidOut (by kernel_rfl) (of_decide_eq_true (by kernel_rfl)) k0 bel lt0) trodAll_mk0), rfl, bel.frame _, fun h => by cases h⟩

theorem over : Rows.sumSumsRow.holds Try.pinned (OpenSpec.ofChange Rows.sumSumsSpec) :=
  OpenClaim.holds_of_wide 3 Try.f3 rfl rfl rfl rfl rfl rfl rfl ⟨rfl, rfl, rfl, rfl, rfl⟩ rfl rfl rfl rfl rfl (by kernel_rfl) Try.func3 (by kernel_rfl)
    (of_decide_eq_true (by kernel_rfl)) (by unfold Func.isWrapper; first | (rw [if_pos (by decide +kernel)]; kernel_rfl) | (rw [if_neg (by decide +kernel)]; exact ⟨rfl, rfl⟩))
    (fun os started H enc _ => lifted os started H enc)
end sumSums
theorem sumSums_holds : Rows.SumSumsSaid := sumSums.over
end Go.Proofs.Ytmfpllogpjlkpaa
