/- WordFree holds: from any two numbers the law answers true and turns nothing that was there. No conditions. -/
import Derived.Test.YtfinaabhmdnjfaaWe
import Derived.Test.YtfinaabhmdnjfaaRows
import Derived.ProofKit
import Derived.OpenShut
namespace Go.Proofs.Ytfinaabhmdnjfaa.wordFree
open Go.ChangeShapes Go.WideShapes Go.ChangeAt Go.RowKit

theorem enc_facts {Z Y : Int} (hz0 : 0 ≤ Z) (hz : Z ≤ 9007199254740991) (hy0 : 0 ≤ Y) (hy : Y ≤ 9007199254740991) :
    0 < (enc Z.toNat).length ∧ (enc Z.toNat).length ≤ 8 ∧ (Z ≤ Y → (enc Z.toNat).length ≤ (enc Y.toNat).length) ∧ (Z ≠ Y → enc Z.toNat ≠ (enc Y.toNat).take (enc Z.toNat).length) := by
  refine ⟨encF_pos 8 _ (by omega), enc_len _, fun h => encF_mono 8 _ _ (by omega), fun h e => h ?_⟩
  have := encF_free 8 Z.toNat Y.toNat (by omega) (by omega) e
  omega

set_option maxRecDepth 100000 in
set_option maxHeartbeats 1000000 in
theorem walk (a0 : Int) (a1 : Int) (w : World) :
    Calls Try.prog 7 #[.int .i64 a0, .int .i64 a1] w fun e w' => e = .returned (.bool true) ∧ Mod (fun _ => False) w w' := by
  obtain ⟨hA0, hA1⟩ := and_max a0
  obtain ⟨hB0, hB1⟩ := and_max a1
  generalize hX : bits .and .i64 a0 9007199254740991 = X at hA0 hA1
  generalize hY : bits .and .i64 a1 9007199254740991 = Y at hB0 hB1
  go_enter Try.func7, Try.ntmps7
  go_wp2_with (go_at_call 21; refine (works_any _).mono ?_; rintro e w1 ⟨rfl, hm1⟩)
  go_loopw [5] (fun i wr => ∃ k : Nat, i = .int .i64 k ∧ k ≤ 54 + 2 ∧ Mod (fun _ => False) w wr) (fun i _ => 56 - (intOf i).toNat)
  case atStart => exact ⟨0, rfl, by omega, hm1⟩
  case round =>
    obtain ⟨k, rfl, hk, hm⟩ := hrel
    by_cases hlt : k < 54
    · obtain ⟨hz0, hz1⟩ := div_max (n := k) hA0 hA1
      generalize hZ : X / 2 ^ k = Z at hz0 hz1
      obtain ⟨e1, e2, e3, e4⟩ := enc_facts hz0 hz1 hB0 hB1
      obtain ⟨f1, _, _, _⟩ := enc_facts hB0 hB1 hB0 hB1
      have rz := enc_rng Z.toNat
      have ry := enc_rng Y.toNat
      generalize hP : enc Z.toNat = P at e1 e2 e3 e4 rz
      generalize hQ : enc Y.toNat = Q at e3 e4 f1 ry
      have HP : Hid (enc Z.toNat = P) := hP
      have HQ : Hid (enc Y.toNat = Q) := hQ
      have H4 : Hid (Z ≠ Y → P ≠ Q.take P.length) := e4
      have HZ : Hid (P.length ≤ 8) := e2
      clear hP hQ e4
      go_wp2_with fail
      refine (lput_any Z _ hz0 hz1).mono ?_
      rintro e wa ⟨va, rfl, hoa, hma, hga⟩
      rw [HP.out] at hoa
      obtain ⟨ga, ca, rfl, hca, _⟩ := hoa.form e1
      go_wp2_with fail
      refine (lput_any Y _ hB0 hB1).mono ?_
      rintro e wb ⟨vb, rfl, hob, hmb, hgb⟩
      rw [HQ.out] at hob
      obtain ⟨gb, cb, rfl, hcb, hcb'⟩ := hob.form f1
      have hsa := (hoa.mod hmb (fun _ _ h => h)).sl rz
      have hsb := hob.sl ry
      replace hm : Mod (fun _ => False) w wb := (hm.trans hma (V := fun _ => False) (fun _ _ h => h) (fun _ _ h => h)).trans hmb (fun _ _ h => h) (fun _ _ h => h)
      clear hoa hob hma hmb hga hgb
      unfold maxLen at hcb'
      by_cases hzy : Z ≤ Y
      · have hle := e3 hzy
        clear e3
        by_cases hne : Z = Y
        · have b1 : (Z != Y) = false := by simp [hne]
          have b2 : (Z == Y) = true := by simp [hne]
          have HE : Hid (Z = Y) := hne
          clear hne
          go_wp2
          go_roundw
          case rel => exact ⟨k + 3, by go_num, by omega, hm⟩
          case measure => simp [intOf]; omega
        · have b1 : (Z != Y) = true := by simp [hne]
          have b2 : (Z == Y) = false := by simp [hne]
          have hs := hsb.take P.length hle
          have hfr : decide (P = Q.take P.length) = false := by simpa using H4.out hne
          have HF : Hid (decide (P = Q.take P.length) = false) := hfr
          clear hfr hne
          go_wp2_with (go_at_call 19; refine (EqBytes_at false hsa hs HF.out).mono ?_; rintro e wc ⟨rfl, hmc⟩)
          go_roundw
          case rel => exact ⟨k + 3, by go_num, by omega, hm.trans hmc (fun _ _ h => h) (fun _ _ h => h)⟩
          case measure => simp [intOf]; omega
      · clear e3
        have b1 : (Z != Y) = true := by simp; omega
        have b2 : (Z == Y) = false := by simp; omega
        have hd : decide (Z ≤ Y) = false := by simpa using hzy
        by_cases hle : P.length ≤ Q.length
        · have hs := hsb.take P.length hle
          have hfr : decide (P = Q.take P.length) = false := by simpa using H4.out (by omega)
          have HF : Hid (decide (P = Q.take P.length) = false) := hfr
          clear hfr
          go_wp2_with (go_at_call 19; refine (EqBytes_at false hsa hs HF.out).mono ?_; rintro e wc ⟨rfl, hmc⟩)
          go_roundw
          case rel => exact ⟨k + 3, by go_num, by omega, hm.trans hmc (fun _ _ h => h) (fun _ _ h => h)⟩
          case measure => simp [intOf]; omega
        · go_wp2
          go_roundw
          case rel => exact ⟨k + 3, by go_num, by omega, hm⟩
          case measure => simp [intOf]; omega
    · go_wp2
      go_ret
      exact ⟨rfl, hm⟩

theorem own : ownKnob Try.prog.godebug = none := by kernel_rfl
set_option maxRecDepth 100000 in
theorem lifted (os : Os) (started : os.Started) (H : Type) (enc : TypeId × Value → H) :
    ReturnsInHanded {} Try.checked os 7 .any (Rows.wordFreeSpec.pre6 enc Try.prog Try.f7 Rows.wordFreeRow.domain false) (Rows.wordFreeSpec.post enc Try.prog Try.f7 false true false false) := by
  refine returnsInHanded_of_change (C := Try.checked) own started (by kernel_rfl) Try.func7
    (ChangeSpec.witness6 (enc := enc) (C := Try.checked) false ⟨#[], #[.int .i64 0, .int .i64 0], []⟩ 8 (by kernel_rfl) (by kernel_rfl) (by kernel_rfl) (by kernel_rfl)) ?_
  intro W base args ds gs before hval0 hW hcnd _
  have hval : ∀ (j : Nat) t v, Try.f7.params[j]? = some t → args[j]? = some v → Value.okWide Try.prog W .any base t v := hval0
  have hW' := hW
  obtain ⟨p, q, hA0, hV, rfl, hfz, hnd⟩ := hW
  have hA : DataW.TrodAll enc Try.prog W 0 (fun _ => true) true Try.f7.params.toList args.toList ds p := hA0
  rw [Try.params7] at hA hval
  obtain ⟨v0, vs0, d0, ds0, p0, q0, hargs, rfl, rfl, h0, r0⟩ := trodAll_cons hA
  obtain ⟨v1, vs1, d1, ds1, p1, q1, rfl, rfl, rfl, h1, r1⟩ := trodAll_cons r0
  obtain ⟨rfl, rfl, rfl⟩ := trodAll_nil r1
  obtain rfl : args = #[v0, v1] := by cases args; simp_all
  obtain ⟨rfl, rfl⟩ := trodVars_none hV
  obtain ⟨a0, rfl, rfl, rfl, w0⟩ := open_int Try.underlying3 (hval 0 3 v0 rfl rfl) h0
  obtain ⟨a1, rfl, rfl, rfl, w1⟩ := open_int Try.underlying3 (hval 1 3 v1 rfl rfl) h1
  clear hA0 hval0
  refine (walk a0 a1 W).mono fun e W' ⟨he, hm⟩ => ?_
  subst he
  have bel : Below W.heap.size W W' := hm.below _ (Nat.le_refl _) (fun _ h => h.elim)
  exact ⟨_, rfl, _, _, _, [], _, [], hW', trodAll_mk1 (shut_bool Try.underlying4 _), (trodAll_cons_mk (shut_int Try.underlying3 w0) (trodAll_cons_mk (shut_int Try.underlying3 w1) trodAll_mk0)), rfl, bel.frame _, fun h => by cases h⟩

theorem over : Rows.wordFreeRow.holds Try.pinned (OpenSpec.ofChange Rows.wordFreeSpec) :=
  OpenClaim.holds_of_wide 7 Try.f7 rfl rfl rfl rfl rfl rfl rfl ⟨rfl, rfl, rfl, rfl, rfl⟩ rfl rfl rfl rfl rfl (by kernel_rfl) Try.func7 (by kernel_rfl)
    (of_decide_eq_true (by kernel_rfl)) (by unfold Func.isWrapper; first | (rw [if_pos (by decide +kernel)]; kernel_rfl) | (rw [if_neg (by decide +kernel)]; exact ⟨rfl, rfl⟩))
    (fun os started H enc _ => lifted os started H enc)
end Go.Proofs.Ytfinaabhmdnjfaa.wordFree
namespace Go.Proofs.Ytfinaabhmdnjfaa
theorem wordFree_holds : Rows.WordFreeSaid := wordFree.over
end Go.Proofs.Ytfinaabhmdnjfaa
