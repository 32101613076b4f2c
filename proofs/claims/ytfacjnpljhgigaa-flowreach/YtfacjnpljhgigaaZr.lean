/- FlowReach holds: no more than may be is ever ahead of what all have. Conditions: none. -/
import Derived.Test.YtfacjnpljhgigaaZb
namespace Go.Proofs.Ytfacjnpljhgigaa
open Go.RowKit
theorem Pairs.shape {w : World} {v : Value} {ds : List (Int × Int)} (h : Pairs w v ds) : ∃ ao cap, v = .slice ao ds.length cap ∧ ds.length ≤ maxLen := by
  obtain ⟨ao, cap, rfl, h1, _⟩ := h.form
  exact ⟨ao, cap, rfl, h1⟩
set_option maxRecDepth 100000 in
set_option maxHeartbeats 4000000 in
theorem reach_walk (f : Int) (v : Value) (ds : List (Int × Int)) (w : World) (hf : I64 f) (hp : Pairs w v ds) : Calls Try.prog 4 #[.int .i64 f, v] w fun e w' => e = .returned (.bool true) ∧ Mod (fun _ => False) w w' := by
  obtain ⟨ao, cap, rfl, hlen⟩ := hp.shape
  have HP : Hid (Pairs w (.slice ao ds.length cap) ds) := hp
  clear hp
  have hF := bring f 1152921504606846976 w (by omega) (by omega) hf
  have hR := br_rng f 1152921504606846976 (by omega)
  obtain ⟨s, hs⟩ : ∃ s, s = br f (1152921504606846976 : Nat) := ⟨_, rfl⟩
  rw [← hs] at hF hR
  have HR : Hid (0 ≤ s ∧ s ≤ 1152921504606846976) := ⟨hR.1, by have := hR.2.1; omega⟩
  have HL : Hid (ds.length ≤ maxLen) := hlen
  clear hs hR hf hlen
  go_enter Try.func4, Try.ntmps4
  go_wp2_with (fail)
  refine (works_any _).mono ?_
  rintro e w1 ⟨rfl, rfl⟩
  go_wp2_with (fail)
  refine hF.mono ?_
  rintro e w1 ⟨rfl, rfl⟩
  clear hF
  go_wp2
  go_loopw [5, 6, 7, 8, 9] (fun x y i _ _ wr => wr = w1 ∧ ∃ (k : Nat) (t c : Int), i = .int .i64 (k : Int) ∧ x = .int .i64 t ∧ y = .int .i64 c ∧ Hid (k ≤ 300 ∧ s ≤ c ∧ c ≤ t ∧ t ≤ s + 4 * k ∧ t - c ≤ 32)) (fun _ _ i _ _ _ => 300 - (intOf i).toNat)
  case atStart => exact ⟨rfl, 0, s, s, rfl, rfl, rfl, ⟨by omega, by omega, by omega, by omega, by omega⟩⟩
  case round =>
    obtain ⟨rfl, k, t, c, rfl, rfl, rfl, HI⟩ := hrel
    by_cases hk : (k : Int) < (ds.length : Int)
    · by_cases hk3 : (k : Int) < 300
      · have hkn : k < ds.length := by omega
        obtain ⟨d, hd⟩ : ∃ d, ds[k]? = some d := ⟨_, List.getElem?_eq_getElem hkn⟩
        obtain ⟨b, off, rfl, hc⟩ := HP.out.at hd
        obtain ⟨ce0, ce1⟩ := hc _ (Mod.refl _ _)
        have hda := HP.out.each d (List.mem_of_getElem? hd)
        obtain ⟨d0, d1⟩ := d
        have hB0 := bring d0 9 wr (by omega) (by omega) hda.1
        have hB1 := bring d1 5 wr (by omega) (by omega) hda.2
        have r0 := br_rng d0 9 (by omega)
        have r1 := br_rng d1 5 (by omega)
        obtain ⟨n, hn⟩ : ∃ n, n = br d0 (9 : Nat) := ⟨_, rfl⟩
        obtain ⟨m, hm⟩ : ∃ m, m = br d1 (5 : Nat) := ⟨_, rfl⟩
        rw [← hn] at hB0 r0
        rw [← hm] at hB1 r1
        have hI := HI.out
        have hR := HR.out
        obtain ⟨q, hq⟩ : ∃ q, q = al n t c := ⟨_, rfl⟩
        have hA := fun W => allow_at n t c q W (by unfold I64; omega) (by unfold I64; omega) hq.symm
        have q0 : 0 ≤ q ∧ q ≤ 4 ∧ q ≤ n ∧ t + q - c ≤ 32 ∧ (0 < n → t - c < 32 → 0 < q) := by
          rw [hq]
          unfold al rm
          split <;> (try split) <;> omega
        obtain ⟨z, hz⟩ : ∃ z, z = min (c + m) (t + q) := ⟨_, rfl⟩
        have hmin : ∀ W, (Builtin.min_ #[3, 3] 3 #[.int .i64 (c + m), .int .i64 (t + q)]).run Try.prog W = .ok (.int .i64 z) W := fun W => by rw [Lib.run_min_ints, hz]
        have e1 : IntKind.i64.wrap (t + q) = t + q := by rw [IntKind.wrap_i64]; omega
        have e1' : wrap64 (t + q) = t + q := by unfold wrap64; omega
        have e2 : IntKind.i64.wrap (c + m) = c + m := by rw [IntKind.wrap_i64]; omega
        have e2' : wrap64 (c + m) = c + m := by unfold wrap64; omega
        have e3 : IntKind.i64.wrap (t + q - c) = t + q - c := by rw [IntKind.wrap_i64]; omega
        have e3' : wrap64 (t + q - c) = t + q - c := by unfold wrap64; omega
        have e4 : IntKind.i64.wrap (t - c) = t - c := by rw [IntKind.wrap_i64]; omega
        have e4' : wrap64 (t - c) = t - c := by unfold wrap64; omega
        have g1 : ¬ q < 0 := by omega
        have g2 : ¬ q > 4 := by omega
        have g3 : ¬ q > n := by omega
        have g4 : ¬ t + q - c > 32 := by omega
        have HQ : Hid (0 ≤ q ∧ q ≤ 4 ∧ q ≤ n ∧ t + q - c ≤ 32 ∧ (0 < n → t - c < 32 → 0 < q)) := q0
        have HZ : Hid (z = min (c + m) (t + q)) := hz
        have HM : Hid (0 ≤ m ∧ m ≤ 5) := by constructor <;> omega
        clear hq q0 hz hI hR r0 r1 hn hm hda hc hd hkn
        go_wp2_with (fail)
        refine hB0.mono ?_
        rintro e w2 ⟨rfl, rfl⟩
        go_wp2_with (fail)
        refine (hA _).mono ?_
        rintro e w2 ⟨rfl, rfl⟩
        by_cases hn0 : n > 0
        · by_cases ht : t - c < 32
          · have hqz : (q == 0) = false := by
              have := HQ.out.2.2.2.2 (by omega) ht
              simp
              omega
            go_wp2_with (fail)
            refine hB1.mono ?_
            rintro e w2 ⟨rfl, rfl⟩
            go_wp2
            go_roundw
            case rel => exact ⟨trivial, k + 1, t + q, z, by go_num, rfl, rfl, by
              have hI := HI.out
              have hR := HR.out
              have hQ := HQ.out
              have hZ := HZ.out
              have hM := HM.out
              exact ⟨by omega, by omega, by omega, by omega, by omega⟩⟩
            case measure => simp [intOf]; omega
          · go_wp2_with (fail)
            refine hB1.mono ?_
            rintro e w2 ⟨rfl, rfl⟩
            go_wp2
            go_roundw
            case rel => exact ⟨trivial, k + 1, t + q, z, by go_num, rfl, rfl, by
              have hI := HI.out
              have hR := HR.out
              have hQ := HQ.out
              have hZ := HZ.out
              have hM := HM.out
              exact ⟨by omega, by omega, by omega, by omega, by omega⟩⟩
            case measure => simp [intOf]; omega
        · go_wp2_with (fail)
          refine hB1.mono ?_
          rintro e w2 ⟨rfl, rfl⟩
          go_wp2
          go_roundw
          case rel => exact ⟨trivial, k + 1, t + q, z, by go_num, rfl, rfl, by
            have hI := HI.out
            have hR := HR.out
            have hQ := HQ.out
            have hZ := HZ.out
            have hM := HM.out
            exact ⟨by omega, by omega, by omega, by omega, by omega⟩⟩
          case measure => simp [intOf]; omega
      · go_wp2
        go_ret
        exact ⟨rfl, Mod.refl _ _⟩
    · go_wp2
      go_ret
      exact ⟨rfl, Mod.refl _ _⟩
namespace flowReach
open Go.ChangeShapes Go.WideShapes Go.ChangeAt Go.RowKit
set_option maxRecDepth 100000 in
theorem lifted (os : Os) (started : os.Started) (H : Type) (enc : TypeId × Value → H) :
    ReturnsInHanded {} Try.checked os 4 .any (Rows.flowReachSpec.pre6 enc Try.prog Try.f4 Rows.flowReachRow.domain false) (Rows.flowReachSpec.post enc Try.prog Try.f4 false true false false) := by
  refine returnsInHanded_of_change_sized (C := Try.checked) own started (by kernel_rfl) Try.func4
    (ChangeSpec.witness6 (enc := enc) (C := Try.checked) false ⟨#[], #[.int .i64 0, .slice none 0 0], []⟩ 8 (by kernel_rfl) (by kernel_rfl) (by kernel_rfl) (by kernel_rfl)) ?_
  intro W base args ds gs before hval0 hW hcnd hsz0 _
  have hval : ∀ (j : Nat) t v, Try.f4.params[j]? = some t → args[j]? = some v → Value.okWide Try.prog W .any base t v := hval0
  have hsz : (DataW.weightsEach Try.prog (Try.f4.params.toList ++ Rows.flowReachSpec.plain.varTypes Try.prog) (ds ++ gs)).all (· ≤ reachBytes) = true := hsz0
  have hW' := hW
  obtain ⟨p, q, hA0, hV, rfl, hfz, hnd⟩ := hW
  have hA : DataW.TrodAll enc Try.prog W 0 (fun _ => true) true Try.f4.params.toList args.toList ds p := hA0
  rw [Try.params4] at hA hval hsz
  obtain ⟨v0, vs0, d0, ds0, p0, q0, hargs, rfl, rfl, h0, r0⟩ := trodAll_cons hA
  obtain ⟨v1, vs1, d1, ds1, p1, q1, rfl, rfl, rfl, h1, r1⟩ := trodAll_cons r0
  obtain ⟨rfl, rfl, rfl⟩ := trodAll_nil r1
  obtain rfl : args = #[v0, v1] := by cases args; simp_all
  obtain ⟨rfl, rfl⟩ := trodVars_none hV
  obtain ⟨a0, rfl, rfl, rfl, w0⟩ := open_int Try.underlying3 (hval 0 3 v0 rfl rfl) h0
  have k1 := h1
  have lt1 : ∀ x ∈ p1, x.block < W.heap.size := by obtain ⟨m, hm⟩ := k1; exact DataW.trod_lt m _ _ _ hm
  obtain ⟨B1, hB1⟩ := open_pairs h1 (okWide_slice Try.underlying25 (hval 1 25 v1 rfl rfl))
  clear hA0 hval0
  refine (reach_walk a0 v1 B1 W (i64_of_wf w0) hB1).mono fun e W' ⟨he, hm⟩ => ?_
  subst he
  have bel : Below W.heap.size W W' := hm.below _ (Nat.le_refl _) (fun _ h => h.elim)
  exact ⟨_, rfl, _, _, _, [], _, [], hW', trodAll_mk1 (shut_bool Try.underlying4 _), (trodAll_cons_mk (shut_int Try.underlying3 w0) (trodAll_cons_mk (Below.trod laidOut (by kernel_rfl) (of_decide_eq_true (by kernel_rfl)) k1 bel lt1) trodAll_mk0)), rfl, bel.frame _, fun h => by cases h⟩

theorem over : Rows.flowReachRow.holds Try.pinned (OpenSpec.ofChange Rows.flowReachSpec) :=
  OpenClaim.holds_of_wide 4 Try.f4 rfl rfl rfl rfl rfl rfl rfl ⟨rfl, rfl, rfl, rfl, rfl⟩ rfl rfl rfl rfl rfl (by kernel_rfl) Try.func4 (by kernel_rfl)
    (of_decide_eq_true (by kernel_rfl)) (by unfold Func.isWrapper; first | (rw [if_pos (by decide +kernel)]; kernel_rfl) | (rw [if_neg (by decide +kernel)]; exact ⟨rfl, rfl⟩))
    (fun os started H enc _ => lifted os started H enc)
end flowReach
theorem flowReach_holds : Rows.FlowReachSaid := flowReach.over
end Go.Proofs.Ytfacjnpljhgigaa
