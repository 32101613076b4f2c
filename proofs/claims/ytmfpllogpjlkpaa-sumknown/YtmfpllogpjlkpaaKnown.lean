/- SumKnown holds: from any start the closed law answers true. No conditions. -/
import Derived.Test.YtmfpllogpjlkpaaRg
import Derived.Test.YtmfpllogpjlkpaaSums
namespace Go.Proofs.Ytmfpllogpjlkpaa
open Go.RowKit
theorem mixed : Try.prog.follows .mixedOrders = true := by kernel_rfl
theorem z4e : openE (List.replicate 4 0) = 0 := by decide +kernel
theorem z4d : openD (List.replicate 4 0) = [] := by decide +kernel
theorem z5e : openE (List.replicate 5 0) = 60 := by decide +kernel
theorem z5d : openD (List.replicate 5 0) = [] := by decide +kernel
set_option maxRecDepth 100000 in
set_option maxHeartbeats 4000000 in
theorem known_walk (w : World) : Calls Try.prog 7 #[] w fun e w' => e = .returned (.bool true) ∧ Mod (fun _ => False) w w' := by
  have k4 : ∀ W : World, (Instr.makeSlice 22 (.int .i64 4) (.int .i64 4)).run Try.prog W = .ok (.slice (some ⟨W.heap.size, 0, none⟩) 4 4) (W.alloc (.cells (U (List.replicate 4 0)).toArray 5)) := make_zeros 4 (by omega)
  have k5 : ∀ W : World, (Instr.makeSlice 22 (.int .i64 5) (.int .i64 5)).run Try.prog W = .ok (.slice (some ⟨W.heap.size, 0, none⟩) 5 5) (W.alloc (.cells (U (List.replicate 5 0)).toArray 5)) := make_zeros 5 (by omega)
  have k512 : ∀ W : World, (Instr.makeSlice 22 (.int .i64 512) (.int .i64 512)).run Try.prog W = .ok (.slice (some ⟨W.heap.size, 0, none⟩) 512 512) (W.alloc (.cells (U (List.replicate 512 0)).toArray 5)) := make_zeros 512 (by omega)
  have kn := fun (n : Nat) (hn : n < 4) => make_zeros n (by omega)
  have KN : Hid (∀ n : Nat, n < 4 → ∀ W, (Instr.makeSlice 22 (.int .i64 (n : Int)) (.int .i64 (n : Int))).run Try.prog W = .ok (.slice (some ⟨W.heap.size, 0, none⟩) n n) (W.alloc (.cells (U (List.replicate n 0)).toArray 5))) := kn
  clear kn
  go_enter Try.func7, Try.ntmps7
  go_wp2
  go_loopw [1] (fun i wr => ∃ k : Nat, i = .int .i64 (k : Int) ∧ k ≤ 4 ∧ Mod (fun _ => False) w wr) (fun i _ => 4 - (intOf i).toNat)
  case atStart => exact ⟨0, rfl, by omega, Mod.refl _ _⟩
  case round =>
    obtain ⟨k, rfl, hk, hm⟩ := hrel
    by_cases hlt : k < 4
    · have hkn := KN.out k hlt
      have hlt2 : (k : Int) < 4 := by omega
      have HOS := fun W n' => Open_short (some ⟨W, 0, none⟩) k n' hlt
      have HS : Hid (∀ W n' w, Calls Try.prog 14 #[.slice (some ⟨W, 0, none⟩) k n'] w fun e w' => e = .returned (.tuple #[.slice none 0 0, .int .i64 3]) ∧ w' = w) := HOS
      generalize (U (List.replicate k 0)).toArray = Z at hkn
      clear HOS k4 k5 k512 KN
      go_wp2_with fail
      refine (HS.out _ _ _).mono ?_
      rintro e wn ⟨rfl, rfl⟩
      go_wp2
      go_roundw
      case rel => exact ⟨k + 1, by go_num, by omega, hm.alloc _⟩
      case measure => simp [intOf]; omega
    · clear KN
      generalize hZ4 : (U (List.replicate 4 0)).toArray = Z4 at k4
      generalize hZ5 : (U (List.replicate 5 0)).toArray = Z5 at k5
      generalize hZ512 : (U (List.replicate 512 0)).toArray = Z512 at k512
      have HZ4 : Hid ((U (List.replicate 4 0)).toArray = Z4) := hZ4
      have HZ5 : Hid ((U (List.replicate 5 0)).toArray = Z5) := hZ5
      have HZ512 : Hid ((U (List.replicate 512 0)).toArray = Z512) := hZ512
      clear hZ4 hZ5 hZ512
      go_wp2_with fail
      have hO4 : Calls Try.prog 14 #[.slice (some ⟨wr.heap.size, 0, none⟩) 4 4] (wr.alloc (.cells Z4 5)) fun e w' => ∃ v', e = .returned (.tuple #[v', .int .i64 0]) ∧ Own w' v' [] ∧ Mod (fun _ => False) (wr.alloc (.cells Z4 5)) w' ∧ (∀ g, v'.ownBlock = some g → (wr.alloc (.cells Z4 5)).heap.size ≤ g) := by
        rw [← HZ4.out]
        exact Open_at 0 [] (Sl.zeros wr 4 (by omega)) (by decide) z4e z4d
      refine hO4.mono ?_
      rintro e w1 ⟨v1, rfl, ho1, hm1, _⟩
      replace hm := (hm.alloc _).and hm1
      obtain ⟨a1, c1, rfl⟩ := ho1.shape
      clear ho1 hm1 hO4
      go_wp2_with fail
      have hO5 : Calls Try.prog 14 #[.slice (some ⟨w1.heap.size, 0, none⟩) 5 5] (w1.alloc (.cells Z5 5)) fun e w' => ∃ v', e = .returned (.tuple #[v', .int .i64 60]) ∧ Own w' v' [] ∧ Mod (fun _ => False) (w1.alloc (.cells Z5 5)) w' ∧ (∀ g, v'.ownBlock = some g → (w1.alloc (.cells Z5 5)).heap.size ≤ g) := by
        rw [← HZ5.out]
        exact Open_at 60 [] (Sl.zeros w1 5 (by omega)) (by decide) z5e z5d
      refine hO5.mono ?_
      rintro e w2 ⟨v2, rfl, ho2, hm2, _⟩
      replace hm := (hm.alloc _).and hm2
      obtain ⟨a2, c2, rfl⟩ := ho2.shape
      clear ho2 hm2 hO5 HZ5 k5
      go_wp2
      have hoL : Own (w2.alloc (.cells Z512 5)) (.slice (some ⟨w2.heap.size, 0, none⟩) 512 512) (List.replicate 512 0) := by
        rw [← HZ512.out]
        exact Own.zeros w2 512 (by omega)
      have hg : w.heap.size ≤ w2.heap.size := hm.size
      replace hm := hm.alloc (.cells Z512 5)
      generalize w2.alloc (.cells Z512 5) = W3 at hm hoL
      generalize w2.heap.size = g at hg hoL
      clear HZ512 k512
      go_loopw [9] (fun i wq => ∃ (j : Nat) (L : List Int), i = .int .i64 (j : Int) ∧ j ≤ 512 ∧ Hid (L.length = 512) ∧ Hid (∀ c ∈ L, 0 ≤ c ∧ c ≤ 255) ∧ Own wq (.slice (some ⟨g, 0, none⟩) 512 512) L ∧ Mod (fun _ => False) w wq) (fun i _ => 512 - (intOf i).toNat)
      case atStart => exact ⟨0, _, rfl, by omega, List.length_replicate, zeros_rng 512, hoL, hm⟩
      case round =>
        obtain ⟨j, L, rfl, hj, hL, hR, hoL, hm⟩ := hrel
        by_cases hjm : j < 512
        · obtain ⟨q1, q2⟩ := hoL.cell hL.out j hjm
          generalize L.getD j 0 = cj at q1
          have hjm2 : (j : Int) < 512 := by omega
          have hwr : IntKind.u8.wrap (j : Int) = ((j % 256 : Nat) : Int) := by rw [IntKind.wrap_u8']; omega
          have hwr2 : (j : Int) % 256 = ((j % 256 : Nat) : Int) := by omega
          obtain ⟨d, hd⟩ : ∃ d, d = j % 256 := ⟨_, rfl⟩
          rw [← hd] at hwr hwr2
          have hd8 : d < 256 := by omega
          have HR2 : Hid (∀ c ∈ L.set j (d : Int), 0 ≤ c ∧ c ≤ 255) := fun c hc => by
            rcases List.mem_or_eq_of_mem_set hc with h | rfl
            · exact hR.out c h
            · omega
          clear hd
          go_wp2
          go_roundw
          case rel => exact ⟨j + 1, L.set j (d : Int), by go_num, by omega, by show _ = _; rw [List.length_set]; exact hL.out, HR2, hoL.put hL.out, hm.setCell _ _ (.inr hg)⟩
          case measure => simp [intOf]; omega
        · have hsl := hoL.sl hR.out
          go_wp2
          refine region14 (L := L) (a1 := a1) (c1 := c1) (lv := .slice (some ⟨g, 0, none⟩) 512 512) ⟨⟨_, rfl, rfl, rfl, rfl, by decide +kernel⟩⟩ ⟨⟨_, rfl, rfl, rfl, rfl, by decide +kernel⟩⟩ ⟨⟨_, rfl, rfl, rfl, rfl, by decide +kernel⟩⟩ ⟨⟨_, rfl, rfl, rfl, rfl, by decide +kernel⟩⟩ ⟨⟨_, rfl, rfl, rfl, rfl, by decide +kernel⟩⟩ ⟨⟨_, rfl, rfl, rfl, rfl, by decide +kernel⟩⟩ ⟨⟨_, rfl, rfl, rfl, rfl, by decide +kernel⟩⟩ ⟨⟨_, rfl, rfl, rfl, rfl, by decide +kernel⟩⟩ ⟨⟨_, rfl, rfl, rfl, rfl, by decide +kernel⟩⟩ ⟨⟨_, rfl, rfl, rfl, rfl, by decide +kernel⟩⟩ ⟨⟨_, rfl, rfl, rfl, rfl, by decide +kernel⟩⟩ ⟨⟨_, rfl, rfl, rfl, rfl, by decide +kernel⟩⟩ ⟨⟨_, rfl, rfl, rfl, rfl, by decide +kernel⟩⟩ ⟨⟨_, rfl, rfl, rfl, rfl, by decide +kernel⟩⟩ ⟨⟨_, rfl, rfl, rfl, rfl, by decide +kernel⟩⟩ ⟨⟨_, rfl, rfl, rfl, rfl, by decide +kernel⟩⟩ ⟨⟨_, rfl, rfl, rfl, rfl, by decide +kernel⟩⟩ ⟨⟨_, rfl, rfl, rfl, rfl, by decide +kernel⟩⟩ ⟨⟨_, rfl, rfl, rfl, rfl, by decide +kernel⟩⟩ ⟨⟨_, rfl, rfl, rfl, rfl, by decide +kernel⟩⟩ ⟨⟨_, rfl, rfl, rfl, rfl, by decide +kernel⟩⟩ ⟨⟨_, rfl, rfl, rfl, rfl, by decide +kernel⟩⟩ ⟨⟨_, rfl, rfl, rfl, rfl, by decide +kernel⟩⟩ ⟨⟨_, rfl, rfl, rfl, rfl, by decide +kernel⟩⟩ ⟨⟨_, rfl, rfl, rfl, rfl, by decide +kernel⟩⟩ ⟨⟨_, rfl, rfl, rfl, rfl, by decide +kernel⟩⟩ ⟨⟨_, rfl, rfl, rfl, rfl, by decide +kernel⟩⟩ ⟨⟨_, rfl, rfl, rfl, rfl, by decide +kernel⟩⟩ ⟨⟨_, rfl, rfl, rfl, rfl, by decide +kernel⟩⟩ ⟨⟨_, rfl, rfl, rfl, rfl, by decide +kernel⟩⟩ ⟨⟨_, rfl, rfl, rfl, rfl, by decide +kernel⟩⟩ ⟨⟨_, rfl, rfl, rfl, rfl, by decide +kernel⟩⟩ ⟨⟨_, rfl, rfl, rfl, rfl, by decide +kernel⟩⟩ ⟨⟨_, rfl, rfl, rfl, rfl, by decide +kernel⟩⟩ ⟨⟨_, rfl, rfl, rfl, rfl, by decide +kernel⟩⟩ ⟨⟨_, rfl, rfl, rfl, rfl, by decide +kernel⟩⟩ ⟨⟨_, rfl, rfl, rfl, rfl, by decide +kernel⟩⟩ ⟨⟨_, rfl, rfl, rfl, rfl, by decide +kernel⟩⟩ ⟨⟨_, rfl, rfl, rfl, rfl, by decide +kernel⟩⟩ ⟨⟨_, rfl, rfl, rfl, rfl, by decide +kernel⟩⟩ ⟨⟨_, rfl, rfl, rfl, rfl, by decide +kernel⟩⟩ ⟨⟨_, rfl, rfl, rfl, rfl, by decide +kernel⟩⟩ ⟨⟨_, rfl, rfl, rfl, rfl, by decide +kernel⟩⟩ ⟨⟨_, rfl, rfl, rfl, rfl, by decide +kernel⟩⟩ ⟨⟨_, rfl, rfl, rfl, rfl, by decide +kernel⟩⟩ ⟨⟨_, rfl, rfl, rfl, rfl, by decide +kernel⟩⟩ ⟨⟨_, rfl, rfl, rfl, rfl, by decide +kernel⟩⟩ ⟨⟨_, rfl, rfl, rfl, rfl, by decide +kernel⟩⟩ ⟨⟨_, rfl, rfl, rfl, rfl, by decide +kernel⟩⟩ ⟨⟨_, rfl, rfl, rfl, rfl, by decide +kernel⟩⟩ rfl (by decide +kernel) (by decide +kernel) (by decide +kernel) (by decide +kernel) (by decide +kernel) (by decide +kernel) (by decide +kernel) mixed rfl rfl rfl rfl rfl hsl hL.out ?_
          intro a w' hdf hmm h0
          go_wp2
          refine bodyPost_ret (results_tmp rfl _ _ _) hdf ⟨?_, hm.and hmm⟩
          exact congrArg Ending.returned h0

namespace sumKnown
open Go.ChangeShapes Go.WideShapes Go.ChangeAt Go.RowKit
set_option maxRecDepth 100000 in
theorem lifted (os : Os) (started : os.Started) (H : Type) (enc : TypeId × Value → H) :
    ReturnsInHanded {} Try.checked os 7 .any (Rows.sumKnownSpec.pre6 enc Try.prog Try.f7 Rows.sumKnownRow.domain false) (Rows.sumKnownSpec.post enc Try.prog Try.f7 false true false false) := by
  refine returnsInHanded_of_change (C := Try.checked) own started (by kernel_rfl) Try.func7
    (ChangeSpec.witness6 (enc := enc) (C := Try.checked) false ⟨#[], #[], []⟩ 8 (by kernel_rfl) (by kernel_rfl) (by kernel_rfl) (by kernel_rfl)) ?_
  intro W base args ds gs before hval0 hW hcnd _
  have hW' := hW
  obtain ⟨p, q, hA0, hV, rfl, hfz, hnd⟩ := hW
  have hA : DataW.TrodAll enc Try.prog W 0 (fun _ => true) true Try.f7.params.toList args.toList ds p := hA0
  rw [Try.params7] at hA
  obtain ⟨hargs, rfl, rfl⟩ := trodAll_nil hA
  obtain rfl : args = #[] := by cases args; simp_all
  obtain ⟨rfl, rfl⟩ := trodVars_none hV
  clear hA0 hval0
  refine (known_walk W).mono fun e W' ⟨he, hm⟩ => ?_
  subst he
  have bel : Below W.heap.size W W' := hm.below _ (Nat.le_refl _) (fun _ h => h.elim)
  exact ⟨_, rfl, _, _, _, [], _, [], hW', trodAll_mk1 (shut_bool Try.underlying4 _), trodAll_mk0, rfl, bel.frame _, fun h => by cases h⟩

theorem over : Rows.sumKnownRow.holds Try.pinned (OpenSpec.ofChange Rows.sumKnownSpec) :=
  OpenClaim.holds_of_wide 7 Try.f7 rfl rfl rfl rfl rfl rfl rfl ⟨rfl, rfl, rfl, rfl, rfl⟩ rfl rfl rfl rfl rfl (by kernel_rfl) Try.func7 (by kernel_rfl)
    (of_decide_eq_true (by kernel_rfl)) (by unfold Func.isWrapper; first | (rw [if_pos (by decide +kernel)]; kernel_rfl) | (rw [if_neg (by decide +kernel)]; exact ⟨rfl, rfl⟩))
    (fun os started H enc _ => lifted os started H enc)
end sumKnown
theorem sumKnown_holds : Rows.SumKnownSaid := sumKnown.over
end Go.Proofs.Ytmfpllogpjlkpaa
