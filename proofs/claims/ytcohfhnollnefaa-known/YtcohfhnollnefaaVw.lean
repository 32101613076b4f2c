/- What the law's asked and works answer. Conditions: numbers that are ints, 1000 at most. -/
import Derived.Test.YtcohfhnollnefaaVr
import Derived.Laws.Concat
namespace Go.Proofs.Ytcohfhnollnefaa
open Go.RowKit
/-- Numbers that are asked of, as noughts and ones. -/
def sg (t : Int) (F : Int → Bool) (n : Int) : UInt8 := if n < 1 then 63 else if fr t F n then 49 else 48
def ask : Int → (Int → Bool) → List Int → List UInt8
  | _, _, [] => []
  | t, F, n :: l => sg t F n :: ask (fT t n) (fS t F n) l
theorem ask_len : ∀ (l : List Int) (t : Int) (F : Int → Bool), (ask t F l).length = l.length
  | [], _, _ => rfl
  | n :: l, t, F => by simp [ask, ask_len l]
theorem drop_at {l : List Int} {k : Nat} (h : k < l.length) : l.drop k = l.getD k 0 :: l.drop (k + 1) := by
  rw [List.drop_eq_getElem_cons h]
  simp [h]
theorem Sl.at {w : World} {v : Value} {l : List Int} (h : Sl w v l) {S : Nat → Prop} {w' : World} (hm : Mod S w w') (hS : ∀ k, k < w.heap.size → ¬ S k) {k : Nat} (hk : k < l.length) :
    ∃ b off cap, v = .slice (some ⟨b, off, none⟩) l.length cap ∧ w'.cell? ⟨b, off + k, none⟩ = some (.int .i64 (l.getD k 0)) := by
  obtain ⟨ao, cap, rfl, _, _, _, h4⟩ := h
  obtain ⟨b, off, rfl, hc⟩ := h4 (by rintro rfl; simp at hk)
  exact ⟨b, off, cap, rfl, hm.cell (hc k hk) (hS _ (World.block_lt_of_cell? w _ (hc k hk)))⟩
theorem Sl.shape {w : World} {v : Value} {l : List Int} (h : Sl w v l) : ∃ ao cap, v = .slice ao l.length cap := by
  obtain ⟨ao, cap, rfl, _⟩ := h
  exact ⟨ao, cap, rfl⟩
theorem i64_at {l : List Int} (hr : ∀ n ∈ l, I64 n) {k : Nat} (hk : k < l.length) : I64 (l.getD k 0) := by
  apply hr
  rw [List.getD_eq_getElem?_getD, List.getElem?_eq_getElem hk]
  exact List.getElem_mem hk
set_option maxRecDepth 100000 in
theorem asked_any (v : Value) (l : List Int) (w : World) (hv : Sl w v l) (hr : ∀ n ∈ l, I64 n) (hl : l.length ≤ 1000) : Calls Try.prog 14 #[v] w fun e w' => e = .returned (.string ⟨(ask 0 (fun _ => false) l).toArray⟩) ∧ Mod (fun _ => False) w w' := by
  have HV : Hid (Sl w v l) := hv
  obtain ⟨ao, cap, rfl⟩ := hv.shape
  clear hv
  have hll : (l.length : Int) ≤ 1000 := by omega
  clear hl
  go_enter Try.func14, Try.ntmps14
  go_wp2_with (fail)
  refine (sNew_any w).mono ?_
  rintro e w1 ⟨p, rfl, hs, hm1, hp⟩
  have I : Hid (∃ t F, Sv w1 p t F ∧ Mod (fun _ => False) w w1 ∧ ([] : List UInt8) ++ ask t F (l.drop 0) = ask 0 (fun _ => false) l) := ⟨0, _, hs, hm1, by simp⟩
  clear hs hm1
  go_wp2_with (fail)
  go_loopw [4, 5] (fun s i wr => ∃ (k : Nat) (x : List UInt8), i = .int .i64 k ∧ s = .string ⟨x.toArray⟩ ∧ k ≤ l.length ∧ x.length = k ∧ Hid (∃ t F, Sv wr p t F ∧ Mod (fun _ => False) w wr ∧ x ++ ask t F (l.drop k) = ask 0 (fun _ => false) l)) (fun _ i _ => l.length - (intOf i).toNat)
  case atStart => exact ⟨0, [], rfl, rfl, by omega, rfl, I⟩
  case round =>
    clear I
    obtain ⟨k, x, rfl, rfl, hk, hx, I⟩ := hrel
    obtain ⟨t, F, hs, hm, he⟩ := I.out
    clear I
    by_cases hlt : k < l.length
    · have hkl : (k : Int) < (l.length : Int) := by omega
      obtain ⟨b, off, cap', e, ck⟩ := HV.out.at hm (fun _ _ h => h) hlt
      simp only [Value.slice.injEq, true_and] at e
      obtain ⟨rfl, rfl⟩ := e
      have hi := i64_at hr hlt
      rw [drop_at hlt] at he
      generalize l.getD k 0 = n at *
      have hF := sFresh_any (n := n) hs hi.2
      have hc : (fE n = 2 ∧ sg t F n = 63) ∨ (fE n = 0 ∧ fF t F n = true ∧ sg t F n = 49) ∨ (fE n = 0 ∧ fF t F n = false ∧ sg t F n = 48) := by
        unfold fE fF sg
        by_cases h1 : n < 1
        · exact .inl ⟨if_pos h1, if_pos h1⟩
        · right
          rw [if_neg h1, if_neg h1, if_neg h1]
          cases h2 : fr t F n
          · exact .inr ⟨rfl, rfl, rfl⟩
          · exact .inl ⟨rfl, rfl, rfl⟩
      rw [ask] at he
      have hp3 : p < w.heap.size → False := by omega
      clear hs hi
      generalize sg t F n = y at *
      generalize fT t n = t2 at *
      generalize fS t F n = F2 at *
      generalize fF t F n = z at *
      generalize fE n = E at *
      have he2 : Hid ((x ++ [y]) ++ ask t2 F2 (l.drop (k + 1)) = ask 0 (fun _ => false) l) := by
        show _ = _
        rw [← he]
        simp
      have hap : Hid (ByteArray.mk x.toArray ++ ByteArray.mk #[y] = ByteArray.mk (x ++ [y]).toArray) := ByteArray.mk_append_mk x [y]
      clear he
      rcases hc with ⟨rfl, rfl⟩ | ⟨rfl, rfl, rfl⟩ | ⟨rfl, rfl, rfl⟩
      all_goals
        go_wp2_with (go_at_call 10; refine hF.mono ?_; rintro e w2 ⟨rfl, hs2, hm2⟩)
        go_roundw
        case rel => exact ⟨k + 1, _, by go_num, congrArg Value.string hap.out, by omega, by simp [hx], ⟨t2, F2, hs2, hm.trans hm2 (fun _ _ h => h) (fun i hi h => hp3 (by rw [← h]; exact hi)), he2.out⟩⟩
        case measure => simp [intOf]; omega
    · obtain rfl : k = l.length := by omega
      have E : x = ask 0 (fun _ => false) l := by
        rw [← he]
        simp [ask]
      clear he hs
      go_wp2
      go_ret
      rw [← E]
      exact ⟨rfl, hm⟩
theorem asked_lit (w : World) (l : List Int) (hr : ∀ n ∈ l, I64 n) (hl : l.length ≤ 1000) : Calls Try.prog 14 #[.slice (some ⟨w.heap.size, 0, none⟩) l.length l.length] (w.alloc (.cells (U l).toArray 3)) fun e w' => e = .returned (.string ⟨(ask 0 (fun _ => false) l).toArray⟩) ∧ Mod (fun _ => False) w w' := by
  refine (asked_any _ l _ (Own.lit w l (by simp only [maxLen]; omega)).sl hr hl).mono ?_
  rintro e w' ⟨rfl, hm⟩
  exact ⟨rfl, ((Mod.refl (fun _ => False) w).alloc _).and hm⟩
theorem ask1 : ask 0 (fun _ => false) [1, 2, 2, 5, 4, 3, 4] = [49, 49, 48, 49, 49, 49, 48] := by decide
theorem ask2 : ask 0 (fun _ => false) [70, 6, 7, 7, 200, 136, 137] = [49, 48, 49, 48, 49, 48, 49] := by decide
theorem works (w : World) : Calls Try.prog 12 #[] w fun e w' => e = .returned (.bool true) ∧ Mod (fun _ => False) w w' := by
  have h1 := asked_lit w [1, 2, 2, 5, 4, 3, 4] (by simp [I64]) (by simp)
  have h2 := fun w => asked_lit w [70, 6, 7, 7, 200, 136, 137] (by simp [I64]) (by simp)
  rw [ask1] at h1
  simp only [ask2] at h2
  go_enter Try.func12, Try.ntmps12
  go_wp2_with (fail)
  refine h1.mono ?_
  rintro e w1 ⟨rfl, hm1⟩
  go_wp2_with (fail)
  refine (h2 w1).mono ?_
  rintro e w2 ⟨rfl, hm2⟩
  go_wp2
  go_ret
  exact ⟨rfl, hm1.and hm2⟩
end Go.Proofs.Ytcohfhnollnefaa
