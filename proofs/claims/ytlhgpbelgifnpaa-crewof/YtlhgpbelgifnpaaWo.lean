/- works: some crews; it answers true. No conditions. -/
import Derived.Test.YtlhgpbelgifnpaaLi
namespace Go.Proofs.Ytlhgpbelgifnpaa
open Go.RowKit
theorem Has_at {c n : Int} {w : World} (r : Bool) (h : has c n = r) : Calls Try.prog 14 #[.int .i64 c, .int .i64 n] w fun e w' => e = .returned (.bool r) ∧ w' = w := by
  have := Has c n w
  rwa [h] at this
theorem Next_at {c n : Int} {w : World} (r : Int) (h : (nx (lo c) n : Int) = r) : Calls Try.prog 20 #[.int .i64 c, .int .i64 n] w fun e w' => e = .returned (.int .i64 r) ∧ w' = w := by
  have := Next c n w
  rwa [h] at this
theorem Least_at {c : Int} {w : World} (r : Int) (h : (ab (lo c) 0 : Int) = r) : Calls Try.prog 18 #[.int .i64 c] w fun e w' => e = .returned (.int .i64 r) ∧ w' = w := by
  have := Least c w
  rwa [h] at this
theorem Count_at {c : Int} {w : World} (r : Int) (h : (cn (lo c) : Int) = r) : Calls Try.prog 16 #[.int .i64 c] w fun e w' => e = .returned (.int .i64 r) ∧ w' = w := by
  have := Count c w
  rwa [h] at this
theorem List_at {c : Int} {w : World} (l : List Int) (h : ls (lo c) = l) : Calls Try.prog 12 #[.int .i64 c] w fun e w' => ∃ v, e = .returned v ∧ Own w' v l ∧ Mod (fun _ => False) w w' ∧ New w v := by
  have := List12 c w
  rwa [h] at this
theorem Of_at {v : Value} {w : World} (l : List Int) (x e : Int) (hs : Sl w v l) (h : (ofx l : Int) = x) (h2 : ofe l = e) : Calls Try.prog 24 #[v] w fun r w' => r = .returned (.tuple #[.int .i64 x, .int .i64 e]) ∧ w' = w := by
  have := Of24 v l w hs
  rwa [h, h2] at this
theorem Own.lit2 (w : World) (x y : Int) : Own (w.alloc (.cells #[.int .i64 x, .int .i64 y] 3)) (.slice (some ⟨w.heap.size, 0, none⟩) 2 2) [x, y] := Own.lit w [x, y] (by simp [maxLen])
theorem Own.lit3 (w : World) (x y z : Int) : Own (w.alloc (.cells #[.int .i64 x, .int .i64 y, .int .i64 z] 3)) (.slice (some ⟨w.heap.size, 0, none⟩) 3 3) [x, y, z] := Own.lit w [x, y, z] (by simp [maxLen])
set_option maxHeartbeats 1000000 in
theorem works (w : World) : Calls Try.prog 22 #[] w fun e w' => e = .returned (.bool true) ∧ Mod (fun _ => False) w w' := by
  have HO : Hid (∀ w : World, Calls Try.prog 24 #[.slice (some ⟨w.heap.size, 0, none⟩) 3 3] (w.alloc (.cells #[.int .i64 3, .int .i64 1, .int .i64 3] 3)) fun r w' => r = .returned (.tuple #[.int .i64 10, .int .i64 0]) ∧ w' = w.alloc (.cells #[.int .i64 3, .int .i64 1, .int .i64 3] 3)) := fun w => Of_at _ 10 0 (Own.lit3 w 3 1 3).sl (by decide +kernel) (by decide +kernel)
  have HL := fun w => @List_at 10 w [1, 3] (by decide +kernel)
  have HN1 := fun w => @Next_at 10 1 w 3 (by decide +kernel)
  have HN2 := fun w => @Next_at 10 3 w 1 (by decide +kernel)
  have HC := fun w => @Count_at 10 w 2 (by decide +kernel)
  have HE := fun w => @Least_at 10 w 1 (by decide +kernel)
  have HH1 := fun w => @Has_at 10 3 w true (by decide +kernel)
  have HH2 := fun w => @Has_at 10 2 w false (by decide +kernel)
  have HQ := fun v v' w hv hv' => @EqInts_at v v' w [1, 3] [1, 3] true hv hv' (by decide)
  have hm0 := Mod.refl (fun _ => False) w
  go_enter Try.func22, Try.ntmps22
  go_wp2_with (fail)
  refine (HO.out _).mono ?_
  rintro e w1 ⟨rfl, rfl⟩
  clear HO
  go_wp2_with (fail)
  refine (HL _).mono ?_
  rintro e w2 ⟨v, rfl, ho, hm, hn⟩
  clear HL
  go_wp2_with (fail)
  refine (HQ _ _ _ (ho.alloc _).sl (Own.lit2 w2 1 3).sl).mono ?_
  rintro e w3 ⟨rfl, hm3⟩
  clear HQ ho hn
  go_wp2_with (fail)
  refine (HN1 _).mono ?_
  rintro e w4 ⟨rfl, rfl⟩
  clear HN1
  go_wp2_with (fail)
  refine (HN2 _).mono ?_
  rintro e w4 ⟨rfl, rfl⟩
  clear HN2
  go_wp2_with (fail)
  refine (HC _).mono ?_
  rintro e w4 ⟨rfl, rfl⟩
  clear HC
  go_wp2_with (fail)
  refine (HE _).mono ?_
  rintro e w4 ⟨rfl, rfl⟩
  clear HE
  go_wp2_with (fail)
  refine (HH1 _).mono ?_
  rintro e w4 ⟨rfl, rfl⟩
  clear HH1
  go_wp2_with (fail)
  refine (HH2 _).mono ?_
  rintro e w4 ⟨rfl, rfl⟩
  clear HH2
  go_wp2
  go_ret
  refine ⟨rfl, ?_⟩
  exact (((hm0.alloc _).trans hm (fun _ _ h => h) (fun _ _ h => h)).alloc _).trans hm3 (fun _ _ h => h) (fun _ _ h => h)
end Go.Proofs.Ytlhgpbelgifnpaa
