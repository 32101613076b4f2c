/- The law's own helper 'works' answers true from any start and turns nothing that was there. No conditions. -/
import Derived.Test.YtmfpllogpjlkpaaSe
import Derived.Lib.SlBytesConst
namespace Go.Proofs.Ytmfpllogpjlkpaa
open Go.RowKit
theorem Open_at {v : Value} {l : List Int} {w : World} (E : Int) (D : List Int) (hs : Sl w v l) (hb : l.length ≤ 140737488355328) (hE : openE l = E) (hD : openD l = D) :
    Calls Try.prog 14 #[v] w fun e w' => ∃ v', e = .returned (.tuple #[v', .int .i64 E]) ∧ Own w' v' D ∧ Mod (fun _ => False) w w' ∧ (∀ g, v'.ownBlock = some g → w.heap.size ≤ g) := by
  have c := Open_any v l w hs hb
  rwa [hE, hD] at c
theorem Of_at {v : Value} {l : List Int} {w : World} (x : Nat) (hs : Sl w v l) (hx : chk l = x) :
    Calls Try.prog 10 #[v] w fun e w' => e = .returned (.int .u32 (x : Int)) ∧ Mod (fun _ => False) w w' := by
  have c := Of_any v l w hs
  rwa [hx] at c
theorem Mod.and {a b c : World} (h : Mod (fun _ => False) a b) (k : Mod (fun _ => False) b c) : Mod (fun _ => False) a c := h.trans k (fun _ _ h => h) (fun _ _ h => h)
theorem Sl.lit2 (w : World) (l : List Int) (f : Nat × Nat) (hm : l.length ≤ maxLen) (hr : ∀ c ∈ l, 0 ≤ c ∧ c ≤ 255) : Sl (w.alloc (.cells (U l).toArray 5 f)) (.slice (some ⟨w.heap.size, 0, none⟩) l.length l.length) l := by
  refine ⟨⟨_, _, rfl, Nat.le_refl _, hm, (by intro h; cases h), fun _ => ⟨w.heap.size, 0, rfl, fun j hj => ?_⟩⟩, hr⟩
  rw [Nat.zero_add, cell_of_row _ _ j _ _ _ (heap_alloc_last w _)]
  simpa using U_get l j hj
theorem e1 : openE [97, 232, 183, 190, 67] = 0 := by decide +kernel
theorem d1 : openD [97, 232, 183, 190, 67] = [97] := by decide +kernel
theorem e2 : openE [97, 232, 183, 190, 66] = 60 := by decide +kernel
theorem d2 : openD [97, 232, 183, 190, 66] = [] := by decide +kernel
theorem c9 : chk [49, 50, 51, 52, 53, 54, 55, 56, 57] = 3421780262 := by decide +kernel
set_option maxRecDepth 100000 in
set_option maxHeartbeats 1000000 in
theorem works_any (w : World) : Calls Try.prog 16 #[] w fun e w' => e = .returned (.bool true) ∧ Mod (fun _ => False) w w' := by
  have hm := (Mod.refl (fun _ => False) w).alloc (.cells (U [97, 232, 183, 190, 67]).toArray 5)
  have kc := fun (w : World) (C : Array Value) (n c : Nat) => Go.Lib.run_convert_bytes_const (P := Try.prog) w 22 5 C n c Try.underlying22 Try.underlying5
  go_enter Try.func16, Try.ntmps16
  go_wp2_with fail
  refine (Open_at 0 [97] (Sl.lit w [97, 232, 183, 190, 67] (by simp [maxLen]) (by decide)) (by decide) e1 d1).mono ?_
  rintro e w1 ⟨v1, rfl, ho1, hm1, hv1⟩
  replace hm := hm.and hm1
  clear hm1 hv1
  go_wp2_with fail
  have ha := (Mod.refl (fun _ => False) w1).alloc (.cells (U [97, 232, 183, 190, 66]).toArray 5)
  refine (Open_at 60 [] (Sl.lit w1 [97, 232, 183, 190, 66] (by simp [maxLen]) (by decide)) (by decide) e2 d2).mono ?_
  rintro e w2 ⟨v2, rfl, ho2, hm2, hv2⟩
  replace hm := (hm.and ha).and hm2
  replace ho1 : Own w2 v1 [97] := (ho1.mod ha (fun _ _ h => h)).mod hm2 (fun _ _ h => h)
  clear hm2 hv2 ho2 ha
  go_wp2_with fail
  have ha := (Mod.refl (fun _ => False) w2).alloc (.cells (U [49, 50, 51, 52, 53, 54, 55, 56, 57]).toArray 5 (9, 10))
  refine (Of_at 3421780262 (Sl.lit2 w2 [49, 50, 51, 52, 53, 54, 55, 56, 57] (9, 10) (by simp [maxLen]) (by decide)) c9).mono ?_
  rintro e w3 ⟨rfl, hm3⟩
  replace hm := (hm.and ha).and hm3
  replace ho1 : Own w3 v1 [97] := (ho1.mod ha (fun _ _ h => h)).mod hm3 (fun _ _ h => h)
  clear hm3 ha
  go_wp2_with fail
  have ha := (Mod.refl (fun _ => False) w3).alloc (.cells (U [97]).toArray 5 (1, 2))
  refine (EqBytes_at (a := [97]) (b := [97]) true ((ho1.sl (by decide)).mod ha (fun _ _ h => h)) (Sl.lit2 w3 [97] (1, 2) (by simp [maxLen]) (by decide)) (by decide)).mono ?_
  rintro e w4 ⟨rfl, hm4⟩
  replace hm := (hm.and ha).and hm4
  clear hm4 ha
  go_wp2
  go_ret
  exact ⟨rfl, hm⟩
end Go.Proofs.Ytmfpllogpjlkpaa
