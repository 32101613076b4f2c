/- Contracts of Put, Bytes, New and of the law's own put, for every number and every slice that reads as bytes. Conditions: what is written stays below 2^47 bytes. -/
import Derived.Test.YtifogbhlphofjaaWa
namespace Go.Proofs.Ytifogbhlphofjaa
open Go.RowKit

/-- New: a reader of b. -/
theorem New_any (v : Value) (l : List Int) (w : World) (hs : Sl w v l) (hb : l.length ≤ 140737488355328) :
    Calls Try.prog 76 #[v] w fun e w' => ∃ p v', e = .returned (.pointer (some ⟨p, 0, none⟩)) ∧ Rd w' p v' l ∧ Mod (fun _ => False) w w' ∧ w.heap.size ≤ p ∧ p < w'.heap.size ∧ (∀ g, v'.ownBlock = some g → w.heap.size ≤ g ∧ g < w'.heap.size) := by
  go_enter Try.func76, Try.ntmps76
  go_wp2_with fail
  refine (clone_any v l _ hs hb).mono ?_
  rintro e w1 ⟨v', rfl, ho, hm, hg⟩
  obtain ⟨ao, cap, rfl⟩ := ho.shape
  go_wp2
  go_ret
  have hm2 := (Mod.refl (fun _ => False) w1).alloc (.cells #[.bool true, .slice ao l.length cap] 122)
  refine ⟨w1.heap.size, _, rfl, ⟨heap_alloc_new w1 _, ((ho.mod hm2 (fun _ _ h => h)).sl hs.rng), ?_⟩, hm.alloc _, hm.size, by simp, fun g h => ⟨hg g h, by have := ho.lt g h; simp; omega⟩⟩
  intro h
  have := ho.lt _ h
  omega
end Go.Proofs.Ytifogbhlphofjaa
