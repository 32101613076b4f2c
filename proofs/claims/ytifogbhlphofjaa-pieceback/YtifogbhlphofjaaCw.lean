/- Contract of parcel's Pack. Conditions: sizes that a slice of bytes has. -/
import Derived.Test.YtifogbhlphofjaaCv
namespace Go.Proofs.Ytifogbhlphofjaa
open Go.RowKit
theorem ints_new (w : World) (vs : List Int) : ∀ j, j < vs.length → (w.alloc (.cells (vs.map (Value.int .i64)).toArray 3)).cell? ⟨w.heap.size, 0 + j, none⟩ = some (.int .i64 (vs.getD j 0)) := by
  intro j hj
  have := heap_alloc_new w (.cells (vs.map (Value.int .i64)).toArray 3)
  rw [Nat.zero_add]
  unfold World.cell?
  dsimp only
  rw [this]
  simp [hj]
theorem Fr.fresh {w w1 : World} {v v' : Value} (h : Fr w1 v v') (hv : ∀ g, v.ownBlock = some g → w.heap.size ≤ g) (hs : w.heap.size ≤ w1.heap.size) : ∀ g, v'.ownBlock = some g → w.heap.size ≤ g := fun g hg => by
  rcases h g hg with h1 | h1
  · exact hv g h1
  · omega

end Go.Proofs.Ytifogbhlphofjaa
