/- Contracts of the writer's Fixed and Octets, for every number and every slice of bytes that does not lie in the writer itself. Conditions: what is written stays below 2^47 bytes. -/
import Derived.Test.YtampdkbcijdpcaaWd
import Derived.Deep.RegionLaw
namespace Go.Proofs.Ytampdkbcijdpcaa
open Go.RowKit
theorem enc_ne (x : Nat) : 0 < (enc x).length := encF_pos 8 x (by omega)
theorem row_shape {w : World} {v : Value} {n : Nat} {xs : List Value} (h : w.ownsRow 0 5 1 v n xs) : ∃ ao cap, v = .slice ao n cap := by
  rcases h.2 with ⟨rfl, h0⟩ | ⟨g, cap, cur, rfl, _⟩
  · exact ⟨none, 0, by rw [h0]⟩
  · exact ⟨_, cap, rfl⟩
/-- Bytes appended to what a writer has, and stored. -/
theorem Wr.more {w wr w1 : World} {p : Nat} {v v' v1 : Value} {l m : List Int} (hw : Wr wr p v' l) (hm : Mod (fun k => k = p ∨ v.ownBlock = some k) w wr) (hfr : Fr w v v')
    (hc : ∀ c ∈ m, 0 ≤ c ∧ c ≤ 255) (hown : w1.ownsRow 0 5 1 v1 (l.length + m.length) (U l ++ U m))
    (hgrow : wr.grownBy w1 v'.ownBlock) (hg : v1.ownBlock = v'.ownBlock ∨ v1.ownBlock = some wr.heap.size) :
    Wr (w1.setCell ⟨p, 1, none⟩ v1) p v1 (l ++ m) ∧ Mod (fun k => k = p ∨ v.ownBlock = some k) w (w1.setCell ⟨p, 1, none⟩ v1) ∧ Fr w v v1 := by
  have hf : Fr wr v' v1 := by
    intro g' hg'
    rcases hg with h | h
    · exact .inl (h ▸ hg')
    · right; rw [h] at hg'; simp at hg'; omega
  have hm1 : Mod (fun k => v'.ownBlock = some k) wr w1 := (Mod.refl _ wr).grown hgrow (fun k hk _ => hk)
  have ho : Own w1 v1 (l ++ m) := by
    unfold Own
    rw [U_app, List.length_append]
    exact hown
  have R := hw.stored hm1 ho hc hf
  refine ⟨R.1, hm.trans R.2 (fun _ _ h => h) ?_, hfr.trans hf hm.size⟩
  rintro i hi (h | h)
  · exact .inl h
  · rcases hfr i h with h' | h'
    · exact .inr h'
    · omega
end Go.Proofs.Ytampdkbcijdpcaa
