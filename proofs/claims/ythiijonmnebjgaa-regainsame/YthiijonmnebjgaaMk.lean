/- Rows of messages of the call's own, with bodies of its own, in blocks of a kind. Conditions: sizes that a slice has. -/
import Derived.Test.YthiijonmnebjgaaMh
namespace Go.Proofs.Ythiijonmnebjgaa
open Go.RowKit
structure Sn (w : World) (A : Nat → Prop) (v : Value) (ds : List (Ms × Value)) : Prop where
  row : RG w 39 13 v ds.length (fm ds)
  new : ∀ g, v.ownBlock = some g → A g
  each : ∀ x ∈ ds, Own w x.2 x.1.body ∧ (∀ g, x.2.ownBlock = some g → A g) ∧ (∀ c ∈ x.1.body, 0 ≤ c ∧ c ≤ 255) ∧ x.1.body.length ≤ 140737488355328
theorem Sn.nil (w : World) (A : Nat → Prop) : Sn w A (.slice none 0 0) [] := ⟨RG.nil w _ _, by simp [Value.ownBlock], by simp⟩
theorem Sn.mod {S A : Nat → Prop} {w w' : World} {v : Value} {ds : List (Ms × Value)} (h : Sn w A v ds) (hm : Mod S w w') (hS : ∀ g, A g → ¬ S g) : Sn w' A v ds :=
  ⟨h.row.mod hm (fun g hg => hS g (h.new g hg)), h.new, fun x hx => ⟨(h.each x hx).1.mod hm (fun g hg => hS g ((h.each x hx).2.1 g hg)), (h.each x hx).2⟩⟩
theorem Sn.keep {A : Nat → Prop} {w w' : World} {v : Value} {ds : List (Ms × Value)} (h : Sn w A v ds) (hm : Mod (fun _ => False) w w') : Sn w' A v ds := h.mod hm (fun _ _ h => h)
theorem Sn.weak {A A' : Nat → Prop} {w : World} {v : Value} {ds : List (Ms × Value)} (h : Sn w A v ds) (hA : ∀ g, g < w.heap.size → A g → A' g) : Sn w A' v ds :=
  ⟨h.row, fun g hg => hA g (h.row.lt g hg) (h.new g hg), fun x hx => ⟨(h.each x hx).1, fun g hg => hA g ((h.each x hx).1.lt g hg) ((h.each x hx).2.1 g hg), (h.each x hx).2.2⟩⟩
theorem Sn.more {A : Nat → Prop} {w w' : World} {v v' u : Value} {ds : List (Ms × Value)} {d : Ms} (h : Sn w A v ds) (hm : Mod (fun k => v.ownBlock = some k) w w') (hr : RG w' 39 13 v' (ds.length + 1) (fm ds ++ mcl d u)) (hf : Fr w v v') (hA : ∀ g, w.heap.size ≤ g → A g) (ho : Own w u d.body) (hu : ∀ g, u.ownBlock = some g → A g) (hc : ∀ c ∈ d.body, 0 ≤ c ∧ c ≤ 255) (hl : d.body.length ≤ 140737488355328) : Sn w' A v' (ds ++ [(d, u)]) := by
  have own5 : ∀ x l, Own w x l → Own w' x l := fun x l hx => hx.mod hm (fun g hg => h.row.ne_ow hx hg)
  refine ⟨?_, fun g hg => ?_, fun x hx => ?_⟩
  · rw [List.length_append, fm_app, show fm [(d, u)] = mcl d u by simp [fm]]
    exact hr
  · rcases hf g hg with h1 | h1
    · exact h.new g h1
    · exact hA g h1
  · rcases List.mem_append.1 hx with hx | hx
    · obtain ⟨a1, a2⟩ := h.each x hx
      exact ⟨own5 _ _ a1, a2⟩
    · simp at hx
      subst hx
      exact ⟨own5 _ _ ho, hu, hc, hl⟩
theorem oldm_on {k : Int} (hk : 1 ≤ k ∧ k ≤ 100) : (∀ c ∈ (oldm (onR 2 1 k)).body, 0 ≤ c ∧ c ≤ 255) ∧ (oldm (onR 2 1 k)).body.length ≤ 140737488355328 := ⟨oldm_rng (onR_rng hk), oldm_len (olD_onR is21 hk)⟩
end Go.Proofs.Ythiijonmnebjgaa
