/- Contracts of CopyBytes and of parcel's Charts. Conditions: sizes that a slice of bytes has. -/
import Derived.Test.YthiijonmnebjgaaGreatCw
namespace Go.Proofs.YthiijonmnebjgaaGreat
open Go.RowKit
theorem copy_any (v : Value) (l : List Int) (w : World) (hs : Sl w v l) (hb : l.length ≤ 140737488355328) :
    Calls Tryz.prog 43 #[v] w fun e w' => ∃ v', e = .returned v' ∧ Own w' v' l ∧ Mod (fun _ => False) w w' ∧ (∀ g, v'.ownBlock = some g → w.heap.size ≤ g) := by
  obtain ⟨i0, hi, hz0, hz1, hz2⟩ := info_parts info5
  obtain ⟨ao, cap, rfl, h1, h2, h3, h4⟩ := hs.form
  cases ao with
  | none =>
    obtain rfl := h3 rfl
    obtain rfl : l = [] := List.eq_nil_of_length_eq_zero (by omega)
    go_enter Tryz.func43, Tryz.ntmps43
    go_wp2
    go_ret
    exact ⟨_, rfl, Own.nil _, Mod.refl _ _, by intro g hg; simp [Value.ownBlock] at hg⟩
  | some a =>
    have hcells : ∀ j u, (U l)[j]? = some u → w.cell? (a.add j) = some u := fun j u hu => by
      by_cases hl : l = []
      · subst hl; simp [U] at hu
      · obtain ⟨b, off, e, hc⟩ := h4 hl
        cases e
        exact cells_of hc j u hu
    clear h4
    go_enter Tryz.func43, Tryz.ntmps43
    go_wp2_with (at_builtin; refine wpList_append_own_at _ rfl _ _ 41 rfl 0 5 i0 (.int .u8 0) 1 1 Tryz.underlying41 hi hz0 hz1 hz2 rfl (by decide) (.slice none 0 0) 0 [] rfl (World.ownsRow_nil _ _ _ _) a l.length cap (U l) rfl (by simp [U]) hcells (U_one l) (by simp only [maxLen]; omega) (by omega) (Nat.zero_le _) ?_; intro v2 w2 hown2 hgrow hnil hat; simp only [Nat.zero_add, List.nil_append] at hown2)
    go_ret
    refine ⟨v2, rfl, hown2, (Mod.refl _ w).grown hgrow (by intro k hk; simp [Value.ownBlock] at hk), ?_⟩
    intro g hg
    rcases hat with h | h
    · rw [h] at hg; simp [Value.ownBlock] at hg
    · rw [h] at hg; simp at hg; omega

theorem take_snoc' {l : List Pl} {k : Nat} {p : Pl} (h : l[k]? = some p) : l.take (k + 1) = l.take k ++ [p] := by
  have hk : k < l.length := (List.getElem?_eq_some_iff.1 h).1
  rw [List.take_succ_eq_append_getElem hk]
  congr 1
  rw [List.getElem?_eq_getElem hk] at h
  rw [Option.some.inj h]
theorem pls_snoc : ∀ (l : List Pl) (p : Pl), pls (l ++ [p]) = pls l ++ packs p.n4
  | [], p => by simp [pls]
  | q :: l, p => by simp [pls, pls_snoc l p]
theorem pls_len' : ∀ l : List Pl, (pls l).length ≤ 32 * l.length
  | [] => by simp [pls]
  | p :: l => by
    have h1 := packs_len p.n4
    have h2 := pls_len' l
    have h3 : p.n4.length = 4 := rfl
    simp only [pls, List.length_append, List.length_cons]
    omega
end Go.Proofs.YthiijonmnebjgaaGreat
