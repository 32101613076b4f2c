/- append of any bytes behind bytes of one's own, as one step. Conditions: sizes that a slice of bytes has. -/
import Derived.Test.YtifogbhlphofjaaXb
import Derived.Maps.AppendAt
namespace Go.Proofs.Ytifogbhlphofjaa
open Go.RowKit Go.Maps
theorem ap1 (w : World) (ty : TypeId) : (Builtin.append_ #[26, 26] ty #[.slice none 0 0, .slice none 0 0]).run Try.prog w = .ok (.slice none 0 0) w := by kernel_rfl
theorem ap2 (w : World) (ty : TypeId) (g n c : Nat) (h : n ≤ c) : (Builtin.append_ #[26, 26] ty #[.slice (some ⟨g, 0, none⟩) n c, .slice none 0 0]).run Try.prog w = .ok (.slice (some ⟨g, 0, none⟩) n c) w := by
  simp [go_sem, Builtin.append_, h]
theorem wpList_app {ops : Array Oper} {rest : List Oper} {o : Oper} {a : Act} {w : World} {Q : Exit → Act → World → Prop} (hgd : o.guard = none) (s x : Operand) (ho : o.op = .call { callee := .builtin .append, args := #[s, x], argTypes := #[26, 26] })
    (v u : Value) (q m : List Int) (hs : a.eval s = v) (hx : a.eval x = u) (hown : Own w v q) (hu : Sl w u m) (hb : q.length + m.length ≤ 140737488355328) (r : List Int) (hr : Hid (r = q ++ m))
    (h : ∀ ao cp w', Own w' (.slice ao r.length cp) r → Mod (fun k => v.ownBlock = some k) w w' → Fr w v (.slice ao r.length cp) → wpList Try.prog ops Q rest (a.put o.dst (.slice ao r.length cp)) w') : wpList Try.prog ops Q (o :: rest) a w := by
  have hr' := hr.out
  subst hr'
  obtain ⟨ao, cap, rfl, h1, h2, h3, h4⟩ := hu.form
  cases ao with
  | none =>
    obtain rfl := h3 rfl
    obtain rfl : m = [] := List.eq_nil_of_length_eq_zero (by omega)
    simp only [List.append_nil] at h
    have hrun : ∀ ty, (Builtin.append_ #[26, 26] ty #[v, .slice none 0 0]).run Try.prog w = .ok v w := fun ty => by
      rcases hown.2 with ⟨rfl, _⟩ | ⟨g, cp, cur, rfl, _, _, hn, _⟩
      · exact ap1 w ty
      · exact ap2 w ty g _ cp hn
    obtain ⟨ao, cp, e⟩ := hown.shape
    have := h ao cp w (e ▸ hown) (Mod.refl _ _) (e ▸ Fr.refl w v)
    rw [← e] at this
    refine wpList_plain hgd fun K hK => ?_
    unfold Oper.wp execOp
    simp only [List.length_nil] at hx
    simp only [ho, resolve, invoke, builtin, Sem.run_bind, Sem.run_pure, Result.andThen_ok, List.map_toArray, List.map_cons, List.map_nil, hs, hx, hrun]
    exact hK _ _ this
  | some ad =>
    obtain ⟨i0, hi, hz0, hz1, hz2⟩ := info_parts info5
    have hcells : ∀ j u, (U m)[j]? = some u → w.cell? (ad.add j) = some u := fun j u hju => by
      by_cases hl : m = []
      · subst hl; simp [U] at hju
      · obtain ⟨b, off, e, hc⟩ := h4 hl
        cases e
        exact cells_of hc j u hju
    refine wpList_append_own_at (P := Try.prog) (w := w) hgd s x 26 ho 0 5 i0 (.int .u8 0) 1 1 Try.underlying26 hi hz0 hz1 hz2 rfl (by decide) v q.length (U q) hs hown ad m.length cap (U m) hx (by simp [U]) hcells (U_one m) (by simp only [maxLen]; omega) (by omega) (Nat.zero_le _) ?_
    intro v2 w2 hown2 hgrow hnil hat
    have ho2 : Own w2 v2 (q ++ m) := by
      unfold Own
      rw [U_app, List.length_append]
      exact hown2
    obtain ⟨ao2, cp2, e2⟩ := ho2.shape
    subst e2
    refine h ao2 cp2 w2 ho2 ((Mod.refl _ w).grown hgrow (fun k hk _ => hk)) (fun g hg => ?_)
    rcases hat with h | h
    · exact .inl (h ▸ hg)
    · right; rw [h] at hg; simp at hg; omega
end Go.Proofs.Ytifogbhlphofjaa
