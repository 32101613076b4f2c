/- What Old and Inner answer, in one form. No conditions. -/
import Derived.Test.YtajhpnfpjickbaaRol
namespace Go.Proofs.Ytajhpnfpjickbaa
open Go.RowKit
def zMs : Ms := ⟨0, 0, 0, 0, 0, 0, 0, false, 0, 0, 0, 0, []⟩
/-- Old's answer. -/
def olM (s q r n sn : Int) (m : Ms) : Ms := if olE s q r n sn m = 0 then ⟨5, sn, 0, sn, 0, 0, 0, false, s, q, r, n, pk m⟩ else zMs
theorem old_m {dq dr ds dn dt : Int} {k o lf i p ps g : Int} {s : Bool} {st rs rr sq : Int} {l : List Int} {w : World} {e : Ending} {w' : World} (h : ∃ k' o' lf' i' p' ps' g' s' st' rs' rr' sq' bv', e = .returned (.tuple #[.agg #[.int .i64 k', .int .i64 o', .int .i64 lf', .int .i64 i', .int .i64 p', .int .i64 ps', .int .i64 g', .bool s', .int .i64 st', .int .i64 rs', .int .i64 rr', .int .i64 sq', bv'], .int .i64 (olE dt dq dr ds dn ⟨k, o, lf, i, p, ps, g, s, st, rs, rr, sq, l⟩)]) ∧ Mod (fun _ => False) w w' ∧
      (olE dt dq dr ds dn ⟨k, o, lf, i, p, ps, g, s, st, rs, rr, sq, l⟩ = 0 → (k' = 5 ∧ o' = dn ∧ lf' = 0 ∧ i' = dn ∧ p' = 0 ∧ ps' = 0 ∧ g' = 0 ∧ s' = false ∧ st' = dt ∧ rs' = dq ∧ rr' = dr ∧ sq' = ds) ∧ Own w' bv' (pk ⟨k, o, lf, i, p, ps, g, s, st, rs, rr, sq, l⟩) ∧ (∀ g, bv'.ownBlock = some g → w.heap.size ≤ g)) ∧
      (olE dt dq dr ds dn ⟨k, o, lf, i, p, ps, g, s, st, rs, rr, sq, l⟩ ≠ 0 → (k' = 0 ∧ o' = 0 ∧ lf' = 0 ∧ i' = 0 ∧ p' = 0 ∧ ps' = 0 ∧ g' = 0 ∧ s' = false ∧ st' = 0 ∧ rs' = 0 ∧ rr' = 0 ∧ sq' = 0 ∧ bv' = .slice none 0 0))) :
    ∃ ao cap, e = .returned (.tuple #[.agg #[.int .i64 (olM dt dq dr ds dn ⟨k, o, lf, i, p, ps, g, s, st, rs, rr, sq, l⟩).kind, .int .i64 (olM dt dq dr ds dn ⟨k, o, lf, i, p, ps, g, s, st, rs, rr, sq, l⟩).origin, .int .i64 (olM dt dq dr ds dn ⟨k, o, lf, i, p, ps, g, s, st, rs, rr, sq, l⟩).life, .int .i64 (olM dt dq dr ds dn ⟨k, o, lf, i, p, ps, g, s, st, rs, rr, sq, l⟩).id, .int .i64 (olM dt dq dr ds dn ⟨k, o, lf, i, p, ps, g, s, st, rs, rr, sq, l⟩).part, .int .i64 (olM dt dq dr ds dn ⟨k, o, lf, i, p, ps, g, s, st, rs, rr, sq, l⟩).parts, .int .i64 (olM dt dq dr ds dn ⟨k, o, lf, i, p, ps, g, s, st, rs, rr, sq, l⟩).groups, .bool (olM dt dq dr ds dn ⟨k, o, lf, i, p, ps, g, s, st, rs, rr, sq, l⟩).safe, .int .i64 (olM dt dq dr ds dn ⟨k, o, lf, i, p, ps, g, s, st, rs, rr, sq, l⟩).st, .int .i64 (olM dt dq dr ds dn ⟨k, o, lf, i, p, ps, g, s, st, rs, rr, sq, l⟩).rs, .int .i64 (olM dt dq dr ds dn ⟨k, o, lf, i, p, ps, g, s, st, rs, rr, sq, l⟩).rr, .int .i64 (olM dt dq dr ds dn ⟨k, o, lf, i, p, ps, g, s, st, rs, rr, sq, l⟩).sq, .slice ao (olM dt dq dr ds dn ⟨k, o, lf, i, p, ps, g, s, st, rs, rr, sq, l⟩).body.length cap], .int .i64 (olE dt dq dr ds dn ⟨k, o, lf, i, p, ps, g, s, st, rs, rr, sq, l⟩)]) ∧ Mod (fun _ => False) w w' ∧ Own w' (.slice ao (olM dt dq dr ds dn ⟨k, o, lf, i, p, ps, g, s, st, rs, rr, sq, l⟩).body.length cap) (olM dt dq dr ds dn ⟨k, o, lf, i, p, ps, g, s, st, rs, rr, sq, l⟩).body ∧ (∀ q : Nat, (Value.slice ao (olM dt dq dr ds dn ⟨k, o, lf, i, p, ps, g, s, st, rs, rr, sq, l⟩).body.length cap).ownBlock = some q → w.heap.size ≤ q) := by
  obtain ⟨k', o', lf', i', p', ps', g', s', st', rs', rr', sq', bv', rfl, hm, hok, hno⟩ := h
  by_cases h0 : olE dt dq dr ds dn ⟨k, o, lf, i, p, ps, g, s, st, rs, rr, sq, l⟩ = 0
  · obtain ⟨⟨rfl, rfl, rfl, rfl, rfl, rfl, rfl, rfl, rfl, rfl, rfl, rfl⟩, h2, h3⟩ := hok h0
    obtain ⟨ao, cap, rfl⟩ := h2.shape
    refine ⟨ao, cap, ?_, hm, ?_, ?_⟩
    · rw [olM, if_pos h0]
    · rw [olM, if_pos h0]; exact h2
    · rw [olM, if_pos h0]; exact h3
  · obtain ⟨rfl, rfl, rfl, rfl, rfl, rfl, rfl, rfl, rfl, rfl, rfl, rfl, rfl⟩ := hno h0
    refine ⟨none, 0, ?_, hm, ?_, ?_⟩
    · rw [olM, if_neg h0]; rfl
    · rw [olM, if_neg h0]; exact Own.nil _
    · intro g hg; simp [Value.ownBlock] at hg
theorem olM_rng {s q r n sn : Int} {m : Ms} (hr : ∀ c ∈ m.body, 0 ≤ c ∧ c ≤ 255) : ∀ c ∈ (olM s q r n sn m).body, 0 ≤ c ∧ c ≤ 255 := by
  unfold olM
  split
  · exact pk_rng m hr
  · intro c hc; simp [zMs] at hc
/-- Inner's answer. -/
def inM (m : Ms) : Ms := if inE m = 0 then prM m.body else zMs
def inD (m : Ms) : Int × Int × Int × Int × Int := if inE m = 0 then (m.rs, m.rr, m.sq, m.id, m.st) else (0, 0, 0, 0, 0)
theorem inner_m {k o lf i p ps g : Int} {s : Bool} {st rs rr sq : Int} {l : List Int} {w : World} {e : Ending} {w' : World} (h : ∃ dq dr ds dn dt k' o' lf' i' p' ps' g' s' st' rs' rr' sq' bv', e = .returned (.tuple #[.agg #[.int .i64 dq, .int .i64 dr, .int .i64 ds, .int .i64 dn, .int .i64 dt, .int .i64 k', .int .i64 o', .int .i64 lf', .int .i64 i', .int .i64 p', .int .i64 ps', .int .i64 g', .bool s', .int .i64 st', .int .i64 rs', .int .i64 rr', .int .i64 sq', bv'], .int .i64 (inE ⟨k, o, lf, i, p, ps, g, s, st, rs, rr, sq, l⟩)]) ∧ Mod (fun _ => False) w w' ∧
      (inE ⟨k, o, lf, i, p, ps, g, s, st, rs, rr, sq, l⟩ = 0 → (dq = rs ∧ dr = rr ∧ ds = sq ∧ dn = i ∧ dt = st) ∧ Ms.mk k' o' lf' i' p' ps' g' s' st' rs' rr' sq' (prM l).body = prM l ∧ Own w' bv' (prM l).body ∧ (∀ g, bv'.ownBlock = some g → w.heap.size ≤ g)) ∧
      (inE ⟨k, o, lf, i, p, ps, g, s, st, rs, rr, sq, l⟩ ≠ 0 → (dq = 0 ∧ dr = 0 ∧ ds = 0 ∧ dn = 0 ∧ dt = 0 ∧ k' = 0 ∧ o' = 0 ∧ lf' = 0 ∧ i' = 0 ∧ p' = 0 ∧ ps' = 0 ∧ g' = 0 ∧ s' = false ∧ st' = 0 ∧ rs' = 0 ∧ rr' = 0 ∧ sq' = 0 ∧ bv' = .slice none 0 0))) :
    ∃ ao cap, e = .returned (.tuple #[.agg #[.int .i64 (inD ⟨k, o, lf, i, p, ps, g, s, st, rs, rr, sq, l⟩).1, .int .i64 (inD ⟨k, o, lf, i, p, ps, g, s, st, rs, rr, sq, l⟩).2.1, .int .i64 (inD ⟨k, o, lf, i, p, ps, g, s, st, rs, rr, sq, l⟩).2.2.1, .int .i64 (inD ⟨k, o, lf, i, p, ps, g, s, st, rs, rr, sq, l⟩).2.2.2.1, .int .i64 (inD ⟨k, o, lf, i, p, ps, g, s, st, rs, rr, sq, l⟩).2.2.2.2, .int .i64 (inM ⟨k, o, lf, i, p, ps, g, s, st, rs, rr, sq, l⟩).kind, .int .i64 (inM ⟨k, o, lf, i, p, ps, g, s, st, rs, rr, sq, l⟩).origin, .int .i64 (inM ⟨k, o, lf, i, p, ps, g, s, st, rs, rr, sq, l⟩).life, .int .i64 (inM ⟨k, o, lf, i, p, ps, g, s, st, rs, rr, sq, l⟩).id, .int .i64 (inM ⟨k, o, lf, i, p, ps, g, s, st, rs, rr, sq, l⟩).part, .int .i64 (inM ⟨k, o, lf, i, p, ps, g, s, st, rs, rr, sq, l⟩).parts, .int .i64 (inM ⟨k, o, lf, i, p, ps, g, s, st, rs, rr, sq, l⟩).groups, .bool (inM ⟨k, o, lf, i, p, ps, g, s, st, rs, rr, sq, l⟩).safe, .int .i64 (inM ⟨k, o, lf, i, p, ps, g, s, st, rs, rr, sq, l⟩).st, .int .i64 (inM ⟨k, o, lf, i, p, ps, g, s, st, rs, rr, sq, l⟩).rs, .int .i64 (inM ⟨k, o, lf, i, p, ps, g, s, st, rs, rr, sq, l⟩).rr, .int .i64 (inM ⟨k, o, lf, i, p, ps, g, s, st, rs, rr, sq, l⟩).sq, .slice ao (inM ⟨k, o, lf, i, p, ps, g, s, st, rs, rr, sq, l⟩).body.length cap], .int .i64 (inE ⟨k, o, lf, i, p, ps, g, s, st, rs, rr, sq, l⟩)]) ∧ Mod (fun _ => False) w w' ∧ Own w' (.slice ao (inM ⟨k, o, lf, i, p, ps, g, s, st, rs, rr, sq, l⟩).body.length cap) (inM ⟨k, o, lf, i, p, ps, g, s, st, rs, rr, sq, l⟩).body ∧ (∀ q : Nat, (Value.slice ao (inM ⟨k, o, lf, i, p, ps, g, s, st, rs, rr, sq, l⟩).body.length cap).ownBlock = some q → w.heap.size ≤ q) := by
  obtain ⟨dq, dr, ds, dn, dt, k', o', lf', i', p', ps', g', s', st', rs', rr', sq', bv', rfl, hm, hok, hno⟩ := h
  by_cases h0 : inE ⟨k, o, lf, i, p, ps, g, s, st, rs, rr, sq, l⟩ = 0
  · obtain ⟨⟨rfl, rfl, rfl, rfl, rfl⟩, h1, h2, h3⟩ := hok h0
    obtain ⟨ao, cap, rfl⟩ := h2.shape
    refine ⟨ao, cap, ?_, hm, ?_, ?_⟩
    · rw [inM, inD, if_pos h0, if_pos h0]; dsimp only; rw [← h1]
    · rw [inM, if_pos h0]; exact h2
    · rw [inM, if_pos h0]; exact h3
  · obtain ⟨rfl, rfl, rfl, rfl, rfl, rfl, rfl, rfl, rfl, rfl, rfl, rfl, rfl, rfl, rfl, rfl, rfl, rfl⟩ := hno h0
    refine ⟨none, 0, ?_, hm, ?_, ?_⟩
    · rw [inM, inD, if_neg h0, if_neg h0]; rfl
    · rw [inM, if_neg h0]; exact Own.nil _
    · intro g hg; simp [Value.ownBlock] at hg
theorem inM_rng {m : Ms} (hr : ∀ c ∈ m.body, 0 ≤ c ∧ c ≤ 255) : ∀ c ∈ (inM m).body, 0 ≤ c ∧ c ≤ 255 := by
  unfold inM
  split
  · exact fun x hx => hr x (pr_mem m.body x hx)
  · intro c hc; simp [zMs] at hc
end Go.Proofs.Ytajhpnfpjickbaa
