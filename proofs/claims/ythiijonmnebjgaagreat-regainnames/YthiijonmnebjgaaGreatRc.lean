/- Contracts of the document's Place and Charts. Conditions: the numbers are those of an int. -/
import Derived.Test.YthiijonmnebjgaaGreatGa
import Derived.Deep.RegionHeld3
namespace Go.Proofs.YthiijonmnebjgaaGreat
open Go.RowKit
/-- Whether a place may be. -/
def pok (p : Pl) : Bool := (decide (0 ≤ p.ring) && decide (p.ring < 4)) && (isr p.ps p.pr && crew p.mb)
set_option maxHeartbeats 1000000 in
theorem dPlace (rg q pr mb : Int) (w : World) : Calls Tryz.prog 126 #[.agg #[.int .i64 rg, .int .i64 q, .int .i64 pr, .int .i64 mb]] w fun e w' => e = .returned (.bool (pok ⟨rg, q, pr, mb⟩)) ∧ Mod (fun _ => False) w w' := by
  have ER : ∀ W, (Op.equalIn 10000 38 (.agg #[.int .i64 q, .int .i64 pr]) (.agg #[.int .i64 0, .int .i64 0])).run Tryz.prog W = .ok (decide (q = 0) && decide (pr = 0)) W := eqRing q pr 0 0
  have HR := RCheckRing q pr
  have hA := (Mod.refl (fun _ => False) w).alloc (.cells #[.int .i64 rg, .int .i64 q, .int .i64 pr, .int .i64 mb] 147)
  have hb := PlB.new w rg q pr mb
  unfold pok isr crew
  dsimp only
  by_cases h1 : 0 ≤ rg
  case neg =>
    clear HR ER
    go_enter Tryz.func126, Tryz.ntmps126
    go_wp2
    go_ret
    refine ⟨?_, hA⟩
    simp; omega
  case pos =>
    by_cases h2 : rg ≤ 3
    case neg =>
      clear HR ER
      go_enter Tryz.func126, Tryz.ntmps126
      go_wp2
      go_ret
      refine ⟨?_, hA⟩
      simp; omega
    case pos =>
      have e1 : decide (0 ≤ rg) = true := by simp [h1]
      have e2 : decide (rg < 4) = true := by simp; omega
      rw [e1, e2]
      by_cases h0 : q = 0 ∧ pr = 0
      case pos =>
        obtain ⟨rfl, rfl⟩ := h0
        have ER' : ∀ W, (Op.equalIn 10000 38 (.agg #[.int .i64 0, .int .i64 0]) (.agg #[.int .i64 0, .int .i64 0])).run Tryz.prog W = .ok true W := ER
        clear HR ER e1 e2
        go_enter Tryz.func126, Tryz.ntmps126
        go_wp2
        go_ret
        refine ⟨?_, hA⟩
        simp
      case neg =>
        have e3 : (decide (q = 0) && decide (pr = 0)) = false := by
          rw [Bool.eq_false_iff]; simp; exact fun h h' => h0 ⟨h, h'⟩
        rw [e3] at ER
        rw [show decide (¬ (q = 0 ∧ pr = 0)) = true from by simp only [h0, not_false_eq_true, decide_true]]
        generalize cr q pr = c at HR ⊢
        by_cases hc : c = 0
        case neg =>
          have hcb : (c == 0) = false := by simp [hc]
          clear e1 e2 e3
          go_enter Tryz.func126, Tryz.ntmps126
          go_wp2_with (fail)
          refine (HR _).mono ?_
          rintro e w1 ⟨rfl, hm1⟩
          go_wp2
          go_ret
          refine ⟨?_, hA.trans hm1 (V := fun _ => False) (fun _ _ h => h) (fun _ _ h => h)⟩
          simp [hc]
        case pos =>
          subst hc
          clear e1 e2 e3
          by_cases h5 : 0 < mb
          case neg =>
            go_enter Tryz.func126, Tryz.ntmps126
            go_wp2_with (fail)
            refine (HR _).mono ?_
            rintro e w1 ⟨rfl, hm1⟩
            obtain ⟨d0, d1, d2, d3⟩ := (hb.mod hm1 (fun h => h)).cells
            go_wp2
            go_ret
            refine ⟨?_, hA.trans hm1 (V := fun _ => False) (fun _ _ h => h) (fun _ _ h => h)⟩
            simp; omega
          case pos =>
            by_cases h6 : mb < 512
            case neg =>
              go_enter Tryz.func126, Tryz.ntmps126
              go_wp2_with (fail)
              refine (HR _).mono ?_
              rintro e w1 ⟨rfl, hm1⟩
              obtain ⟨d0, d1, d2, d3⟩ := (hb.mod hm1 (fun h => h)).cells
              go_wp2
              go_ret
              refine ⟨?_, hA.trans hm1 (V := fun _ => False) (fun _ _ h => h) (fun _ _ h => h)⟩
              simp; omega
            case pos =>
              go_enter Tryz.func126, Tryz.ntmps126
              go_wp2_with (fail)
              refine (HR _).mono ?_
              rintro e w1 ⟨rfl, hm1⟩
              obtain ⟨d0, d1, d2, d3⟩ := (hb.mod hm1 (fun h => h)).cells
              go_wp2
              go_ret
              refine ⟨?_, hA.trans hm1 (V := fun _ => False) (fun _ _ h => h) (fun _ _ h => h)⟩
              simp [h5, h6, Bool.beq_eq_decide_eq]
theorem held_cons (least : Int) (p : Pl) (l : List Pl) (h0 : 0 ≤ least) : held least (p :: l) = (pok p && decide (least ≤ p.ring) && held (p.ring + 1) l) := by
  rw [held, pok]
  rw [Bool.eq_iff_iff]
  simp only [Bool.and_eq_true, decide_eq_true_eq]
  constructor
  · rintro ⟨⟨⟨a, b⟩, c⟩, d⟩
    exact ⟨⟨⟨⟨by omega, b⟩, c⟩, a⟩, d⟩
  · rintro ⟨⟨⟨⟨a, b⟩, c⟩, d⟩, e⟩
    exact ⟨⟨⟨d, b⟩, c⟩, e⟩
end Go.Proofs.YthiijonmnebjgaaGreat
