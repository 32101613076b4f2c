/- Contracts of the document's Check, Unpack and Places, of all messages and bytes. Conditions: sizes that a slice of bytes has. -/
import Derived.Test.YthiijonmnebjgaaGreatRk
import Derived.Test.YthiijonmnebjgaaGreatRu
import Derived.Test.YthiijonmnebjgaaGreatRp
namespace Go.Proofs.YthiijonmnebjgaaGreat
open Go.RowKit
set_option maxRecDepth 100000 in
set_option maxHeartbeats 4000000 in
theorem dCheck_of (k o lf i p ps g : Int) (s : Bool) (st rs rr sq : Int) (ao : Option Addr) (cap : Nat) (l : List Int) (w : World) (hs : Sl w (.slice ao l.length cap) l)
    (HK : l.length ≤ 160 → ∀ W, Sl W (.slice ao l.length cap) l → Calls Tryz.prog 70 #[.agg #[.int .i64 k, .int .i64 o, .int .i64 lf, .int .i64 i, .int .i64 p, .int .i64 ps, .int .i64 g, .bool s, .int .i64 st, .int .i64 rs, .int .i64 rr, .int .i64 sq, .slice ao l.length cap]] W fun e w' => e = .returned (.bool (dkd ⟨k, o, lf, i, p, ps, g, s, st, rs, rr, sq, l⟩)) ∧ Mod (fun _ => False) W w') :
    Calls Tryz.prog 54 #[.agg #[.int .i64 k, .int .i64 o, .int .i64 lf, .int .i64 i, .int .i64 p, .int .i64 ps, .int .i64 g, .bool s, .int .i64 st, .int .i64 rs, .int .i64 rr, .int .i64 sq, .slice ao l.length cap]] w fun e w' => e = .returned (.int .i64 (chk ⟨k, o, lf, i, p, ps, g, s, st, rs, rr, sq, l⟩)) ∧ Mod (fun _ => False) w w' := by
  have hA := (Mod.refl (fun _ => False) w).alloc (.cells #[.int .i64 k, .int .i64 o, .int .i64 lf, .int .i64 i, .int .i64 p, .int .i64 ps, .int .i64 g, .bool s, .int .i64 st, .int .i64 rs, .int .i64 rr, .int .i64 sq, (.slice ao l.length cap)] 43)
  have hb := MB.new w k o lf i p ps g s st rs rr sq (.slice ao l.length cap)
  have hs0 := hs.mod hA (fun _ _ h => h)
  by_cases hl : 160 < l.length
  · have e : chk ⟨k, o, lf, i, p, ps, g, s, st, rs, rr, sq, l⟩ = 5 := by simp [chk, hl]
    rw [e]
    have hli : (160 : Int) < l.length := by omega
    clear HK e
    go_enter Tryz.func54, Tryz.ntmps54
    go_wp2
    go_ret
    exact ⟨rfl, hA⟩
  · have HKD := HK (by omega)
    have hkd := @dkd_eq ⟨k, o, lf, i, p, ps, g, s, st, rs, rr, sq, l⟩
    have hli : ¬ (160 : Int) < l.length := by omega
    have H1 := dNode o
    have H2 := dNumber lf
    have H3 := dNumber i
    have H4 := RCheck st rs rr sq
    have hc : chk ⟨k, o, lf, i, p, ps, g, s, st, rs, rr, sq, l⟩ = if nd o && nm lf && nm i && decide (0 ≤ g) && decide (g ≤ 255) && (ck st rs rr sq == 0) && dkd ⟨k, o, lf, i, p, ps, g, s, st, rs, rr, sq, l⟩ then 0 else 2 := by
      rw [chk, if_neg hl]
      have hh : hn ⟨k, o, lf, i, p, ps, g, s, st, rs, rr, sq, l⟩ = (nd o && nm lf && nm i && decide (0 ≤ g) && decide (g ≤ 255) && (ck st rs rr sq == 0)) := rfl
      rw [← hh]
      cases h : hn ⟨k, o, lf, i, p, ps, g, s, st, rs, rr, sq, l⟩ with
      | false => rfl
      | true => rw [hkd h]
    rw [hc]
    clear hc hkd hl HK
    generalize nd o = c1 at H1 ⊢
    generalize nm lf = c2 at H2 ⊢
    generalize nm i = c3 at H3 ⊢
    generalize ck st rs rr sq = c4 at H4 ⊢
    generalize dkd ⟨k, o, lf, i, p, ps, g, s, st, rs, rr, sq, l⟩ = c5 at HKD ⊢
    cases c1
    case false =>
      go_enter Tryz.func54, Tryz.ntmps54
      go_wp2_with (fail)
      refine (H1 _).mono ?_
      rintro e w1 ⟨rfl, rfl⟩
      go_wp2
      go_ret
      exact ⟨rfl, hA⟩
    cases c2
    case false =>
      go_enter Tryz.func54, Tryz.ntmps54
      go_wp2_with (fail)
      refine (H1 _).mono ?_
      rintro e w1 ⟨rfl, rfl⟩
      go_wp2_with (fail)
      refine (H2 _).mono ?_
      rintro e w1 ⟨rfl, rfl⟩
      go_wp2
      go_ret
      exact ⟨rfl, hA⟩
    cases c3
    case false =>
      go_enter Tryz.func54, Tryz.ntmps54
      go_wp2_with (fail)
      refine (H1 _).mono ?_
      rintro e w1 ⟨rfl, rfl⟩
      go_wp2_with (fail)
      refine (H2 _).mono ?_
      rintro e w1 ⟨rfl, rfl⟩
      go_wp2_with (fail)
      refine (H3 _).mono ?_
      rintro e w1 ⟨rfl, rfl⟩
      go_wp2
      go_ret
      exact ⟨rfl, hA⟩
    rcases (show g < 0 ∨ (¬ g < 0 ∧ 255 < g) ∨ (¬ g < 0 ∧ ¬ 255 < g) by omega) with hg | ⟨hg, hg2⟩ | ⟨hg, hg2⟩
    · have e : decide (0 ≤ g) = false := by simp; omega
      rw [e]
      clear e
      go_enter Tryz.func54, Tryz.ntmps54
      go_wp2_with (fail)
      refine (H1 _).mono ?_
      rintro e w1 ⟨rfl, rfl⟩
      go_wp2_with (fail)
      refine (H2 _).mono ?_
      rintro e w1 ⟨rfl, rfl⟩
      go_wp2_with (fail)
      refine (H3 _).mono ?_
      rintro e w1 ⟨rfl, rfl⟩
      go_wp2
      go_ret
      exact ⟨rfl, hA⟩
    · have e : decide (g ≤ 255) = false := by simp; omega
      rw [e, Bool.and_false]
      clear e
      go_enter Tryz.func54, Tryz.ntmps54
      go_wp2_with (fail)
      refine (H1 _).mono ?_
      rintro e w1 ⟨rfl, rfl⟩
      go_wp2_with (fail)
      refine (H2 _).mono ?_
      rintro e w1 ⟨rfl, rfl⟩
      go_wp2_with (fail)
      refine (H3 _).mono ?_
      rintro e w1 ⟨rfl, rfl⟩
      go_wp2
      go_ret
      exact ⟨rfl, hA⟩
    · have e1 : decide (0 ≤ g) = true := by simp; omega
      have e2 : decide (g ≤ 255) = true := by simp; omega
      rw [e1, e2]
      clear e1 e2
      by_cases hc4 : c4 = 0
      · subst hc4
        go_enter Tryz.func54, Tryz.ntmps54
        go_wp2_with (fail)
        refine (H1 _).mono ?_
        rintro e w1 ⟨rfl, rfl⟩
        go_wp2_with (fail)
        refine (H2 _).mono ?_
        rintro e w1 ⟨rfl, rfl⟩
        go_wp2_with (fail)
        refine (H3 _).mono ?_
        rintro e w1 ⟨rfl, rfl⟩
        go_wp2_with (fail)
        refine (H4 _).mono ?_
        rintro e w1 ⟨rfl, hm1⟩
        have hA1 := hA.trans hm1 (V := fun _ => False) (fun _ _ h => h) (fun _ _ h => h)
        have hs1 := hs0.mod hm1 (fun _ _ h => h)
        obtain ⟨a0, a1, a2, a3, a4, a5, a6, a7, a8, a9, a10, a11, a12⟩ := (hb.mod hm1 (fun h => h)).cells
        go_wp2_with (fail)
        refine (HKD _ hs1).mono ?_
        rintro e w2 ⟨rfl, hm2⟩
        have hA2 := hA1.trans hm2 (V := fun _ => False) (fun _ _ h => h) (fun _ _ h => h)
        clear a0 a1 a2 a3 a4 a5 a6 a7 a8 a9 a10 a11 a12
        cases c5
        all_goals
          go_wp2
          go_ret
          exact ⟨rfl, hA2⟩
      · have hb4 : (c4 != 0) = true := by simp [hc4]
        have hb5 : (c4 == 0) = false := by simp [hc4]
        rw [hb5, Bool.and_false]
        go_enter Tryz.func54, Tryz.ntmps54
        go_wp2_with (fail)
        refine (H1 _).mono ?_
        rintro e w1 ⟨rfl, rfl⟩
        go_wp2_with (fail)
        refine (H2 _).mono ?_
        rintro e w1 ⟨rfl, rfl⟩
        go_wp2_with (fail)
        refine (H3 _).mono ?_
        rintro e w1 ⟨rfl, rfl⟩
        go_wp2_with (fail)
        refine (H4 _).mono ?_
        rintro e w1 ⟨rfl, hm1⟩
        have hA1 := hA.trans hm1 (V := fun _ => False) (fun _ _ h => h) (fun _ _ h => h)
        go_wp2
        go_ret
        exact ⟨rfl, hA1⟩
theorem dboth_any : ∀ n : Nat, (∀ (L : List Int) (v : Value) (w : World), L.length = n → Sl w v L → L.length ≤ 140737488355328 → Calls Tryz.prog 60 #[v] w (Unp L w)) ∧
    (∀ (k o lf i p ps g : Int) (s : Bool) (st rs rr sq : Int) (ao : Option Addr) (cap : Nat) (l : List Int) (w : World), l.length = n → Sl w (.slice ao l.length cap) l → Calls Tryz.prog 54 #[.agg #[.int .i64 k, .int .i64 o, .int .i64 lf, .int .i64 i, .int .i64 p, .int .i64 ps, .int .i64 g, .bool s, .int .i64 st, .int .i64 rs, .int .i64 rr, .int .i64 sq, .slice ao l.length cap]] w fun e w' => e = .returned (.int .i64 (chk ⟨k, o, lf, i, p, ps, g, s, st, rs, rr, sq, l⟩)) ∧ Mod (fun _ => False) w w') := by
  intro n
  induction n using Nat.strongRecOn with
  | ind n ih =>
    have hU : ∀ (L : List Int) (v : Value) (w : World), L.length = n → Sl w v L → L.length ≤ 140737488355328 → Calls Tryz.prog 60 #[v] w (Unp L w) := by
      intro L v w hn hs hb
      refine dUnpack_of v L w hs hb fun h0 W ao cap hW => ?_
      have hl := (pr_len h0).1
      exact (ih (prM L).body.length (by omega)).2 _ _ _ _ _ _ _ _ _ _ _ _ ao cap (prM L).body W rfl hW
    refine ⟨hU, ?_⟩
    intro k o lf i p ps g s st rs rr sq ao cap l w hn hs
    refine dCheck_of k o lf i p ps g s st rs rr sq ao cap l w hs fun hl W hW => ?_
    exact kind_any k o lf i p ps g s st rs rr sq ao cap l W hW (fun W' hW' => hU l _ W' hn hW' (by omega)) (fun W' hW' => (dPlaces _ l W' hW' (by omega)).mono fun e w' ⟨v1, h1, h2, _⟩ => ⟨v1, h1, h2⟩)
theorem dUnpack (v : Value) (L : List Int) (w : World) (hs : Sl w v L) (hb : L.length ≤ 140737488355328) : Calls Tryz.prog 60 #[v] w (Unp L w) := (dboth_any L.length).1 L v w rfl hs hb
theorem dCheck (k o lf i p ps g : Int) (s : Bool) (st rs rr sq : Int) (ao : Option Addr) (cap : Nat) (l : List Int) (w : World) (hs : Sl w (.slice ao l.length cap) l) : Calls Tryz.prog 54 #[.agg #[.int .i64 k, .int .i64 o, .int .i64 lf, .int .i64 i, .int .i64 p, .int .i64 ps, .int .i64 g, .bool s, .int .i64 st, .int .i64 rs, .int .i64 rr, .int .i64 sq, .slice ao l.length cap]] w fun e w' => e = .returned (.int .i64 (chk ⟨k, o, lf, i, p, ps, g, s, st, rs, rr, sq, l⟩)) ∧ Mod (fun _ => False) w w' :=
  (dboth_any l.length).2 k o lf i p ps g s st rs rr sq ao cap l w rfl hs
end Go.Proofs.YthiijonmnebjgaaGreat
