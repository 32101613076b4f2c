/- Contracts of Pack, the program's and the document's. No conditions. -/
import Derived.Test.YtbfgnlpgfjokhaaPl
namespace Go.Proofs.Ytbfgnlpgfjokhaa
open Go.RowKit
theorem Mod.frozen {S : Nat → Prop} {w w' : World} (h : Mod S w w') {p : Addr} (hlt : p.block < w.heap.size) (hp : ¬ S p.block) : w'.frozen? p = w.frozen? p := by
  unfold World.frozen?
  rw [h.block p.block hlt hp]
theorem Pack_ok (s q r n : Int) (w : World) (HC : ∀ w, Calls Try.prog 11 #[.agg #[.int .i64 s, .int .i64 q, .int .i64 r, .int .i64 n]] w fun e w' => e = .returned (.int .i64 0) ∧ Mod (fun _ => False) w w')
   (hs : 0 ≤ s ∧ s < 1099511627776) (hq : 0 ≤ q ∧ q < 1099511627776) (hr : 0 ≤ r ∧ r ≤ 8) (hn : 0 ≤ n ∧ n < 68719476736) : Calls Try.prog 18 #[.agg #[.int .i64 s, .int .i64 q, .int .i64 r, .int .i64 n]] w fun e w' => e = .returned (.tuple #[.agg #[.int .u64 (ph s q), .int .u64 (pl q r n)], .int .i64 0]) ∧ Mod (fun _ => False) w w' := by
  have ws : IntKind.u64.wrap s = s := by rw [wrap_u64]; omega
  have wq : IntKind.u64.wrap q = q := by rw [wrap_u64]; omega
  have wr : IntKind.u64.wrap r = r := by rw [wrap_u64]; omega
  have wn : IntKind.u64.wrap n = n := by rw [wrap_u64]; omega
  have d1 : s / 1099511627776 = 0 := by omega
  have d2 : q / 1099511627776 = 0 := by omega
  have d3 : n / 68719476736 = 0 := by omega
  have wsh : IntKind.u64.wrap (s * 65536) = s * 65536 := by rw [wrap_u64]; omega
  have E1 := ph_eq hs hq
  have E2 := pl_eq hq hr hn
  generalize ph s q = X at *
  generalize pl q r n = Y at *
  clear hs hq hr hn
  go_enter Try.func18, Try.ntmps18
  go_wp2_with (fail)
  refine (HC _).mono ?_
  rintro e w' ⟨rfl, hm⟩
  have c0 : w'.cell? ⟨w.heap.size, 0, none⟩ = some (.int .i64 s) := hm.cell (by simp [go_sem]) (fun h => h)
  have c1 : w'.cell? ⟨w.heap.size, 1, none⟩ = some (.int .i64 q) := hm.cell (by simp [go_sem]) (fun h => h)
  have c2 : w'.cell? ⟨w.heap.size, 2, none⟩ = some (.int .i64 r) := hm.cell (by simp [go_sem]) (fun h => h)
  have c3 : w'.cell? ⟨w.heap.size, 3, none⟩ = some (.int .i64 n) := hm.cell (by simp [go_sem]) (fun h => h)
  have e0 : w'.cell? ⟨w.heap.size + 1, 0, none⟩ = some (.int .u64 0) := hm.cell (by simp [go_sem]) (fun h => h)
  have e1 : w'.cell? ⟨w.heap.size + 1, 1, none⟩ = some (.int .u64 0) := hm.cell (by simp [go_sem]) (fun h => h)
  have z0 : w'.frozen? ⟨w.heap.size + 1, 0, none⟩ = false := (hm.frozen (by simp) (fun h => h)).trans (by simp [go_sem])
  have z1 : w'.frozen? ⟨w.heap.size + 1, 1, none⟩ = false := (hm.frozen (by simp) (fun h => h)).trans (by simp [go_sem])
  clear HC
  go_wp2_with (fail)
  go_big_quiet ((fail))
  go_wp2
  refine bodyPost_ret (v := .tuple #[.agg #[.int .u64 X, .int .u64 Y], .int .i64 0]) (by simp [results, Try.results18, go_sem, e0, e1]) rfl ⟨rfl, ?_⟩
  exact ((((((Mod.refl _ _).alloc _).alloc _).and hm).drewN _).setCell _ _ (.inr (by simp))).setCell _ _ (.inr (by simp))
theorem Pack_no (s q r n : Int) (w : World) (HC : ∀ w, Calls Try.prog 11 #[.agg #[.int .i64 s, .int .i64 q, .int .i64 r, .int .i64 n]] w fun e w' => e = .returned (.int .i64 2) ∧ Mod (fun _ => False) w w') : Calls Try.prog 18 #[.agg #[.int .i64 s, .int .i64 q, .int .i64 r, .int .i64 n]] w fun e w' => e = .returned (.tuple #[.agg #[.int .u64 0, .int .u64 0], .int .i64 2]) ∧ Mod (fun _ => False) w w' := by
  go_enter Try.func18, Try.ntmps18
  go_wp2_with (fail)
  refine (HC _).mono ?_
  rintro e w' ⟨rfl, hm⟩
  have e0 : w'.cell? ⟨w.heap.size + 1, 0, none⟩ = some (.int .u64 0) := hm.cell (by simp [go_sem]) (fun h => h)
  have e1 : w'.cell? ⟨w.heap.size + 1, 1, none⟩ = some (.int .u64 0) := hm.cell (by simp [go_sem]) (fun h => h)
  have z0 : w'.frozen? ⟨w.heap.size + 1, 0, none⟩ = false := (hm.frozen (by simp) (fun h => h)).trans (by simp [go_sem])
  have z1 : w'.frozen? ⟨w.heap.size + 1, 1, none⟩ = false := (hm.frozen (by simp) (fun h => h)).trans (by simp [go_sem])
  clear HC
  go_wp2
  refine bodyPost_ret (v := .tuple #[.agg #[.int .u64 0, .int .u64 0], .int .i64 2]) (by simp [results, Try.results18, go_sem, e0, e1]) rfl ⟨rfl, ?_⟩
  exact (((((Mod.refl _ _).alloc _).alloc _).and hm).setCell _ _ (.inr (by simp))).setCell _ _ (.inr (by simp))
theorem RPack_no (s q r n : Int) (w : World) (HC : ∀ w, Calls Try.prog 12 #[.agg #[.int .i64 s, .int .i64 q, .int .i64 r, .int .i64 n]] w fun e w' => e = .returned (.int .i64 2) ∧ Mod (fun _ => False) w w') : Calls Try.prog 19 #[.agg #[.int .i64 s, .int .i64 q, .int .i64 r, .int .i64 n]] w fun e w' => e = .returned (.tuple #[.agg #[.int .u64 0, .int .u64 0], .int .i64 2]) ∧ Mod (fun _ => False) w w' := by
  go_enter Try.func19, Try.ntmps19
  go_wp2_with (fail)
  refine (HC _).mono ?_
  rintro e w' ⟨rfl, hm⟩
  have e0 : w'.cell? ⟨w.heap.size + 1, 0, none⟩ = some (.int .u64 0) := hm.cell (by simp [go_sem]) (fun h => h)
  have e1 : w'.cell? ⟨w.heap.size + 1, 1, none⟩ = some (.int .u64 0) := hm.cell (by simp [go_sem]) (fun h => h)
  have z0 : w'.frozen? ⟨w.heap.size + 1, 0, none⟩ = false := (hm.frozen (by simp) (fun h => h)).trans (by simp [go_sem])
  have z1 : w'.frozen? ⟨w.heap.size + 1, 1, none⟩ = false := (hm.frozen (by simp) (fun h => h)).trans (by simp [go_sem])
  clear HC
  go_wp2
  refine bodyPost_ret (v := .tuple #[.agg #[.int .u64 0, .int .u64 0], .int .i64 2]) (by simp [results, Try.results19, go_sem, e0, e1]) rfl ⟨rfl, ?_⟩
  exact (((((Mod.refl _ _).alloc _).alloc _).and hm).setCell _ _ (.inr (by simp))).setCell _ _ (.inr (by simp))
theorem Pack_far (s q r n : Int) (w : World) (HC : ∀ w, Calls Try.prog 11 #[.agg #[.int .i64 s, .int .i64 q, .int .i64 r, .int .i64 n]] w fun e w' => e = .returned (.int .i64 0) ∧ Mod (fun _ => False) w w')
    (hw : 0 ≤ s ∧ s ≤ 9007199254740991 ∧ 0 ≤ q ∧ q ≤ 9007199254740991 ∧ 0 ≤ r ∧ r ≤ 8 ∧ 0 ≤ n ∧ n ≤ 9007199254740991) (hf : ¬ (s < 1099511627776 ∧ q < 1099511627776 ∧ n < 68719476736)) : Calls Try.prog 18 #[.agg #[.int .i64 s, .int .i64 q, .int .i64 r, .int .i64 n]] w fun e w' => e = .returned (.tuple #[.agg #[.int .u64 0, .int .u64 0], .int .i64 9]) ∧ Mod (fun _ => False) w w' := by
  have ws : IntKind.u64.wrap s = s := by rw [wrap_u64]; omega
  have wq : IntKind.u64.wrap q = q := by rw [wrap_u64]; omega
  have wr : IntKind.u64.wrap r = r := by rw [wrap_u64]; omega
  have wn : IntKind.u64.wrap n = n := by rw [wrap_u64]; omega
  rcases (show ¬ s / 1099511627776 = 0 ∨ (s / 1099511627776 = 0 ∧ ¬ q / 1099511627776 = 0) ∨ (s / 1099511627776 = 0 ∧ q / 1099511627776 = 0 ∧ ¬ n / 68719476736 = 0) by omega) with d | ⟨d, d2⟩ | ⟨d, d2, d3⟩
  all_goals
    clear hw hf
    go_enter Try.func18, Try.ntmps18
    go_wp2_with (fail)
    refine (HC _).mono ?_
    rintro e w' ⟨rfl, hm⟩
    have c0 : w'.cell? ⟨w.heap.size, 0, none⟩ = some (.int .i64 s) := hm.cell (by simp [go_sem]) (fun h => h)
    have c1 : w'.cell? ⟨w.heap.size, 1, none⟩ = some (.int .i64 q) := hm.cell (by simp [go_sem]) (fun h => h)
    have c2 : w'.cell? ⟨w.heap.size, 2, none⟩ = some (.int .i64 r) := hm.cell (by simp [go_sem]) (fun h => h)
    have c3 : w'.cell? ⟨w.heap.size, 3, none⟩ = some (.int .i64 n) := hm.cell (by simp [go_sem]) (fun h => h)
    have e0 : w'.cell? ⟨w.heap.size + 1, 0, none⟩ = some (.int .u64 0) := hm.cell (by simp [go_sem]) (fun h => h)
    have e1 : w'.cell? ⟨w.heap.size + 1, 1, none⟩ = some (.int .u64 0) := hm.cell (by simp [go_sem]) (fun h => h)
    have z0 : w'.frozen? ⟨w.heap.size + 1, 0, none⟩ = false := (hm.frozen (by simp) (fun h => h)).trans (by simp [go_sem])
    have z1 : w'.frozen? ⟨w.heap.size + 1, 1, none⟩ = false := (hm.frozen (by simp) (fun h => h)).trans (by simp [go_sem])
    clear HC
    go_wp2_with (fail)
    go_big_quiet ((fail))
    go_wp2
    refine bodyPost_ret (v := .tuple #[.agg #[.int .u64 0, .int .u64 0], .int .i64 9]) (by simp [results, Try.results18, go_sem, e0, e1]) rfl ⟨rfl, ?_⟩
    exact ((((((Mod.refl _ _).alloc _).alloc _).and hm).drewN _).setCell _ _ (.inr (by simp))).setCell _ _ (.inr (by simp))
theorem RPack_far (s q r n : Int) (w : World) (HC : ∀ w, Calls Try.prog 12 #[.agg #[.int .i64 s, .int .i64 q, .int .i64 r, .int .i64 n]] w fun e w' => e = .returned (.int .i64 0) ∧ Mod (fun _ => False) w w')
    (hf : ¬ (s < 1099511627776 ∧ q < 1099511627776 ∧ n < 68719476736)) : Calls Try.prog 19 #[.agg #[.int .i64 s, .int .i64 q, .int .i64 r, .int .i64 n]] w fun e w' => e = .returned (.tuple #[.agg #[.int .u64 0, .int .u64 0], .int .i64 9]) ∧ Mod (fun _ => False) w w' := by
  rcases (show 1099511627776 ≤ s ∨ (¬ 1099511627776 ≤ s ∧ 1099511627776 ≤ q) ∨ (¬ 1099511627776 ≤ s ∧ ¬ 1099511627776 ≤ q ∧ 68719476736 ≤ n) by omega) with d | ⟨d, d2⟩ | ⟨d, d2, d3⟩
  all_goals
    clear hf
    go_enter Try.func19, Try.ntmps19
    go_wp2_with (fail)
    refine (HC _).mono ?_
    rintro e w' ⟨rfl, hm⟩
    have c0 : w'.cell? ⟨w.heap.size, 0, none⟩ = some (.int .i64 s) := hm.cell (by simp [go_sem]) (fun h => h)
    have c1 : w'.cell? ⟨w.heap.size, 1, none⟩ = some (.int .i64 q) := hm.cell (by simp [go_sem]) (fun h => h)
    have c2 : w'.cell? ⟨w.heap.size, 2, none⟩ = some (.int .i64 r) := hm.cell (by simp [go_sem]) (fun h => h)
    have c3 : w'.cell? ⟨w.heap.size, 3, none⟩ = some (.int .i64 n) := hm.cell (by simp [go_sem]) (fun h => h)
    have e0 : w'.cell? ⟨w.heap.size + 1, 0, none⟩ = some (.int .u64 0) := hm.cell (by simp [go_sem]) (fun h => h)
    have e1 : w'.cell? ⟨w.heap.size + 1, 1, none⟩ = some (.int .u64 0) := hm.cell (by simp [go_sem]) (fun h => h)
    have z0 : w'.frozen? ⟨w.heap.size + 1, 0, none⟩ = false := (hm.frozen (by simp) (fun h => h)).trans (by simp [go_sem])
    have z1 : w'.frozen? ⟨w.heap.size + 1, 1, none⟩ = false := (hm.frozen (by simp) (fun h => h)).trans (by simp [go_sem])
    clear HC
    go_wp2
    refine bodyPost_ret (v := .tuple #[.agg #[.int .u64 0, .int .u64 0], .int .i64 9]) (by simp [results, Try.results19, go_sem, e0, e1]) rfl ⟨rfl, ?_⟩
    exact (((((Mod.refl _ _).alloc _).alloc _).and hm).setCell _ _ (.inr (by simp))).setCell _ _ (.inr (by simp))
theorem RPack_ok (s q r n : Int) (w : World) (HC : ∀ w, Calls Try.prog 12 #[.agg #[.int .i64 s, .int .i64 q, .int .i64 r, .int .i64 n]] w fun e w' => e = .returned (.int .i64 0) ∧ Mod (fun _ => False) w w')
    (hs : 0 ≤ s ∧ s < 1099511627776) (hq : 0 ≤ q ∧ q < 1099511627776) (hr : 0 ≤ r ∧ r ≤ 8) (hn : 0 ≤ n ∧ n < 68719476736) : Calls Try.prog 19 #[.agg #[.int .i64 s, .int .i64 q, .int .i64 r, .int .i64 n]] w fun e w' => e = .returned (.tuple #[.agg #[.int .u64 (ph s q), .int .u64 (pl q r n)], .int .i64 0]) ∧ Mod (fun _ => False) w w' := by
  have ws : IntKind.u64.wrap s = s := by rw [wrap_u64]; omega
  have wq : IntKind.u64.wrap q = q := by rw [wrap_u64]; omega
  have wr : IntKind.u64.wrap r = r := by rw [wrap_u64]; omega
  have wn : IntKind.u64.wrap n = n := by rw [wrap_u64]; omega
  have d : ¬ 1099511627776 ≤ s := by omega
  have d2 : ¬ 1099511627776 ≤ q := by omega
  have d3 : ¬ 68719476736 ≤ n := by omega
  have E1 : IntKind.u64.wrap (IntKind.u64.wrap (s * 65536) + IntKind.u64.wrap (q.tdiv 16777216)) = ph s q := by
    rw [wrap_u64, wrap_u64, wrap_u64, Int.tdiv_eq_ediv_of_nonneg hq.1, ph]; omega
  have E2 : IntKind.u64.wrap (IntKind.u64.wrap (IntKind.u64.wrap (q.tmod 16777216 * 1099511627776) + IntKind.u64.wrap (r * 68719476736)) + n) = pl q r n := by
    rw [wrap_u64, wrap_u64, wrap_u64, wrap_u64, Int.tmod_eq_emod_of_nonneg hq.1, pl]; omega
  generalize ph s q = X at *
  generalize pl q r n = Y at *
  clear hs hq hr hn
  go_enter Try.func19, Try.ntmps19
  go_wp2_with (fail)
  refine (HC _).mono ?_
  rintro e w' ⟨rfl, hm⟩
  have c0 : w'.cell? ⟨w.heap.size, 0, none⟩ = some (.int .i64 s) := hm.cell (by simp [go_sem]) (fun h => h)
  have c1 : w'.cell? ⟨w.heap.size, 1, none⟩ = some (.int .i64 q) := hm.cell (by simp [go_sem]) (fun h => h)
  have c2 : w'.cell? ⟨w.heap.size, 2, none⟩ = some (.int .i64 r) := hm.cell (by simp [go_sem]) (fun h => h)
  have c3 : w'.cell? ⟨w.heap.size, 3, none⟩ = some (.int .i64 n) := hm.cell (by simp [go_sem]) (fun h => h)
  have e0 : w'.cell? ⟨w.heap.size + 1, 0, none⟩ = some (.int .u64 0) := hm.cell (by simp [go_sem]) (fun h => h)
  have e1 : w'.cell? ⟨w.heap.size + 1, 1, none⟩ = some (.int .u64 0) := hm.cell (by simp [go_sem]) (fun h => h)
  have z0 : w'.frozen? ⟨w.heap.size + 1, 0, none⟩ = false := (hm.frozen (by simp) (fun h => h)).trans (by simp [go_sem])
  have z1 : w'.frozen? ⟨w.heap.size + 1, 1, none⟩ = false := (hm.frozen (by simp) (fun h => h)).trans (by simp [go_sem])
  clear HC
  go_wp2
  refine bodyPost_ret (v := .tuple #[.agg #[.int .u64 X, .int .u64 Y], .int .i64 0]) (by simp [results, Try.results19, go_sem, e0, e1]) rfl ⟨rfl, ?_⟩
  exact (((((Mod.refl _ _).alloc _).alloc _).and hm).setCell _ _ (.inr (by simp))).setCell _ _ (.inr (by simp))
theorem pe_two {s q r n : Int} (h : ck s q r n = 2) : pe s q r n = 2 := by rw [pe, if_neg (by omega)]
theorem pe_nine {s q r n : Int} (h : ck s q r n = 0) (h2 : ¬ (s < 1099511627776 ∧ q < 1099511627776 ∧ n < 68719476736)) : pe s q r n = 9 := by rw [pe, if_pos h, if_neg h2]
theorem pe_ok {s q r n : Int} (h : ck s q r n = 0) (h2 : s < 1099511627776 ∧ q < 1099511627776 ∧ n < 68719476736) : pe s q r n = 0 := by rw [pe, if_pos h, if_pos h2]
theorem Pack (s q r n : Int) (w : World) : Calls Try.prog 18 #[.agg #[.int .i64 s, .int .i64 q, .int .i64 r, .int .i64 n]] w fun e w' => e = .returned (.tuple #[.agg #[.int .u64 (px s q r n), .int .u64 (py s q r n)], .int .i64 (pe s q r n)]) ∧ Mod (fun _ => False) w w' := by
  have HC := Check s q r n
  rcases ck_two s q r n with h | h
  · have hz := ck_zero h
    rw [h] at HC
    by_cases h2 : s < 1099511627776 ∧ q < 1099511627776 ∧ n < 68719476736
    · rw [px, py, if_pos (pe_ok h h2), if_pos (pe_ok h h2), pe_ok h h2]
      exact Pack_ok s q r n w HC (by omega) (by omega) (by omega) (by omega)
    · have e9 := pe_nine h h2
      rw [px, py, if_neg (by rw [e9]; decide), if_neg (by rw [e9]; decide), e9]
      exact Pack_far s q r n w HC (by omega) h2
  · rw [h] at HC
    have e2 := pe_two h
    rw [px, py, if_neg (by rw [e2]; decide), if_neg (by rw [e2]; decide), e2]
    exact Pack_no s q r n w HC
theorem RPack (s q r n : Int) (w : World) : Calls Try.prog 19 #[.agg #[.int .i64 s, .int .i64 q, .int .i64 r, .int .i64 n]] w fun e w' => e = .returned (.tuple #[.agg #[.int .u64 (px s q r n), .int .u64 (py s q r n)], .int .i64 (pe s q r n)]) ∧ Mod (fun _ => False) w w' := by
  have HC := RCheck s q r n
  rcases ck_two s q r n with h | h
  · have hz := ck_zero h
    rw [h] at HC
    by_cases h2 : s < 1099511627776 ∧ q < 1099511627776 ∧ n < 68719476736
    · rw [px, py, if_pos (pe_ok h h2), if_pos (pe_ok h h2), pe_ok h h2]
      exact RPack_ok s q r n w HC (by omega) (by omega) (by omega) (by omega)
    · have e9 := pe_nine h h2
      rw [px, py, if_neg (by rw [e9]; decide), if_neg (by rw [e9]; decide), e9]
      exact RPack_far s q r n w HC h2
  · rw [h] at HC
    have e2 := pe_two h
    rw [px, py, if_neg (by rw [e2]; decide), if_neg (by rw [e2]; decide), e2]
    exact RPack_no s q r n w HC
end Go.Proofs.Ytbfgnlpgfjokhaa
