/- Contracts of isWrong and of ContainsFunc over it: whether messages may not be. No conditions beyond sizes that a slice has. -/
import Derived.Test.YtcedlpjjldmpfaaQb
namespace Go.Proofs.Ytcedlpjjldmpfaa
open Go.RowKit
theorem range13 {w : World} {b o : Nat} {k og lf i p ps g : Int} {s : Bool} {st rs rr sq : Int} {l : List Int} {v : Value} (h : w.rangeAt b o (mcl ⟨k, og, lf, i, p, ps, g, s, st, rs, rr, sq, l⟩ v)) :
    w.cell? ⟨b, o, none⟩ = some (.int .i64 k) ∧ w.cell? ⟨b, o + 1, none⟩ = some (.int .i64 og) ∧ w.cell? ⟨b, o + 2, none⟩ = some (.int .i64 lf) ∧ w.cell? ⟨b, o + 3, none⟩ = some (.int .i64 i) ∧ w.cell? ⟨b, o + 4, none⟩ = some (.int .i64 p) ∧ w.cell? ⟨b, o + 5, none⟩ = some (.int .i64 ps) ∧ w.cell? ⟨b, o + 6, none⟩ = some (.int .i64 g) ∧ w.cell? ⟨b, o + 7, none⟩ = some (.bool s) ∧ w.cell? ⟨b, o + 8, none⟩ = some (.int .i64 st) ∧ w.cell? ⟨b, o + 9, none⟩ = some (.int .i64 rs) ∧ w.cell? ⟨b, o + 10, none⟩ = some (.int .i64 rr) ∧ w.cell? ⟨b, o + 11, none⟩ = some (.int .i64 sq) ∧ w.cell? ⟨b, o + 12, none⟩ = some v :=
  ⟨h 0 _ rfl, h 1 _ rfl, h 2 _ rfl, h 3 _ rfl, h 4 _ rfl, h 5 _ rfl, h 6 _ rfl, h 7 _ rfl, h 8 _ rfl, h 9 _ rfl, h 10 _ rfl, h 11 _ rfl, h 12 _ rfl⟩
theorem range_mod {S : Nat → Prop} {w w' : World} {b o : Nat} {l : List Value} (h : w.rangeAt b o l) (hm : Mod S w w') (hb : ¬ S b) : w'.rangeAt b o l := fun t c hct => hm.cell (h t c hct) hb
/-- Messages stay what they are. -/
theorem Mgs.mod {S : Nat → Prop} {w w' : World} {v : Value} {ds : List (Ms × Value)} (h : Mgs w v ds) (hm : Mod S w w') (hv : ∀ b, b < w.heap.size → ¬ S b) : Mgs w' v ds := by
  obtain ⟨ao, cap, rfl, h1, h2⟩ := h.form
  refine ⟨⟨ao, cap, rfl, h1, fun hne => ?_⟩, fun d hd => ⟨(h.each d hd).1.mod2 hm (fun hl b hb => hv b ((h.each d hd).1.lt hl b hb)), (h.each d hd).2⟩⟩
  obtain ⟨b, off, rfl, hc⟩ := h2 hne
  refine ⟨b, off, rfl, fun i d hd => range_mod (hc i d hd) hm (hv b ?_)⟩
  exact World.block_lt_of_cell? w _ (hc i d hd 0 _ rfl)
/-- Whether one of them may not be. -/
def bd (ds : List (Ms × Value)) : Bool := ds.any fun d => decide (chk d.1 ≠ 0)
theorem bd_at {ds : List (Ms × Value)} {j : Nat} {d : Ms × Value} (h : ds[j]? = some d) (hc : chk d.1 ≠ 0) : bd ds = true := by
  unfold bd
  rw [List.any_eq_true]
  exact ⟨d, List.mem_of_getElem? h, by simpa using hc⟩
theorem bd_none {ds : List (Ms × Value)} (h : ∀ (i : Nat) (d : Ms × Value), ds[i]? = some d → chk d.1 = 0) : bd ds = false := by
  unfold bd
  rw [List.any_eq_false]
  intro d hd
  obtain ⟨i, hi, e⟩ := List.getElem_of_mem hd
  have := h i d (by rw [List.getElem?_eq_getElem hi, e])
  simp [this]
theorem bd_all {ds : List (Ms × Value)} (h : bd ds = false) : ∀ d ∈ ds, chk d.1 = 0 := fun d hd => by
  unfold bd at h
  rw [List.any_eq_false] at h
  have := h d hd
  simpa using this
set_option maxRecDepth 100000 in
theorem isWrong_any (k o lf i p ps g : Int) (s : Bool) (st rs rr sq : Int) (ao : Option Addr) (cap : Nat) (l : List Int) (w : World) (hs : Sl w (.slice ao l.length cap) l) : Calls Try.prog 27 #[.agg #[.int .i64 k, .int .i64 o, .int .i64 lf, .int .i64 i, .int .i64 p, .int .i64 ps, .int .i64 g, .bool s, .int .i64 st, .int .i64 rs, .int .i64 rr, .int .i64 sq, .slice ao l.length cap]] w fun e w' => e = .returned (.bool (decide (chk ⟨k, o, lf, i, p, ps, g, s, st, rs, rr, sq, l⟩ ≠ 0))) ∧ Mod (fun _ => False) w w' := by
  have hA := (Mod.refl (fun _ => False) w).alloc (.cells #[.int .i64 k, .int .i64 o, .int .i64 lf, .int .i64 i, .int .i64 p, .int .i64 ps, .int .i64 g, .bool s, .int .i64 st, .int .i64 rs, .int .i64 rr, .int .i64 sq, .slice ao l.length cap] 40)
  have HC := Check_any k o lf i p ps g s st rs rr sq ao cap l _ (hs.mod hA (fun _ _ h => h))
  generalize chk ⟨k, o, lf, i, p, ps, g, s, st, rs, rr, sq, l⟩ = E at HC ⊢
  have e0 : (E != 0) = decide (E ≠ 0) := by by_cases h : E = 0 <;> simp [h]
  rw [← e0]
  go_enter Try.func27, Try.ntmps27
  go_wp2_with (fail)
  refine HC.mono ?_
  rintro e w1 ⟨rfl, hm1⟩
  go_wp2
  go_ret
  exact ⟨rfl, hA.trans hm1 (fun _ _ h => h) (fun _ _ h => h)⟩
set_option maxRecDepth 100000 in
set_option maxHeartbeats 2000000 in
theorem index_any (va : Value) (ds : List (Ms × Value)) (w : World) (hD : Mgs w va ds) : Calls Try.prog 35 #[va, .func (Fn.func 27) #[] #[]] w fun e w' => ∃ z, e = .returned (.int .i64 z) ∧ decide (0 ≤ z) = bd ds ∧ Mod (fun _ => False) w w' := by
  obtain ⟨av, cv, rfl, hlen, hfm⟩ := hD.form
  have hlen' : (ds.length : Int) ≤ 140737488355327 := by omega
  go_enter Try.func35, Try.ntmps35
  go_wp2_with (fail)
  go_loopw [5, 8] (fun _ ci wr => ∃ (j : Nat), ci = .int .i64 (j : Int) ∧ j ≤ ds.length ∧ Hid (∀ i d, i < j → ds[i]? = some d → chk d.1 = 0) ∧ Mod (fun _ => False) w wr) (fun _ ci _ => ds.length - (intOf ci).toNat)
  case atStart => exact ⟨0, rfl, Nat.zero_le _, fun i d h => absurd h (Nat.not_lt_zero _), Mod.refl _ w⟩
  case round =>
    obtain ⟨j, rfl, hj, HJ, hMr⟩ := hrel
    by_cases hjn : j < ds.length
    · have hjn' : (j : Int) < (ds.length : Int) := by go_light; omega
      have hjb' : (j : Int) < 140737488355327 := by go_light; omega
      obtain ⟨d, hdj⟩ : ∃ d, ds[j]? = some d := ⟨ds[j], List.getElem?_eq_getElem hjn⟩
      obtain ⟨b, off, rfl, hc⟩ := hfm (by intro e; rw [e] at hjn; exact absurd hjn (Nat.not_lt_zero _))
      have hrg := range_mod (hc j d hdj) hMr (fun h => h)
      have hsl := (hD.each d (List.mem_of_getElem? hdj)).1.mod hMr (fun _ _ h => h)
      have HDJ : Hid (ds[j]? = some d) := hdj
      clear hdj hc hfm hD
      obtain ⟨⟨k, o, lf, i, p, ps, g, s, st, rs, rr, sq, l⟩, dv⟩ := d
      replace hsl : Sl wr dv l := hsl
      obtain ⟨ao, cap, rfl, _⟩ := hsl.form
      obtain ⟨c0, c1, c2, c3, c4, c5, c6, c7, c8, c9, c10, c11, c12⟩ := range13 hrg
      have HW := isWrong_any k o lf i p ps g s st rs rr sq ao cap l wr hsl
      clear hrg hsl
      by_cases hE : chk ⟨k, o, lf, i, p, ps, g, s, st, rs, rr, sq, l⟩ = 0
      · have ed : decide (chk ⟨k, o, lf, i, p, ps, g, s, st, rs, rr, sq, l⟩ ≠ 0) = false := by simp [hE]
        rw [ed] at HW
        have HE : Hid (chk ⟨k, o, lf, i, p, ps, g, s, st, rs, rr, sq, l⟩ = 0) := hE
        clear hE ed
        go_wp2_with (fail)
        refine HW.mono ?_
        rintro e w1 ⟨rfl, hm1⟩
        clear HW c0 c1 c2 c3 c4 c5 c6 c7 c8 c9 c10 c11 c12
        go_wp2_with (fail)
        have HJ2 : Hid (∀ i d, i < j + 1 → ds[i]? = some d → chk d.1 = 0) := by
          intro i' d' hi' hd'
          by_cases e : i' = j
          · subst e
            have q := HDJ.out
            rw [q] at hd'
            cases hd'
            exact HE.out
          · exact HJ.out i' d' (by omega) hd'
        go_roundw
        case rel => exact ⟨j + 1, by go_num, hjn, HJ2, hMr.trans hm1 (fun _ _ h => h) (fun _ _ h => h)⟩
        case measure => simp [intOf]; go_light; omega
      · have ed : decide (chk ⟨k, o, lf, i, p, ps, g, s, st, rs, rr, sq, l⟩ ≠ 0) = true := by simp [hE]
        rw [ed] at HW
        have HB : Hid (bd ds = true) := bd_at HDJ.out hE
        clear hE ed
        go_wp2_with (fail)
        refine HW.mono ?_
        rintro e w1 ⟨rfl, hm1⟩
        clear HW c0 c1 c2 c3 c4 c5 c6 c7 c8 c9 c10 c11 c12
        go_wp2_with (fail)
        go_ret
        exact ⟨_, rfl, by rw [HB.out]; simp, hMr.trans hm1 (fun _ _ h => h) (fun _ _ h => h)⟩
    · have ej : j = ds.length := by go_light; omega
      subst ej
      go_wp2_with (fail)
      go_ret
      exact ⟨-1, rfl, by rw [bd_none (fun i d h => HJ.out i d (by
        rcases Nat.lt_or_ge i ds.length with h' | h'
        · exact h'
        · rw [List.getElem?_eq_none h'] at h; cases h) h)]; rfl, hMr⟩
theorem contains_any (va : Value) (ds : List (Ms × Value)) (w : World) (hD : Mgs w va ds) : Calls Try.prog 26 #[va, .func (Fn.func 27) #[] #[]] w fun e w' => e = .returned (.bool (bd ds)) ∧ Mod (fun _ => False) w w' := by
  have HI := index_any va ds w hD
  obtain ⟨av, cv, rfl, hlen, hfm⟩ := hD.form
  clear hfm hD
  go_enter Try.func26, Try.ntmps26
  go_wp2_with (fail)
  refine HI.mono ?_
  rintro e w1 ⟨z, rfl, hz, hm1⟩
  go_wp2
  go_ret
  exact ⟨rfl, hm1⟩
end Go.Proofs.Ytcedlpjjldmpfaa
