/- The document's Count, Visit and copied. Conditions: sizes that a slice has. -/
import Derived.Test.YtlekmgjjjniomaaUx
namespace Go.Proofs.Ytlekmgjjjniomaa
open Go.RowKit
theorem dCount (c : Int) (w : World) : Calls Try.prog 43 #[.int .i64 c] w fun e w' => e = .returned (.int .i64 (Cr.cn (Cr.lo c) : Int)) ∧ Mod (fun _ => False) w w' := by
  have H := Cr.RList c w
  have hl := lo_cn c
  generalize Cr.ls (Cr.lo c) = L at H hl
  rw [← hl]
  clear hl
  go_enter Try.func43, Try.ntmps43
  go_wp2_with (fail)
  refine H.mono ?_
  rintro e w1 ⟨v, rfl, ho, hm, _⟩
  obtain ⟨ao, cap, rfl, _, _, _, _⟩ := ho.sl
  clear H ho
  go_wp2
  go_ret
  exact ⟨rfl, hm⟩
theorem toC_ok {c : Cm} (h : okC c = true) : toC c = rcv c := by
  have := dC_to c
  rw [h] at this
  simpa [dC, h] using this
set_option maxRecDepth 100000 in
set_option maxHeartbeats 4000000 in
theorem dVisit (w : World) (v : Value) (c : Cm) (node : Int) (h : Cv w v c) (hhp : I64 c.hop) : Calls Try.prog 19 #[v, .int .i64 node] w fun e w' => e = .returned (.int .i64 (vis c node)) ∧ Mod (fun _ => False) w w' := by
  obtain ⟨rs, rr, mm, hp, ce⟩ := c
  obtain ⟨cao, ccap, rfl, hs⟩ := h.form
  simp only at *
  have HC := fun W hs => dCheck19 rs rr mm hp cao ccap ce W hs hhp
  have HT := fun W => dTo rs rr mm hp cao ccap ce W hhp
  have HN := fun W => dCount mm W
  have hM := (Mod.refl (fun _ => False) w).alloc (.cells #[.int .i64 rs, .int .i64 rr, .int .i64 mm, .int .i64 hp, .slice cao ce.length ccap] 26)
  have hB := Bk.new w #[.int .i64 rs, .int .i64 rr, .int .i64 mm, .int .i64 hp, .slice cao ce.length ccap] 26
  replace hs := hs.keep hM
  have hv : vis ⟨rs, rr, mm, hp, ce⟩ node = if okC ⟨rs, rr, mm, hp, ce⟩ = true ∧ node = rcv ⟨rs, rr, mm, hp, ce⟩ then rnd ⟨rs, rr, mm, hp, ce⟩ else 0 := rfl
  have hck : ckC ⟨rs, rr, mm, hp, ce⟩ = if okC ⟨rs, rr, mm, hp, ce⟩ = true then 0 else 2 := rfl
  have hrn : rnd ⟨rs, rr, mm, hp, ce⟩ = if hp < (Cr.cn (Cr.lo mm) : Int) then 1 else if hp < 2 * (Cr.cn (Cr.lo mm) : Int) then 2 else 3 := rfl
  have h8 := cn_le mm
  rw [hck] at HC
  rw [hv]
  clear hv hck h
  by_cases hok : okC ⟨rs, rr, mm, hp, ce⟩ = true
  · rw [toC_ok hok] at HT
    rw [if_pos hok] at HC
    simp only [hok, true_and]
    clear hok
    rw [hrn]
    clear hrn
    generalize Cr.cn (Cr.lo mm) = N at HN h8 ⊢
    generalize rcv ⟨rs, rr, mm, hp, ce⟩ = r at HT ⊢
    by_cases hn : node = r
    · rw [if_pos hn]
      subst hn
      obtain ⟨R, hR⟩ : ∃ R, R = (if hp < (N : Int) then (1 : Int) else if hp < 2 * (N : Int) then 2 else 3) := ⟨_, rfl⟩
      rw [← hR]
      have HR : Hid (R = _) := hR
      clear hR
      go_enter Try.func19, Try.ntmps19
      go_wp2_with (fail)
      refine (HC _ hs).mono ?_
      rintro e w1 ⟨rfl, hm1⟩
      replace hM := hM.and hm1
      replace hB := hB.mod hm1 (fun h => h)
      obtain ⟨a0, a1, a2, a3, a4⟩ := (⟨hB.cellv (j := 0) rfl, hB.cellv (j := 1) rfl, hB.cellv (j := 2) rfl, hB.cellv (j := 3) rfl, hB.cellv (j := 4) rfl⟩ : _ ∧ _ ∧ _ ∧ _ ∧ _)
      clear HC hs hm1
      go_wp2_with (fail)
      refine (HT _).mono ?_
      rintro e w2 ⟨rfl, hm2⟩
      clear a0 a1 a2 a3 a4
      replace hM := hM.and hm2
      replace hB := hB.mod hm2 (fun h => h)
      have a2 := hB.cellv (j := 2) (v := .int .i64 mm) rfl
      have a3 := hB.cellv (j := 3) (v := .int .i64 hp) rfl
      clear HT hm2
      go_wp2_with (fail)
      refine (HN _).mono ?_
      rintro e w3 ⟨rfl, hm3⟩
      clear a2 a3
      replace hM := hM.and hm3
      replace hB := hB.mod hm3 (fun h => h)
      have a2 := hB.cellv (j := 2) (v := .int .i64 mm) rfl
      have a3 := hB.cellv (j := 3) (v := .int .i64 hp) rfl
      clear HN hm3
      by_cases h1 : hp < (N : Int)
      · have e : R = 1 := by rw [HR.out, if_pos h1]
        subst e
        clear HR
        go_wp2
        go_ret
        exact ⟨rfl, hM⟩
      · by_cases h2 : hp < 2 * (N : Int)
        · have e : R = 2 := by rw [HR.out, if_neg h1, if_pos h2]
          subst e
          clear HR
          go_wp2
          go_ret
          exact ⟨rfl, hM⟩
        · have e : R = 3 := by rw [HR.out, if_neg h1, if_neg h2]
          subst e
          clear HR
          go_wp2
          go_ret
          exact ⟨rfl, hM⟩
    · rw [if_neg hn]
      have hnb : (r != node) = true := by simpa using fun h : r = node => hn h.symm
      clear hn HN
      go_enter Try.func19, Try.ntmps19
      go_wp2_with (fail)
      refine (HC _ hs).mono ?_
      rintro e w1 ⟨rfl, hm1⟩
      replace hM := hM.and hm1
      replace hB := hB.mod hm1 (fun h => h)
      obtain ⟨a0, a1, a2, a3, a4⟩ := (⟨hB.cellv (j := 0) rfl, hB.cellv (j := 1) rfl, hB.cellv (j := 2) rfl, hB.cellv (j := 3) rfl, hB.cellv (j := 4) rfl⟩ : _ ∧ _ ∧ _ ∧ _ ∧ _)
      clear HC hs hm1
      go_wp2_with (fail)
      refine (HT _).mono ?_
      rintro e w2 ⟨rfl, hm2⟩
      clear a0 a1 a2 a3 a4
      go_wp2
      go_ret
      exact ⟨rfl, hM.and hm2⟩
  · rw [if_neg hok] at HC
    rw [if_neg (fun h => hok h.1)]
    clear hok HN HT hrn
    go_enter Try.func19, Try.ntmps19
    go_wp2_with (fail)
    refine (HC _ hs).mono ?_
    rintro e w1 ⟨rfl, hm1⟩
    go_wp2
    go_ret
    exact ⟨rfl, hM.and hm1⟩
end Go.Proofs.Ytlekmgjjjniomaa
