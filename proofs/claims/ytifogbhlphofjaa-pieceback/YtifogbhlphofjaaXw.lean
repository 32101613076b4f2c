/- Contract of the statements' works: it is true. No conditions. -/
import Derived.Test.YtifogbhlphofjaaXh
namespace Go.Proofs.Ytifogbhlphofjaa
open Go.RowKit Go.Maps
theorem Jn.cnt {w : World} {p : Nat} {X : Nat → Prop} {J : Sd → Option Pile} {N : Nat} (h : Jn w p X J N) : Cnt J N := by
  obtain ⟨⟨B, V, _, _, _, h4, _⟩, _⟩ := h
  exact h4.cnt
def wm : Ms := ⟨1, 1, 1, 9, 0, 0, 3, false, 0, 0, 0, 0, []⟩
def wm0 : Ms := prt wm 2 (bts 49 7) 0
def wm1 : Ms := prt wm 2 (bts 49 7) 1
theorem wm_isB : isB wm = true := by decide +kernel
theorem wl0 : (chunk (bts 49 7) 0).length = 48 := by decide +kernel
theorem wl1 : (chunk (bts 49 7) 1).length = 1 := by decide +kernel
theorem wO0 : pO (fun _ => none) wm0 = none := by decide +kernel
theorem wE0 : pE wm0 = 0 := by decide +kernel
theorem wO1 : pO (pJ (fun _ => none) wm0) wm1 = some (bts 49 7) := by decide +kernel
theorem wE1 : pE wm1 = 0 := by decide +kernel
theorem wt0 : okT wm0 = true := by decide +kernel
theorem wt1 : okT wm1 = true := by decide +kernel
theorem wf0 : fit (z1 (fun _ => none) wm0) wm0 = true := by decide +kernel
theorem wJ1 : pJ (pJ (fun _ => none) wm0) wm1 = fun _ => none := by
  have h1 : pJ (pJ (fun _ => none) wm0) wm1 = upd (pJ (fun _ => none) wm0) (1, 1) none := by
    unfold pJ
    rw [if_pos wt1]
    have hd : decide (wm1.part + 1 ≠ wm1.parts) = false := by decide +kernel
    unfold aJ
    rw [hd, Bool.and_false]
    rfl
  rw [h1]
  unfold pJ
  rw [if_pos wt0]
  unfold aJ
  funext i
  split
  · unfold upd
    split
    · rfl
    · rename_i h2
      have e : (wm0.origin, wm0.life) = ((1, 1) : Sd) := rfl
      rw [e, if_neg h2]
  · unfold upd
    split
    · rfl
    · split <;> rfl
set_option maxRecDepth 100000 in
set_option maxHeartbeats 2000000 in
theorem works_any (w : World) : Calls Try.prog 15 #[] w fun e w' => e = .returned (.bool true) ∧ Mod (fun _ => False) w w' := by
  have HT := text_any 1 9 w
  go_enter Try.func15, Try.ntmps15
  go_wp2_with (fail)
  refine HT.mono ?_
  rintro e w1 ⟨rfl, hm1⟩
  have HBy := bytes_any 49 7 w1 (by decide)
  go_wp2_with (fail)
  refine HBy.mono ?_
  rintro e w2 ⟨v2, rfl, ho2, hm2, hv2⟩
  obtain ⟨ap, cp, e2⟩ := ho2.shape
  subst e2
  have hr2 := bts_rng 49 7 (by decide)
  have HS := Split_ok 1 1 1 9 0 0 3 false 0 0 0 0 none 0 [] ap cp (bts 49 7) w2 ((Own.nil w2).sl (by simp)) (ho2.sl hr2) wm_isB (by rw [bts_len]; decide)
  have e49 : pcn (bts 49 7).length = 2 := by rw [bts_len]; decide
  rw [e49] at HS
  clear e49
  go_wp2_with (fail)
  refine HS.mono ?_
  rintro e w3 ⟨G, V, Z, rfl, hPa, hG3, hm3⟩
  clear HS HT HBy
  have hM3 := (hm1.trans hm2 (V := fun _ => False) (fun _ _ h => h) (fun _ _ h => h)).trans hm3 (V := fun _ => False) (fun _ _ h => h) (fun _ _ h => h)
  go_wp2_with (fail)
  refine (pNew_any w3).mono ?_
  rintro e w4 ⟨q, X, rfl, hJ4, hm4, hX4⟩
  obtain ⟨ho0, hb0⟩ := hPa.own 0 (by decide)
  obtain ⟨ho1, hb1⟩ := hPa.own 1 (by decide)
  obtain ⟨a0, k0, ev0⟩ := ho0.shape
  obtain ⟨a1, k1, ev1⟩ := ho1.shape
  rw [wl0] at ev0
  rw [wl1] at ev1
  have hcl := hPa.cells
  rw [show (2 : Nat) = 2 from rfl] at hcl
  have hGw4 := hPa.bk.mod hm4 (fun h => h)
  have hlt := hPa.bk.lt
  have hx : ∀ b, X b → w3.heap.size ≤ b := hX4
  have hs0 := (ho0.mod hm4 (fun _ _ h => h)).sl (chunk_rng hr2 0)
  have hs1 := (ho1.mod hm4 (fun _ _ h => h)).sl (chunk_rng hr2 1)
  have hn0 : ∀ b, (V 0).ownBlock = some b → ¬ X b := fun b hb hh => absurd (ho0.lt b hb) (Nat.not_lt.2 (hX4 b hh))
  have hn1 : ∀ b, (V 1).ownBlock = some b → b < w3.heap.size := fun b hb => ho1.lt b hb
  rw [ev0] at hs0 hn0
  rw [ev1] at hs1 hn1
  have HP0 := Put_any 1 1 1 9 0 2 3 false 0 0 0 0 a0 k0 (chunk (bts 49 7) 0) hJ4 OkJ.zero (by rw [wl0]; exact hs0) (by decide) (fun _ => by rw [wl0]; exact hn0)
  have eM0 : (⟨1, 1, 1, 9, 0, 2, 3, false, 0, 0, 0, 0, chunk (bts 49 7) 0⟩ : Ms) = wm0 := rfl
  rw [eM0, wl0, wO0, wE0] at HP0
  clear eM0
  have p0 : w4.cell? ⟨G, 0, none⟩ = some (.int .i64 1) := by
    refine hGw4.cellv (j := 0) ?_
    have h := hcl 0 (by decide) 0 ((mcl (prt wm 2 (bts 49 7) 0) (V 0)).getD 0 undef) (by rfl)
    first | exact h | (rw [ev0] at h; exact h)
  have p1 : w4.cell? ⟨G, 1, none⟩ = some (.int .i64 1) := by
    refine hGw4.cellv (j := 1) ?_
    have h := hcl 0 (by decide) 1 ((mcl (prt wm 2 (bts 49 7) 0) (V 0)).getD 1 undef) (by rfl)
    first | exact h | (rw [ev0] at h; exact h)
  have p2 : w4.cell? ⟨G, 2, none⟩ = some (.int .i64 1) := by
    refine hGw4.cellv (j := 2) ?_
    have h := hcl 0 (by decide) 2 ((mcl (prt wm 2 (bts 49 7) 0) (V 0)).getD 2 undef) (by rfl)
    first | exact h | (rw [ev0] at h; exact h)
  have p3 : w4.cell? ⟨G, 3, none⟩ = some (.int .i64 9) := by
    refine hGw4.cellv (j := 3) ?_
    have h := hcl 0 (by decide) 3 ((mcl (prt wm 2 (bts 49 7) 0) (V 0)).getD 3 undef) (by rfl)
    first | exact h | (rw [ev0] at h; exact h)
  have p4 : w4.cell? ⟨G, 4, none⟩ = some (.int .i64 0) := by
    refine hGw4.cellv (j := 4) ?_
    have h := hcl 0 (by decide) 4 ((mcl (prt wm 2 (bts 49 7) 0) (V 0)).getD 4 undef) (by rfl)
    first | exact h | (rw [ev0] at h; exact h)
  have p5 : w4.cell? ⟨G, 5, none⟩ = some (.int .i64 2) := by
    refine hGw4.cellv (j := 5) ?_
    have h := hcl 0 (by decide) 5 ((mcl (prt wm 2 (bts 49 7) 0) (V 0)).getD 5 undef) (by rfl)
    first | exact h | (rw [ev0] at h; exact h)
  have p6 : w4.cell? ⟨G, 6, none⟩ = some (.int .i64 3) := by
    refine hGw4.cellv (j := 6) ?_
    have h := hcl 0 (by decide) 6 ((mcl (prt wm 2 (bts 49 7) 0) (V 0)).getD 6 undef) (by rfl)
    first | exact h | (rw [ev0] at h; exact h)
  have p7 : w4.cell? ⟨G, 7, none⟩ = some (.bool false) := by
    refine hGw4.cellv (j := 7) ?_
    have h := hcl 0 (by decide) 7 ((mcl (prt wm 2 (bts 49 7) 0) (V 0)).getD 7 undef) (by rfl)
    first | exact h | (rw [ev0] at h; exact h)
  have p8 : w4.cell? ⟨G, 8, none⟩ = some (.int .i64 0) := by
    refine hGw4.cellv (j := 8) ?_
    have h := hcl 0 (by decide) 8 ((mcl (prt wm 2 (bts 49 7) 0) (V 0)).getD 8 undef) (by rfl)
    first | exact h | (rw [ev0] at h; exact h)
  have p9 : w4.cell? ⟨G, 9, none⟩ = some (.int .i64 0) := by
    refine hGw4.cellv (j := 9) ?_
    have h := hcl 0 (by decide) 9 ((mcl (prt wm 2 (bts 49 7) 0) (V 0)).getD 9 undef) (by rfl)
    first | exact h | (rw [ev0] at h; exact h)
  have p10 : w4.cell? ⟨G, 10, none⟩ = some (.int .i64 0) := by
    refine hGw4.cellv (j := 10) ?_
    have h := hcl 0 (by decide) 10 ((mcl (prt wm 2 (bts 49 7) 0) (V 0)).getD 10 undef) (by rfl)
    first | exact h | (rw [ev0] at h; exact h)
  have p11 : w4.cell? ⟨G, 11, none⟩ = some (.int .i64 0) := by
    refine hGw4.cellv (j := 11) ?_
    have h := hcl 0 (by decide) 11 ((mcl (prt wm 2 (bts 49 7) 0) (V 0)).getD 11 undef) (by rfl)
    first | exact h | (rw [ev0] at h; exact h)
  have p12 : w4.cell? ⟨G, 12, none⟩ = some (.slice a0 48 k0) := by
    refine hGw4.cellv (j := 12) ?_
    have h := hcl 0 (by decide) 12 ((mcl (prt wm 2 (bts 49 7) 0) (V 0)).getD 12 undef) (by rfl)
    first | exact h | (rw [ev0] at h; exact h)
  have r3 : w4.cell? ⟨G, 16, none⟩ = some (.int .i64 9) := by
    refine hGw4.cellv (j := 16) ?_
    have h := hcl 1 (by decide) 3 ((mcl (prt wm 2 (bts 49 7) 1) (V 1)).getD 3 undef) (by rfl)
    first | exact h | (rw [ev1] at h; exact h)
  have r4 : w4.cell? ⟨G, 17, none⟩ = some (.int .i64 1) := by
    refine hGw4.cellv (j := 17) ?_
    have h := hcl 1 (by decide) 4 ((mcl (prt wm 2 (bts 49 7) 1) (V 1)).getD 4 undef) (by rfl)
    first | exact h | (rw [ev1] at h; exact h)
  have r5 : w4.cell? ⟨G, 18, none⟩ = some (.int .i64 2) := by
    refine hGw4.cellv (j := 18) ?_
    have h := hcl 1 (by decide) 5 ((mcl (prt wm 2 (bts 49 7) 1) (V 1)).getD 5 undef) (by rfl)
    first | exact h | (rw [ev1] at h; exact h)
  go_wp2_with (fail)
  refine HP0.mono ?_
  rintro e w5 ⟨X5, N5, hJ5, hN5, hG5, hM5, ⟨_, rfl⟩ | ⟨L, u, hO, _⟩⟩
  · have hXG : ¬ X G := fun hh => absurd hlt (Nat.not_lt.2 (hX4 G hh))
    have hGw5 := hGw4.mod hM5 hXG
    clear p0 p1 p2 p3 p4 p5 p6 p7 p8 p9 p10 p11 p12 r3 r4 r5 HP0
    have hn15 : ∀ b, (Value.slice a1 1 k1).ownBlock = some b → ¬ X b := fun b hb hh => absurd (hn1 b hb) (Nat.not_lt.2 (hX4 b hh))
    have hs15 := hs1.mod hM5 hn15
    have hlt4 : w3.heap.size ≤ w4.heap.size := hm4.size
    have hn1' : ∀ b, (Value.slice a1 1 k1).ownBlock = some b → ¬ X5 b := fun b hb hh => by
      rcases hG5 b hh with h | h
      · exact hn15 b hb h
      · exact absurd (hn1 b hb) (Nat.not_lt.2 (Nat.le_trans hlt4 h))
    have HP1 := Put_any 1 1 1 9 1 2 3 false 0 0 0 0 a1 k1 (chunk (bts 49 7) 1) hJ5 (OkJ.zero.put wm0) (by rw [wl1]; exact hs15) (by omega) (fun _ => by rw [wl1]; exact hn1')
    have eM1 : (⟨1, 1, 1, 9, 1, 2, 3, false, 0, 0, 0, 0, chunk (bts 49 7) 1⟩ : Ms) = wm1 := rfl
    rw [eM1, wl1, wO1, wE1, wJ1] at HP1
    clear eM1
    have r0 : w5.cell? ⟨G, 13, none⟩ = some (.int .i64 1) := by
      refine hGw5.cellv (j := 13) ?_
      have h := hcl 1 (by decide) 0 ((mcl (prt wm 2 (bts 49 7) 1) (V 1)).getD 0 undef) (by rfl)
      first | exact h | (rw [ev1] at h; exact h)
    have r1 : w5.cell? ⟨G, 14, none⟩ = some (.int .i64 1) := by
      refine hGw5.cellv (j := 14) ?_
      have h := hcl 1 (by decide) 1 ((mcl (prt wm 2 (bts 49 7) 1) (V 1)).getD 1 undef) (by rfl)
      first | exact h | (rw [ev1] at h; exact h)
    have r2 : w5.cell? ⟨G, 15, none⟩ = some (.int .i64 1) := by
      refine hGw5.cellv (j := 15) ?_
      have h := hcl 1 (by decide) 2 ((mcl (prt wm 2 (bts 49 7) 1) (V 1)).getD 2 undef) (by rfl)
      first | exact h | (rw [ev1] at h; exact h)
    have r3 : w5.cell? ⟨G, 16, none⟩ = some (.int .i64 9) := by
      refine hGw5.cellv (j := 16) ?_
      have h := hcl 1 (by decide) 3 ((mcl (prt wm 2 (bts 49 7) 1) (V 1)).getD 3 undef) (by rfl)
      first | exact h | (rw [ev1] at h; exact h)
    have r4 : w5.cell? ⟨G, 17, none⟩ = some (.int .i64 1) := by
      refine hGw5.cellv (j := 17) ?_
      have h := hcl 1 (by decide) 4 ((mcl (prt wm 2 (bts 49 7) 1) (V 1)).getD 4 undef) (by rfl)
      first | exact h | (rw [ev1] at h; exact h)
    have r5 : w5.cell? ⟨G, 18, none⟩ = some (.int .i64 2) := by
      refine hGw5.cellv (j := 18) ?_
      have h := hcl 1 (by decide) 5 ((mcl (prt wm 2 (bts 49 7) 1) (V 1)).getD 5 undef) (by rfl)
      first | exact h | (rw [ev1] at h; exact h)
    have r6 : w5.cell? ⟨G, 19, none⟩ = some (.int .i64 3) := by
      refine hGw5.cellv (j := 19) ?_
      have h := hcl 1 (by decide) 6 ((mcl (prt wm 2 (bts 49 7) 1) (V 1)).getD 6 undef) (by rfl)
      first | exact h | (rw [ev1] at h; exact h)
    have r7 : w5.cell? ⟨G, 20, none⟩ = some (.bool false) := by
      refine hGw5.cellv (j := 20) ?_
      have h := hcl 1 (by decide) 7 ((mcl (prt wm 2 (bts 49 7) 1) (V 1)).getD 7 undef) (by rfl)
      first | exact h | (rw [ev1] at h; exact h)
    have r8 : w5.cell? ⟨G, 21, none⟩ = some (.int .i64 0) := by
      refine hGw5.cellv (j := 21) ?_
      have h := hcl 1 (by decide) 8 ((mcl (prt wm 2 (bts 49 7) 1) (V 1)).getD 8 undef) (by rfl)
      first | exact h | (rw [ev1] at h; exact h)
    have r9 : w5.cell? ⟨G, 22, none⟩ = some (.int .i64 0) := by
      refine hGw5.cellv (j := 22) ?_
      have h := hcl 1 (by decide) 9 ((mcl (prt wm 2 (bts 49 7) 1) (V 1)).getD 9 undef) (by rfl)
      first | exact h | (rw [ev1] at h; exact h)
    have r10 : w5.cell? ⟨G, 23, none⟩ = some (.int .i64 0) := by
      refine hGw5.cellv (j := 23) ?_
      have h := hcl 1 (by decide) 10 ((mcl (prt wm 2 (bts 49 7) 1) (V 1)).getD 10 undef) (by rfl)
      first | exact h | (rw [ev1] at h; exact h)
    have r11 : w5.cell? ⟨G, 24, none⟩ = some (.int .i64 0) := by
      refine hGw5.cellv (j := 24) ?_
      have h := hcl 1 (by decide) 11 ((mcl (prt wm 2 (bts 49 7) 1) (V 1)).getD 11 undef) (by rfl)
      first | exact h | (rw [ev1] at h; exact h)
    have r12 : w5.cell? ⟨G, 25, none⟩ = some (.slice a1 1 k1) := by
      refine hGw5.cellv (j := 25) ?_
      have h := hcl 1 (by decide) 12 ((mcl (prt wm 2 (bts 49 7) 1) (V 1)).getD 12 undef) (by rfl)
      first | exact h | (rw [ev1] at h; exact h)
    go_wp2_with (fail)
    refine HP1.mono ?_
    rintro e w6 ⟨X6, N6, hJ6, hN6, hG6, hM6, ⟨hO, _⟩ | ⟨L, u, hO, rfl, hu6, hur6, hub6⟩⟩
    · cases hO
    · cases hO
      clear r0 r1 r2 r3 r4 r5 r6 r7 r8 r9 r10 r11 r12 HP1
      obtain rfl : N6 = 0 := hJ6.cnt.uniq Cnt.zero
      have HBy := bytes_any 49 7 w6 (by decide)
      obtain ⟨au, ku, eu⟩ := hu6.shape
      subst eu
      go_wp2_with (fail)
      refine HBy.mono ?_
      rintro e w7 ⟨v7, rfl, ho7, hm7, hv7⟩
      obtain ⟨a7, k7, e7⟩ := ho7.shape
      subst e7
      have HE := EqBytes_any _ _ _ _ w7 ((hu6.mod hm7 (fun _ _ h => h)).sl hur6) (ho7.sl hr2)
      simp only [decide_true] at HE
      have HW : ∀ W, Mod (fun _ => False) w7 W → _ := fun W (hm : Mod (fun _ => False) w7 W) => Wait_any ((hJ6.mod hm7 (fun _ _ h => h)).mod hm (fun _ _ h => h))
      go_wp2_with (first | (go_at_call 14; refine HE.mono ?_; rintro e w8 ⟨rfl, hm8⟩; replace HW := HW w8 hm8) | (go_at_call 20; refine HW.mono ?_; rintro e w9 ⟨rfl, rfl⟩))
      go_ret
      refine ⟨by simp, ((hM3.trans hm4 (V := fun _ => False) (fun _ _ h => h) (fun _ _ h => h)).trans (hM5.trans (hM6.trans (hm7.trans hm8 (V := fun _ => False) (fun _ _ h => h) (fun _ _ h => h)) (V := X5) (fun _ _ h => h) (fun _ _ h => h.elim)) (V := fun b => X b ∨ X5 b) (fun _ _ h => .inl h) (fun _ _ h => .inr h)) (V := fun _ => False) (fun _ _ h => h) ?_)⟩
      intro b hb hh
      have q1 := hM3.size
      rcases hh with hh | hh
      · exact absurd (Nat.lt_of_lt_of_le hb q1) (Nat.not_lt.2 (hX4 b hh))
      · rcases hG5 b hh with h | h
        · exact absurd (Nat.lt_of_lt_of_le hb q1) (Nat.not_lt.2 (hX4 b h))
        · exact absurd (Nat.lt_of_lt_of_le hb q1) (Nat.not_lt.2 (Nat.le_trans hlt4 h))
  · cases hO
end Go.Proofs.Ytifogbhlphofjaa
