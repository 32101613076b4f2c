/- Contract of the document's Old. Conditions: sizes that a slice of bytes has. -/
import Derived.Test.YthiijonmnebjgaaGreatRo
import Derived.Deep.RegionHeld3
namespace Go.Proofs.YthiijonmnebjgaaGreat
open Go.RowKit
/-- Old's answer, by what is asked in turn. -/
def oldc (rz : Bool) (c1 ds : Int) (c2 c3 c4 : Bool) (E k : Int) : Int := if (rz = false ∧ c1 = 0 ∧ ¬ ds < 1 ∧ c2 = true ∧ c3 = true ∧ c4 = true ∧ E = 0 ∧ k ≠ 5) then 0 else 2
set_option maxRecDepth 100000 in
set_option maxHeartbeats 8000000 in
theorem dOld (dq dr ds dn dt : Int) (k o lf i p ps g : Int) (s : Bool) (st rs rr sq : Int) (ao : Option Addr) (cap : Nat) (l : List Int) (w : World) (hs : Sl w (.slice ao l.length cap) l) :
    Calls Tryz.prog 35 #[.agg #[.int .i64 dq, .int .i64 dr, .int .i64 ds, .int .i64 dn, .int .i64 dt, .int .i64 k, .int .i64 o, .int .i64 lf, .int .i64 i, .int .i64 p, .int .i64 ps, .int .i64 g, .bool s, .int .i64 st, .int .i64 rs, .int .i64 rr, .int .i64 sq, (.slice ao l.length cap)]] w fun e w' => ∃ k' o' lf' i' p' ps' g' s' st' rs' rr' sq' bv', e = .returned (.tuple #[.agg #[.int .i64 k', .int .i64 o', .int .i64 lf', .int .i64 i', .int .i64 p', .int .i64 ps', .int .i64 g', .bool s', .int .i64 st', .int .i64 rs', .int .i64 rr', .int .i64 sq', bv'], .int .i64 (olE dt dq dr ds dn ⟨k, o, lf, i, p, ps, g, s, st, rs, rr, sq, l⟩)]) ∧ Mod (fun _ => False) w w' ∧
      (olE dt dq dr ds dn ⟨k, o, lf, i, p, ps, g, s, st, rs, rr, sq, l⟩ = 0 → (k' = 5 ∧ o' = dn ∧ lf' = 0 ∧ i' = dn ∧ p' = 0 ∧ ps' = 0 ∧ g' = 0 ∧ s' = false ∧ st' = dt ∧ rs' = dq ∧ rr' = dr ∧ sq' = ds) ∧ Own w' bv' (pk ⟨k, o, lf, i, p, ps, g, s, st, rs, rr, sq, l⟩) ∧ (∀ g, bv'.ownBlock = some g → w.heap.size ≤ g)) ∧
      (olE dt dq dr ds dn ⟨k, o, lf, i, p, ps, g, s, st, rs, rr, sq, l⟩ ≠ 0 → (k' = 0 ∧ o' = 0 ∧ lf' = 0 ∧ i' = 0 ∧ p' = 0 ∧ ps' = 0 ∧ g' = 0 ∧ s' = false ∧ st' = 0 ∧ rs' = 0 ∧ rr' = 0 ∧ sq' = 0 ∧ bv' = .slice none 0 0))  := by
  have hA := ((Mod.refl (fun _ => False) w).alloc (.cells #[.int .i64 dq, .int .i64 dr, .int .i64 ds, .int .i64 dn, .int .i64 dt, .int .i64 k, .int .i64 o, .int .i64 lf, .int .i64 i, .int .i64 p, .int .i64 ps, .int .i64 g, .bool s, .int .i64 st, .int .i64 rs, .int .i64 rr, .int .i64 sq, (.slice ao l.length cap)] 45)).alloc (.cells #[.int .i64 0, .int .i64 0, .int .i64 0, .int .i64 0, .int .i64 0, .int .i64 0, .int .i64 0, .bool false, .int .i64 0, .int .i64 0, .int .i64 0, .int .i64 0, (.slice none 0 0)] 43)
  have hB0 := Bk.new (w.alloc (.cells #[.int .i64 dq, .int .i64 dr, .int .i64 ds, .int .i64 dn, .int .i64 dt, .int .i64 k, .int .i64 o, .int .i64 lf, .int .i64 i, .int .i64 p, .int .i64 ps, .int .i64 g, .bool s, .int .i64 st, .int .i64 rs, .int .i64 rr, .int .i64 sq, (.slice ao l.length cap)] 45)) #[.int .i64 0, .int .i64 0, .int .i64 0, .int .i64 0, .int .i64 0, .int .i64 0, .int .i64 0, .bool false, .int .i64 0, .int .i64 0, .int .i64 0, .int .i64 0, (.slice none 0 0)] 43
  rw [show (w.alloc (.cells #[.int .i64 dq, .int .i64 dr, .int .i64 ds, .int .i64 dn, .int .i64 dt, .int .i64 k, .int .i64 o, .int .i64 lf, .int .i64 i, .int .i64 p, .int .i64 ps, .int .i64 g, .bool s, .int .i64 st, .int .i64 rs, .int .i64 rr, .int .i64 sq, (.slice ao l.length cap)] 45)).heap.size = w.heap.size + 1 from by simp] at hB0
  have hd0 := (DB.new w dq dr ds dn dt k o lf i p ps g s st rs rr sq (.slice ao l.length cap)).mod ((Mod.refl (fun _ => False) _).alloc (.cells #[.int .i64 0, .int .i64 0, .int .i64 0, .int .i64 0, .int .i64 0, .int .i64 0, .int .i64 0, .bool false, .int .i64 0, .int .i64 0, .int .i64 0, .int .i64 0, (.slice none 0 0)] 43)) (fun h => h)
  have hs0 := hs.mod hA (fun _ _ h => h)
  have hoc := @old_chk dt dq dr ds dn ⟨k, o, lf, i, p, ps, g, s, st, rs, rr, sq, l⟩ hs.rng
  have hoe : olE dt dq dr ds dn ⟨k, o, lf, i, p, ps, g, s, st, rs, rr, sq, l⟩ = if chk ⟨k, o, lf, i, p, ps, g, s, st, rs, rr, sq, l⟩ = 0 ∧ chk (od5 dt dq dr ds dn ⟨k, o, lf, i, p, ps, g, s, st, rs, rr, sq, l⟩) = 0 then 0 else 2 := rfl
  have hol : olE dt dq dr ds dn ⟨k, o, lf, i, p, ps, g, s, st, rs, rr, sq, l⟩ = if ((decide (dq = 0) && decide (dr = 0)) = false ∧ cr dq dr = 0 ∧ ¬ ds < 1 ∧ nm ds = true ∧ nd dn = true ∧ nm dt = true ∧ chk ⟨k, o, lf, i, p, ps, g, s, st, rs, rr, sq, l⟩ = 0 ∧ k ≠ 5) then 0 else 2 := by
    have hzz : ¬ (dq = 0 ∧ dr = 0) ↔ (decide (dq = 0) && decide (dr = 0)) = false := by simp
    rw [hoe]
    by_cases hc : chk ⟨k, o, lf, i, p, ps, g, s, st, rs, rr, sq, l⟩ = 0
    · have := hoc hc
      simp only [isr, Bool.and_eq_true, decide_eq_true_eq, beq_iff_eq] at this
      by_cases h2 : chk (od5 dt dq dr ds dn ⟨k, o, lf, i, p, ps, g, s, st, rs, rr, sq, l⟩) = 0
      · obtain ⟨q1, q2, q3, ⟨q4, q5⟩, q6, q7⟩ := this.1 h2
        rw [if_pos ⟨hc, h2⟩, if_pos ⟨hzz.1 q4, q5, by omega, q3, q1, q2, hc, q7⟩]
      · rw [if_neg (fun h => h2 h.2), if_neg]
        rintro ⟨q4, q5, q6, q3, q1, q2, _, q7⟩
        exact h2 (this.2 ⟨q1, q2, q3, ⟨hzz.2 q4, q5⟩, by omega, q7⟩)
    · rw [if_neg (fun h => hc h.1), if_neg (fun h => hc h.2.2.2.2.2.2.1)]
  have hnum : chk ⟨k, o, lf, i, p, ps, g, s, st, rs, rr, sq, l⟩ = 0 → Nums (Ms.n8 ⟨k, o, lf, i, p, ps, g, s, st, rs, rr, sq, l⟩) ∧ Nums (Ms.n4 ⟨k, o, lf, i, p, ps, g, s, st, rs, rr, sq, l⟩) ∧ l.length ≤ 160 := fun h => ⟨(chk_nums h).1, (chk_nums h).2, (chk_parts h).1⟩
  have HBy := fun W h (q : Nums (Ms.n8 ⟨k, o, lf, i, p, ps, g, s, st, rs, rr, sq, l⟩) ∧ Nums (Ms.n4 ⟨k, o, lf, i, p, ps, g, s, st, rs, rr, sq, l⟩) ∧ l.length ≤ 160) => dBytes k o lf i p ps g s st rs rr sq ao cap l W h q.1 q.2.1 q.2.2
  have H1 := RCheckRing dq dr
  have H2 := dNumber ds
  have H3 := dNode dn
  have H4 := dNumber dt
  have HC := fun W h => dCheck k o lf i p ps g s st rs rr sq ao cap l W h
  have ER := eqRing dq dr 0 0
  obtain ⟨rz, hrz⟩ : ∃ z, (decide (dq = 0) && decide (dr = 0)) = z := ⟨_, rfl⟩
  rw [hrz] at ER hol
  clear hoe hoc hrz
  generalize olE dt dq dr ds dn ⟨k, o, lf, i, p, ps, g, s, st, rs, rr, sq, l⟩ = OE at hol ⊢
  generalize pk ⟨k, o, lf, i, p, ps, g, s, st, rs, rr, sq, l⟩ = PK at HBy ⊢
  generalize chk ⟨k, o, lf, i, p, ps, g, s, st, rs, rr, sq, l⟩ = E at HC hol hnum
  generalize cr dq dr = c1 at H1 hol
  generalize nm ds = c2 at H2 hol
  generalize nd dn = c3 at H3 hol
  generalize nm dt = c4 at H4 hol
  have HB0 : Hid (Bk _ _ _ _) := hB0
  clear hB0
  have HOL : Hid (OE = oldc rz c1 ds c2 c3 c4 E k) := hol
  clear hol
  cases rz
  case true =>
    obtain rfl : OE = 2 := by rw [HOL.out]; simp [oldc]
    clear HOL
    have HA : Hid (Mod _ _ _) := hA
    have HB := HB0
    clear hA hs0
    go_enter Tryz.func35, Tryz.ntmps35
    go_wp2_with (refine wpList_store_row info13 rfl rfl _ _ rfl (w.heap.size + 1) #[.int .i64 0, .int .i64 0, .int .i64 0, .int .i64 0, .int .i64 0, .int .i64 0, .int .i64 0, .bool false, .int .i64 0, .int .i64 0, .int .i64 0, .int .i64 0, (.slice none 0 0)] rfl rfl HB.out rfl rfl rfl ?_; intro wF hBF hMF)
    exact bodyPost_ret (res13 rfl rfl rfl hBF rfl) rfl ⟨_, _, _, _, _, _, _, _, _, _, _, _, _, rfl, HA.out.trans hMF (V := fun _ => False) (fun _ _ h => h) (fun _ hi h => by omega), fun h => absurd h (by decide), fun _ => ⟨rfl, rfl, rfl, rfl, rfl, rfl, rfl, rfl, rfl, rfl, rfl, rfl, rfl⟩⟩
  case false =>
  go_enter Tryz.func35, Tryz.ntmps35
  go_wp2_with (fail)
  refine (H1 _).mono ?_
  rintro e w1 ⟨rfl, hm1⟩
  have hA1 := hA.trans hm1 (V := fun _ => False) (fun _ _ h => h) (fun _ _ h => h)
  have HB1 : Hid (Bk _ _ _ _) := HB0.out.mod hm1 (fun h => h)
  have hd1 := DB.mod (S := fun _ => False) hd0 hm1 (fun h => h)
  have hs1 := hs0.mod hm1 (fun _ _ h => h)
  obtain ⟨a0, a1, a2, a3, a4, a5, a6, a7, a8, a9, a10, a11, a12, a13, a14, a15, a16, a17⟩ := hd1.cells
  clear HB0 hd0 hs0 hA
  by_cases h1 : c1 = 0
  case neg =>
    have hn1 : (c1 != 0) = true := by simp [h1]
    obtain rfl : OE = 2 := by rw [HOL.out, oldc, if_neg (fun h => h1 h.2.1)]
    clear HOL
    have HA : Hid (Mod _ _ _) := hA1
    have HB := HB1
    clear hA1 a0 a1 a2 a3 a4 a5 a6 a7 a8 a9 a10 a11 a12 a13 a14 a15 a16 a17
    go_wp2_with (refine wpList_store_row info13 rfl rfl _ _ rfl (w.heap.size + 1) #[.int .i64 0, .int .i64 0, .int .i64 0, .int .i64 0, .int .i64 0, .int .i64 0, .int .i64 0, .bool false, .int .i64 0, .int .i64 0, .int .i64 0, .int .i64 0, (.slice none 0 0)] rfl rfl HB.out rfl rfl rfl ?_; intro wF hBF hMF)
    exact bodyPost_ret (res13 rfl rfl rfl hBF rfl) rfl ⟨_, _, _, _, _, _, _, _, _, _, _, _, _, rfl, HA.out.trans hMF (V := fun _ => False) (fun _ _ h => h) (fun _ hi h => by omega), fun h => absurd h (by decide), fun _ => ⟨rfl, rfl, rfl, rfl, rfl, rfl, rfl, rfl, rfl, rfl, rfl, rfl, rfl⟩⟩
  case pos =>
  subst h1
  by_cases h2 : ds < 1
  case pos =>
    obtain rfl : OE = 2 := by rw [HOL.out, oldc, if_neg (fun h => h.2.2.1 h2)]
    clear HOL
    have HA : Hid (Mod _ _ _) := hA1
    have HB := HB1
    clear hA1
    go_wp2_with (refine wpList_store_row info13 rfl rfl _ _ rfl (w.heap.size + 1) #[.int .i64 0, .int .i64 0, .int .i64 0, .int .i64 0, .int .i64 0, .int .i64 0, .int .i64 0, .bool false, .int .i64 0, .int .i64 0, .int .i64 0, .int .i64 0, (.slice none 0 0)] rfl rfl HB.out rfl rfl rfl ?_; intro wF hBF hMF)
    exact bodyPost_ret (res13 rfl rfl rfl hBF rfl) rfl ⟨_, _, _, _, _, _, _, _, _, _, _, _, _, rfl, HA.out.trans hMF (V := fun _ => False) (fun _ _ h => h) (fun _ hi h => by omega), fun h => absurd h (by decide), fun _ => ⟨rfl, rfl, rfl, rfl, rfl, rfl, rfl, rfl, rfl, rfl, rfl, rfl, rfl⟩⟩
  case neg =>
  go_wp2_with (fail)
  refine (H2 _).mono ?_
  rintro e w9 ⟨rfl, rfl⟩
  cases c2
  case false =>
    obtain rfl : OE = 2 := by rw [HOL.out]; simp [oldc]
    clear HOL
    have HA : Hid (Mod _ _ _) := hA1
    have HB := HB1
    clear hA1
    go_wp2_with (refine wpList_store_row info13 rfl rfl _ _ rfl (w.heap.size + 1) #[.int .i64 0, .int .i64 0, .int .i64 0, .int .i64 0, .int .i64 0, .int .i64 0, .int .i64 0, .bool false, .int .i64 0, .int .i64 0, .int .i64 0, .int .i64 0, (.slice none 0 0)] rfl rfl HB.out rfl rfl rfl ?_; intro wF hBF hMF)
    exact bodyPost_ret (res13 rfl rfl rfl hBF rfl) rfl ⟨_, _, _, _, _, _, _, _, _, _, _, _, _, rfl, HA.out.trans hMF (V := fun _ => False) (fun _ _ h => h) (fun _ hi h => by omega), fun h => absurd h (by decide), fun _ => ⟨rfl, rfl, rfl, rfl, rfl, rfl, rfl, rfl, rfl, rfl, rfl, rfl, rfl⟩⟩
  case true =>
  go_wp2_with (fail)
  refine (H3 _).mono ?_
  rintro e w9 ⟨rfl, rfl⟩
  cases c3
  case false =>
    obtain rfl : OE = 2 := by rw [HOL.out]; simp [oldc]
    clear HOL
    have HA : Hid (Mod _ _ _) := hA1
    have HB := HB1
    clear hA1
    go_wp2_with (refine wpList_store_row info13 rfl rfl _ _ rfl (w.heap.size + 1) #[.int .i64 0, .int .i64 0, .int .i64 0, .int .i64 0, .int .i64 0, .int .i64 0, .int .i64 0, .bool false, .int .i64 0, .int .i64 0, .int .i64 0, .int .i64 0, (.slice none 0 0)] rfl rfl HB.out rfl rfl rfl ?_; intro wF hBF hMF)
    exact bodyPost_ret (res13 rfl rfl rfl hBF rfl) rfl ⟨_, _, _, _, _, _, _, _, _, _, _, _, _, rfl, HA.out.trans hMF (V := fun _ => False) (fun _ _ h => h) (fun _ hi h => by omega), fun h => absurd h (by decide), fun _ => ⟨rfl, rfl, rfl, rfl, rfl, rfl, rfl, rfl, rfl, rfl, rfl, rfl, rfl⟩⟩
  case true =>
  go_wp2_with (fail)
  refine (H4 _).mono ?_
  rintro e w9 ⟨rfl, rfl⟩
  cases c4
  case false =>
    obtain rfl : OE = 2 := by rw [HOL.out]; simp [oldc]
    clear HOL
    have HA : Hid (Mod _ _ _) := hA1
    have HB := HB1
    clear hA1
    go_wp2_with (refine wpList_store_row info13 rfl rfl _ _ rfl (w.heap.size + 1) #[.int .i64 0, .int .i64 0, .int .i64 0, .int .i64 0, .int .i64 0, .int .i64 0, .int .i64 0, .bool false, .int .i64 0, .int .i64 0, .int .i64 0, .int .i64 0, (.slice none 0 0)] rfl rfl HB.out rfl rfl rfl ?_; intro wF hBF hMF)
    exact bodyPost_ret (res13 rfl rfl rfl hBF rfl) rfl ⟨_, _, _, _, _, _, _, _, _, _, _, _, _, rfl, HA.out.trans hMF (V := fun _ => False) (fun _ _ h => h) (fun _ hi h => by omega), fun h => absurd h (by decide), fun _ => ⟨rfl, rfl, rfl, rfl, rfl, rfl, rfl, rfl, rfl, rfl, rfl, rfl, rfl⟩⟩
  case true =>
  go_wp2_with (fail)
  refine (HC _ hs1).mono ?_
  rintro e w2 ⟨rfl, hm2⟩
  have hA2 := hA1.trans hm2 (V := fun _ => False) (fun _ _ h => h) (fun _ _ h => h)
  have HB2 : Hid (Bk _ _ _ _) := HB1.out.mod hm2 (fun h => h)
  have hd2 := DB.mod (S := fun _ => False) hd1 hm2 (fun h => h)
  have hs2 := hs1.mod hm2 (fun _ _ h => h)
  clear hd1 hs1 hA1 HB1 a0 a1 a2 a3 a4 a5 a6 a7 a8 a9 a10 a11 a12 a13 a14 a15 a16 a17
  obtain ⟨a0, a1, a2, a3, a4, a5, a6, a7, a8, a9, a10, a11, a12, a13, a14, a15, a16, a17⟩ := hd2.cells
  by_cases hE : E = 0
  case neg =>
    have hn1 : (E != 0) = true := by simp [hE]
    obtain rfl : OE = 2 := by rw [HOL.out, oldc, if_neg (fun h => hE h.2.2.2.2.2.2.1)]
    clear HOL
    have HA : Hid (Mod _ _ _) := hA2
    have HB := HB2
    clear hA2
    go_wp2_with (refine wpList_store_row info13 rfl rfl _ _ rfl (w.heap.size + 1) #[.int .i64 0, .int .i64 0, .int .i64 0, .int .i64 0, .int .i64 0, .int .i64 0, .int .i64 0, .bool false, .int .i64 0, .int .i64 0, .int .i64 0, .int .i64 0, (.slice none 0 0)] rfl rfl HB.out rfl rfl rfl ?_; intro wF hBF hMF)
    exact bodyPost_ret (res13 rfl rfl rfl hBF rfl) rfl ⟨_, _, _, _, _, _, _, _, _, _, _, _, _, rfl, HA.out.trans hMF (V := fun _ => False) (fun _ _ h => h) (fun _ hi h => by omega), fun h => absurd h (by decide), fun _ => ⟨rfl, rfl, rfl, rfl, rfl, rfl, rfl, rfl, rfl, rfl, rfl, rfl, rfl⟩⟩
  case pos =>
  subst hE
  by_cases hk : k = 5
  case pos =>
    subst hk
    obtain rfl : OE = 2 := by rw [HOL.out]; simp [oldc]
    clear HOL
    have HA : Hid (Mod _ _ _) := hA2
    have HB := HB2
    clear hA2
    go_wp2_with (refine wpList_store_row info13 rfl rfl _ _ rfl (w.heap.size + 1) #[.int .i64 0, .int .i64 0, .int .i64 0, .int .i64 0, .int .i64 0, .int .i64 0, .int .i64 0, .bool false, .int .i64 0, .int .i64 0, .int .i64 0, .int .i64 0, (.slice none 0 0)] rfl rfl HB.out rfl rfl rfl ?_; intro wF hBF hMF)
    exact bodyPost_ret (res13 rfl rfl rfl hBF rfl) rfl ⟨_, _, _, _, _, _, _, _, _, _, _, _, _, rfl, HA.out.trans hMF (V := fun _ => False) (fun _ _ h => h) (fun _ hi h => by omega), fun h => absurd h (by decide), fun _ => ⟨rfl, rfl, rfl, rfl, rfl, rfl, rfl, rfl, rfl, rfl, rfl, rfl, rfl⟩⟩
  case neg =>
  have hkb : (k == 5) = false := by simp [hk]
  have HO : Hid (OE = 0) := by show _ = _; rw [HOL.out, oldc, if_pos]; exact ⟨rfl, rfl, by omega, rfl, rfl, rfl, rfl, hk⟩
  have hq := hnum rfl
  clear HOL hnum
  go_wp2_with (fail)
  replace hA2 := hA2.drew
  replace a0 : w2.drew.cell? ⟨w.heap.size, 0, none⟩ = some (.int .i64 dq) := a0
  replace a1 : w2.drew.cell? ⟨w.heap.size, 1, none⟩ = some (.int .i64 dr) := a1
  replace a2 : w2.drew.cell? ⟨w.heap.size, 2, none⟩ = some (.int .i64 ds) := a2
  replace a3 : w2.drew.cell? ⟨w.heap.size, 3, none⟩ = some (.int .i64 dn) := a3
  replace a4 : w2.drew.cell? ⟨w.heap.size, 4, none⟩ = some (.int .i64 dt) := a4
  replace a5 : w2.drew.cell? ⟨w.heap.size, 5, none⟩ = some (.int .i64 k) := a5
  replace a6 : w2.drew.cell? ⟨w.heap.size, 6, none⟩ = some (.int .i64 o) := a6
  replace a7 : w2.drew.cell? ⟨w.heap.size, 7, none⟩ = some (.int .i64 lf) := a7
  replace a8 : w2.drew.cell? ⟨w.heap.size, 8, none⟩ = some (.int .i64 i) := a8
  replace a9 : w2.drew.cell? ⟨w.heap.size, 9, none⟩ = some (.int .i64 p) := a9
  replace a10 : w2.drew.cell? ⟨w.heap.size, 10, none⟩ = some (.int .i64 ps) := a10
  replace a11 : w2.drew.cell? ⟨w.heap.size, 11, none⟩ = some (.int .i64 g) := a11
  replace a12 : w2.drew.cell? ⟨w.heap.size, 12, none⟩ = some (.bool s) := a12
  replace a13 : w2.drew.cell? ⟨w.heap.size, 13, none⟩ = some (.int .i64 st) := a13
  replace a14 : w2.drew.cell? ⟨w.heap.size, 14, none⟩ = some (.int .i64 rs) := a14
  replace a15 : w2.drew.cell? ⟨w.heap.size, 15, none⟩ = some (.int .i64 rr) := a15
  replace a16 : w2.drew.cell? ⟨w.heap.size, 16, none⟩ = some (.int .i64 sq) := a16
  replace a17 : w2.drew.cell? ⟨w.heap.size, 17, none⟩ = some (.slice ao l.length cap) := a17
  replace hs2 := hs2.mod (Mod.refl (fun _ => False) _).drew (fun _ _ h => h)
  replace HB2 : Hid (Bk _ _ _ _) := HB2.out.mod (Mod.refl (fun _ => False) _).drew (fun h => h)
  go_region_held3 (fun y => y.cell? ⟨w.heap.size, 0, none⟩ = some (.int .i64 dq) ∧ y.cell? ⟨w.heap.size, 1, none⟩ = some (.int .i64 dr) ∧ y.cell? ⟨w.heap.size, 2, none⟩ = some (.int .i64 ds) ∧ y.cell? ⟨w.heap.size, 3, none⟩ = some (.int .i64 dn) ∧ y.cell? ⟨w.heap.size, 4, none⟩ = some (.int .i64 dt) ∧ y.cell? ⟨w.heap.size, 5, none⟩ = some (.int .i64 k) ∧ y.cell? ⟨w.heap.size, 6, none⟩ = some (.int .i64 o) ∧ y.cell? ⟨w.heap.size, 7, none⟩ = some (.int .i64 lf) ∧ y.cell? ⟨w.heap.size, 8, none⟩ = some (.int .i64 i) ∧ y.cell? ⟨w.heap.size, 9, none⟩ = some (.int .i64 p) ∧ y.cell? ⟨w.heap.size, 10, none⟩ = some (.int .i64 ps) ∧ y.cell? ⟨w.heap.size, 11, none⟩ = some (.int .i64 g) ∧ y.cell? ⟨w.heap.size, 12, none⟩ = some (.bool s) ∧ y.cell? ⟨w.heap.size, 13, none⟩ = some (.int .i64 st) ∧ y.cell? ⟨w.heap.size, 14, none⟩ = some (.int .i64 rs) ∧ y.cell? ⟨w.heap.size, 15, none⟩ = some (.int .i64 rr) ∧ y.cell? ⟨w.heap.size, 16, none⟩ = some (.int .i64 sq) ∧ y.cell? ⟨w.heap.size, 17, none⟩ = some (.slice ao l.length cap)) (first | with_reducible exact ⟨a0, a1, a2, a3, a4, a5, a6, a7, a8, a9, a10, a11, a12, a13, a14, a15, a16, a17⟩ | with_reducible exact ⟨hst.cell a0 (by show ¬ (w.heap.size = w.heap.size + 1); omega), hst.cell a1 (by show ¬ (w.heap.size = w.heap.size + 1); omega), hst.cell a2 (by show ¬ (w.heap.size = w.heap.size + 1); omega), hst.cell a3 (by show ¬ (w.heap.size = w.heap.size + 1); omega), hst.cell a4 (by show ¬ (w.heap.size = w.heap.size + 1); omega), hst.cell a5 (by show ¬ (w.heap.size = w.heap.size + 1); omega), hst.cell a6 (by show ¬ (w.heap.size = w.heap.size + 1); omega), hst.cell a7 (by show ¬ (w.heap.size = w.heap.size + 1); omega), hst.cell a8 (by show ¬ (w.heap.size = w.heap.size + 1); omega), hst.cell a9 (by show ¬ (w.heap.size = w.heap.size + 1); omega), hst.cell a10 (by show ¬ (w.heap.size = w.heap.size + 1); omega), hst.cell a11 (by show ¬ (w.heap.size = w.heap.size + 1); omega), hst.cell a12 (by show ¬ (w.heap.size = w.heap.size + 1); omega), hst.cell a13 (by show ¬ (w.heap.size = w.heap.size + 1); omega), hst.cell a14 (by show ¬ (w.heap.size = w.heap.size + 1); omega), hst.cell a15 (by show ¬ (w.heap.size = w.heap.size + 1); omega), hst.cell a16 (by show ¬ (w.heap.size = w.heap.size + 1); omega), hst.cell a17 (by show ¬ (w.heap.size = w.heap.size + 1); omega)⟩)
    ((go_at_call 55; refine (HBy _ hs2 hq).mono ?_; rintro e w3 ⟨bv3, rfl, ho3, hm3, hf3⟩; obtain ⟨ao3, cap3, rfl⟩ := ho3.shape; replace a0 := hm3.cell a0 (fun h => h); replace a1 := hm3.cell a1 (fun h => h); replace a2 := hm3.cell a2 (fun h => h); replace a3 := hm3.cell a3 (fun h => h); replace a4 := hm3.cell a4 (fun h => h); replace a5 := hm3.cell a5 (fun h => h); replace a6 := hm3.cell a6 (fun h => h); replace a7 := hm3.cell a7 (fun h => h); replace a8 := hm3.cell a8 (fun h => h); replace a9 := hm3.cell a9 (fun h => h); replace a10 := hm3.cell a10 (fun h => h); replace a11 := hm3.cell a11 (fun h => h); replace a12 := hm3.cell a12 (fun h => h); replace a13 := hm3.cell a13 (fun h => h); replace a14 := hm3.cell a14 (fun h => h); replace a15 := hm3.cell a15 (fun h => h); replace a16 := hm3.cell a16 (fun h => h); replace a17 := hm3.cell a17 (fun h => h); have z0 := (HB2.out.mod hm3 (fun h => h)).cellv (j := 0) rfl; have z1 := (HB2.out.mod hm3 (fun h => h)).cellv (j := 1) rfl; have z2 := (HB2.out.mod hm3 (fun h => h)).cellv (j := 2) rfl; have z3 := (HB2.out.mod hm3 (fun h => h)).cellv (j := 3) rfl; have z4 := (HB2.out.mod hm3 (fun h => h)).cellv (j := 4) rfl; have z5 := (HB2.out.mod hm3 (fun h => h)).cellv (j := 5) rfl; have z6 := (HB2.out.mod hm3 (fun h => h)).cellv (j := 6) rfl; have z7 := (HB2.out.mod hm3 (fun h => h)).cellv (j := 7) rfl; have z8 := (HB2.out.mod hm3 (fun h => h)).cellv (j := 8) rfl; have z9 := (HB2.out.mod hm3 (fun h => h)).cellv (j := 9) rfl; have z10 := (HB2.out.mod hm3 (fun h => h)).cellv (j := 10) rfl; have z11 := (HB2.out.mod hm3 (fun h => h)).cellv (j := 11) rfl; have z12 := (HB2.out.mod hm3 (fun h => h)).cellv (j := 12) rfl; have hfz := (HB2.out.mod hm3 (fun h => h)).frz; have hst := stm_mod w3 (w.heap.size + 1) 5 dn 0 dn 0 0 0 false dt dq dr ds (.slice ao3 PK.length cap3); unfold stm at hst))
  have hMW := hA2.trans hm3 (V := fun _ => False) (fun _ _ h => h) (fun _ _ h => h)
  have hZ3 := HB2.out.mod hm3 (fun h => h)
  have hMB : MB w3 (w.heap.size + 1) 0 0 0 0 0 0 0 false 0 0 0 0 (.slice none 0 0) := hZ3.at'
  have hMB2 := stm_mb hMB 5 dn 0 dn 0 0 0 false dt dq dr ds (.slice ao3 PK.length cap3)
  have hszA := hA2.size
  unfold stm at hMB2
  have HF : Hid (∀ q, (Value.slice ao3 PK.length cap3).ownBlock = some q → w.heap.size + 2 ≤ q) := fun q hq => by have := hf3 q hq; have := HB2.out.lt; simp only [World.drew] at *; omega
  have HM : Hid (Mod (fun _ => False) w _) := hMW.trans hst (V := fun _ => False) (fun _ _ h => h) (fun q hq h => by omega)
  have HOw : Hid (Own _ _ _) := ho3.mod hst (fun q hq e => by have := HF.out q hq; omega)
  have HBk : Hid (Bk _ (w.heap.size + 1) 43 _) := ⟨hMB2⟩
  clear hMB hMB2 hZ3 ho3 hMW hst a0 a1 a2 a3 a4 a5 a6 a7 a8 a9 a10 a11 a12 a13 a14 a15 a16 a17 z0 z1 z2 z3 z4 z5 z6 z7 z8 z9 z10 z11 z12
  go_wp2_with (fail)
  have hO := HO.out
  subst hO
  exact bodyPost_ret (res13 rfl rfl rfl HBk.out rfl) rfl ⟨_, _, _, _, _, _, _, _, _, _, _, _, _, rfl, HM.out, fun _ => ⟨⟨rfl, rfl, rfl, rfl, rfl, rfl, rfl, rfl, rfl, rfl, rfl, rfl⟩, HOw.out, fun q hq => by have := HF.out q hq; omega⟩, fun h => absurd rfl h⟩
end Go.Proofs.YthiijonmnebjgaaGreat
