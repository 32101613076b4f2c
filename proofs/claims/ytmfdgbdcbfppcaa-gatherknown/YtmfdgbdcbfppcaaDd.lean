/- The contract of gather's Hear. Conditions: numbers of an int. -/
import Derived.Test.YtmfdgbdcbfppcaaDc
namespace Go.Proofs.Ytmfdgbdcbfppcaa
open Go.RowKit Go.Maps Go.WideShapes
theorem eqJoin (s p c s' p' c' : Int) (w : World) : (Op.equalIn 10000 34 (.agg #[.int .i64 s, .int .i64 p, .int .i64 c]) (.agg #[.int .i64 s', .int .i64 p', .int .i64 c'])).run Try.prog w = .ok (decide (s = s') && (decide (p = p') && decide (c = c'))) w := by
  by_cases h1 : s = s' <;> by_cases h2 : p = p' <;> by_cases h3 : c = c' <;> simp [go_sem, h1, h2, h3]
/-- Whether it is another one. -/
def ch (o : Option Jo) (q k : Int) : Bool := match o with | none => true | some j => !(decide (j.p = q) && decide (j.c = k))
/-- What Hear answers, and what it makes. -/
def h1 (n : Int) (J : Int → Option Jo) (s q k : Int) : Bool := mb s q k && (!(decide (s = n)) && ch (J s) q k)
def h2 (n : Int) (J : Int → Option Jo) (s q k : Int) : Bool := mb s q k && (!(decide (s = n)) && !(J s).isSome)
def h3 (s q k : Int) : Int := if mb s q k then 0 else 2
def hJ (n : Int) (J : Int → Option Jo) (s q k : Int) : Int → Option Jo := if mb s q k && !(decide (s = n)) then upd J s (some ⟨q, k⟩) else J
def hG (n g : Int) (s q k : Int) : Int := if mb s q k && !(decide (s = n)) then max g k else g
theorem mb_true {s q k : Int} (h : mb s q k = true) : 1 ≤ s ∧ s ≤ 8 ∧ 0 ≤ k ∧ k ≤ 9007199254740991 := by
  simp [mb, Cr.has, Cr.node] at h
  omega
theorem Gp.hear {n c g : Int} {J : Int → Option Jo} (h : Gp n c g J) {s q k : Int} (hs : 1 ≤ s ∧ s ≤ 8 ∧ 0 ≤ k ∧ k ≤ 9007199254740991) (hq : I64 q) : Gp n c (max g k) (upd J s (some ⟨q, k⟩)) := by
  refine ⟨h.node, h.cnt, by have := h.grt; omega, fun i j hj => ?_⟩
  by_cases e : i = s
  · subst e
    rw [upd_same] at hj
    cases hj
    exact ⟨hs.1, hs.2.1, hq, hs.2.2⟩
  · rw [upd_other J _ e] at hj
    exact h.each i j hj
set_option maxRecDepth 100000 in
set_option maxHeartbeats 2000000 in
theorem Hear_some {w : World} {p : Nat} {X : Nat → Prop} {n c g : Int} {J : Int → Option Jo} (hw : Ga w p X n c g J) (s q k : Int) (hq : I64 q) (hmb : mb s q k = true) (hsn : s ≠ n) :
    Calls Try.prog 11 #[.pointer (some ⟨p, 0, none⟩), jv s q k] w fun e w' => e = .returned (.tuple #[.bool (ch (J s) q k), .bool (!(J s).isSome), .int .i64 0]) ∧ Ga w' p X n c (max g k) (upd J s (some ⟨q, k⟩)) ∧ Mod X w w' := by
  have hmt := mb_true hmb
  have HG : Hid (Gp n c (max g k) (upd J s (some ⟨q, k⟩))) := hw.gp.hear hmt hq
  have hs : I64 s := ⟨by omega, by omega⟩
  have hA := (Mod.refl (fun _ => False) w).alloc (.cells #[.int .i64 s, .int .i64 q, .int .i64 k] 34)
  obtain ⟨B, b1, b2, b3⟩ := hw.blk
  have HB : Hid (Bk (w.alloc (.cells #[.int .i64 s, .int .i64 q, .int .i64 k] 34)) p 54 #[.int .i64 n, .int .i64 c, .int .i64 g, .map (some B)]) := b1.mod hA (fun h => h)
  have HM : Hid (Mj (w.alloc (.cells #[.int .i64 s, .int .i64 q, .int .i64 k] 34)) B J) := b2.mod hA (fun h => h)
  have HJ : Hid (Bk (w.alloc (.cells #[.int .i64 s, .int .i64 q, .int .i64 k] 34)) w.heap.size 34 #[.int .i64 s, .int .i64 q, .int .i64 k]) := Bk.new w _ _
  have HX : Hid (X p ∧ X B ∧ (∀ i, X i → i < w.heap.size)) := ⟨hw.px, b3, hw.lt⟩
  have HA : Hid (Mod (fun _ => False) w (w.alloc (.cells #[.int .i64 s, .int .i64 q, .int .i64 k] 34))) := hA
  have HN := isNone_w (HB.out.cellv (j := 0) rfl) hw.gp.node.1
  have HMB := fun W => mayBe_w s q k hq W
  simp only [hmb] at HMB
  have hsne : (s == n) = false := by simpa using hsn
  obtain ⟨a, b, d, ev, HCH⟩ : ∃ a b d, mj (J s) s = jv a b d ∧ Hid (ch (J s) q k = !(decide (s = a) && (decide (q = b) && decide (k = d)))) := by
    cases hj : J s with
    | none =>
      refine ⟨0, 0, 0, rfl, ?_⟩
      show true = _
      have : ¬ s = 0 := by omega
      simp [this]
    | some j =>
      refine ⟨s, j.p, j.c, rfl, ?_⟩
      show (!(decide (j.p = q) && decide (j.c = k))) = _
      simp [eq_comm]
  have HMT : Hid (1 ≤ s ∧ s ≤ 8) := ⟨hmt.1, hmt.2.1⟩
  have HSI : Hid (I64 s) := hs
  have ER := fun W => eqJoin s q k a b d W
  generalize hr' : (decide (s = a) && (decide (q = b) && decide (k = d))) = r at ER HCH
  generalize ch (J s) q k = rc at HCH ⊢
  generalize hbb : (J s).isSome = bb
  have HBB : Hid ((J s).isSome = bb) := hbb
  have EV : Hid (mj (J s) s = jv a b d) := ev
  clear hmt hs b1 b2 b3 hw hA hmb hsn hr' hbb ev
  unfold jv
  go_enter Try.func11, Try.ntmps11
  go_wp2_with (first | (go_at_call 27; refine HN.mono ?_; rintro e wn ⟨rfl, rfl⟩) | (go_at_call 28; refine (HMB _).mono ?_; rintro e w2 ⟨rfl, hm2⟩))
  have c0 : w2.cell? ⟨p, 0, none⟩ = some (.int .i64 n) := (HB.out.mod hm2 (fun h => h)).cellv (j := 0) rfl
  have j0 : w2.cell? ⟨w.heap.size, 0, none⟩ = some (.int .i64 s) := (HJ.out.mod hm2 (fun h => h)).cellv (j := 0) rfl
  have hmD := hm2.drew
  have HB2 : Hid (Bk w2.drew p 54 #[.int .i64 n, .int .i64 c, .int .i64 g, .map (some B)]) := HB.out.mod hmD (fun h => h)
  have HM2 : Hid (Mj w2.drew B J) := HM.out.mod hmD (fun h => h)
  have HJ2 : Hid (Bk w2.drew w.heap.size 34 #[.int .i64 s, .int .i64 q, .int .i64 k]) := HJ.out.mod hmD (fun h => h)
  have HA2 : Hid (Mod (fun _ => False) w w2.drew) := HA.out.and hmD
  clear HB HM HJ HN HMB hm2 hmD HA
  go_region
  go_wp2_with (fail)
  clear c0 j0
  generalize w2.drew = w3 at *
  have c3 : w3.cell? ⟨p, 3, none⟩ = some (.map (some B)) := HB2.out.cellv (j := 3) rfl
  have j0 : w3.cell? ⟨w.heap.size, 0, none⟩ = some (.int .i64 s) := HJ2.out.cellv (j := 0) rfl
  have hL := (HM2.out.mod ((Mod.refl (fun _ => False) w3).drew) (fun h => h)).look2 HSI.out
  rw [EV.out, HBB.out] at hL
  have hAz := (Mod.refl (fun _ => False) w3).alloc (.cells #[.int .i64 0, .int .i64 0, .int .i64 0] 34)
  have c3a := hAz.cell c3 (fun h => h)
  have j0a := hAz.cell j0 (fun h => h)
  have hLa := (HM2.out.mod hAz.drew (fun h => h)).look2 HSI.out
  rw [EV.out, HBB.out] at hLa
  unfold jv at hL hLa
  clear hAz
  go_region
  all_goals
    go_wp2_with (fail)
    have hm4 := ((Mod.refl (fun _ => False) w3).alloc (.cells #[.int .i64 a, .int .i64 b, .int .i64 d] 34)).drew
    have HB4 : Hid (Bk _ p 54 #[.int .i64 n, .int .i64 c, .int .i64 g, .map (some B)]) := HB2.out.mod hm4 (fun h => h)
    have HM4 : Hid (Mj _ B J) := HM2.out.mod hm4 (fun h => h)
    have HJ4 : Hid (Bk _ w.heap.size 34 #[.int .i64 s, .int .i64 q, .int .i64 k]) := HJ2.out.mod hm4 (fun h => h)
    have HN4 : Hid (Bk _ w3.heap.size 34 #[.int .i64 a, .int .i64 b, .int .i64 d]) := (Bk.new w3 #[.int .i64 a, .int .i64 b, .int .i64 d] 34).mod ((Mod.refl (fun _ => False) _).drew) (fun h => h)
    have HA4 : Hid (Mod (fun _ => False) w _) := HA2.out.and hm4
    have HZ3 : Hid (w.heap.size ≤ w3.heap.size) := HA2.out.size
    have HPB : Hid (p ≠ B ∧ p < w.heap.size ∧ B < w.heap.size) := ⟨(by
      rintro rfl
      obtain ⟨es, cl, hb⟩ := HM2.out.kind
      rw [HB2.out.at'] at hb
      cases hb), HX.out.2.2 _ HX.out.1, HX.out.2.2 _ HX.out.2.1⟩
    clear c3 j0 hL c3a j0a hLa hm4 HB2 HM2 HJ2 HA2
    generalize w3.heap.size = z3 at *
    generalize (w3.alloc (.cells #[.int .i64 a, .int .i64 b, .int .i64 d] 34)).drew = w4 at *
    have c3 : w4.cell? ⟨p, 3, none⟩ = some (.map (some B)) := HB4.out.cellv (j := 3) rfl
    have j0 : w4.cell? ⟨w.heap.size, 0, none⟩ = some (.int .i64 s) := HJ4.out.cellv (j := 0) rfl
    have j1 : w4.cell? ⟨w.heap.size, 1, none⟩ = some (.int .i64 q) := HJ4.out.cellv (j := 1) rfl
    have j2 : w4.cell? ⟨w.heap.size, 2, none⟩ = some (.int .i64 k) := HJ4.out.cellv (j := 2) rfl
    obtain ⟨w5, hrun, hM5, ht5⟩ := (HM4.out.mod ((Mod.refl (fun _ => False) w4).drew) (fun h => h)).store HMT.out.1 HMT.out.2 q k
    unfold jv at hrun
    go_region
    go_wp2_with (fail)
    have hm5 := (Mod.refl (fun i => i = B) w4.drew).turned ht5 (.inl rfl)
    have hd4 := (Mod.refl (fun _ => False) w4).drew
    have hB5 := (HB4.out.mod hd4 (fun h => h)).mod hm5 (by have := HPB.out; omega)
    have hJ5 := (HJ4.out.mod hd4 (fun h => h)).mod hm5 (by have := HPB.out; omega)
    have hN5 := (HN4.out.mod hd4 (fun h => h)).mod hm5 (by have := HPB.out; have := HZ3.out; omega)
    have hA5 : Mod X w w5 := (HA4.out.and hd4).trans hm5 (fun _ _ h => h.elim) (fun i _ h => by subst h; exact HX.out.2.1)
    have hB6 := (hB5.set 2 (.int .i64 (max g k))).mod ((Mod.refl (fun _ => False) _).drew) (fun h => h)
    simp only [List.setIfInBounds_toArray, List.set_cons_succ, List.set_cons_zero] at hB6
    have hm6 := ((Mod.refl (fun i => i = p) w5).setCell ⟨p, 2, none⟩ (.int .i64 (max g k)) (.inl rfl)).drew
    have HB6 : Hid (Bk _ _ _ _) := hB6
    have HJ6 : Hid (Bk _ _ _ _) := hJ5.mod hm6 (by have := HPB.out; omega)
    have HN6 : Hid (Bk _ _ _ _) := hN5.mod hm6 (by have := HPB.out; have := HZ3.out; omega)
    have HM6 : Hid (Mj _ B (upd J s (some ⟨q, k⟩))) := hM5.mod hm6 (by have := HPB.out; omega)
    have HA6 : Hid (Mod X w _) := hA5.trans hm6 (fun _ _ h => h) (fun i _ h => by subst h; exact HX.out.1)
    have c2 : w5.cell? ⟨p, 2, none⟩ = some (.int .i64 g) := hB5.cellv (j := 2) rfl
    have f2 := hB5.frz 2
    have k2 : w5.cell? ⟨w.heap.size, 2, none⟩ = some (.int .i64 k) := hJ5.cellv (j := 2) rfl
    clear c3 j0 j1 j2 hrun hm5 hd4 hB5 hJ5 hN5 hA5 hB6 hm6 hM5 ht5 HB4 HM4 HJ4 HN4 HA4
    go_region
    clear c2 f2 k2
    have j0 : (w5.setCell ⟨p, 2, none⟩ (.int .i64 (max g k))).drew.cell? ⟨w.heap.size, 0, none⟩ = some (.int .i64 s) := HJ6.out.cellv (j := 0) rfl
    have j1 : (w5.setCell ⟨p, 2, none⟩ (.int .i64 (max g k))).drew.cell? ⟨w.heap.size, 1, none⟩ = some (.int .i64 q) := HJ6.out.cellv (j := 1) rfl
    have j2 : (w5.setCell ⟨p, 2, none⟩ (.int .i64 (max g k))).drew.cell? ⟨w.heap.size, 2, none⟩ = some (.int .i64 k) := HJ6.out.cellv (j := 2) rfl
    have k0 : (w5.setCell ⟨p, 2, none⟩ (.int .i64 (max g k))).drew.cell? ⟨z3, 0, none⟩ = some (.int .i64 a) := HN6.out.cellv (j := 0) rfl
    have k1 : (w5.setCell ⟨p, 2, none⟩ (.int .i64 (max g k))).drew.cell? ⟨z3, 1, none⟩ = some (.int .i64 b) := HN6.out.cellv (j := 1) rfl
    have k2 : (w5.setCell ⟨p, 2, none⟩ (.int .i64 (max g k))).drew.cell? ⟨z3, 2, none⟩ = some (.int .i64 d) := HN6.out.cellv (j := 2) rfl
    go_wp2_with (fail)
    go_ret3
    refine ⟨by rw [HCH.out]; rfl, ⟨⟨B, HB6.out, HM6.out, HX.out.2.1⟩, HX.out.1, fun i hi => Nat.lt_of_lt_of_le (HX.out.2.2 i hi) HA6.out.size, HG.out⟩, HA6.out⟩
theorem Hear_bad {w : World} {p : Nat} {X : Nat → Prop} {n c g : Int} {J : Int → Option Jo} (hw : Ga w p X n c g J) (s q k : Int) (hq : I64 q) (hmb : mb s q k = false) :
    Calls Try.prog 11 #[.pointer (some ⟨p, 0, none⟩), jv s q k] w fun e w' => e = .returned (.tuple #[.bool false, .bool false, .int .i64 2]) ∧ Mod (fun _ => False) w w' := by
  have hA := (Mod.refl (fun _ => False) w).alloc (.cells #[.int .i64 s, .int .i64 q, .int .i64 k] 34)
  obtain ⟨B, b1, b2, b3⟩ := hw.blk
  have HN := isNone_w ((b1.mod hA (fun h => h)).cellv (j := 0) rfl) hw.gp.node.1
  have HMB := fun W => mayBe_w s q k hq W
  simp only [hmb] at HMB
  clear b1 b2 b3 hw hmb
  unfold jv
  go_enter Try.func11, Try.ntmps11
  go_wp2_with (first | (go_at_call 27; refine HN.mono ?_; rintro e wn ⟨rfl, rfl⟩) | (go_at_call 28; refine (HMB _).mono ?_; rintro e w2 ⟨rfl, hm2⟩))
  go_ret3
  exact ⟨rfl, hA.and hm2⟩
set_option maxRecDepth 100000 in
set_option maxHeartbeats 2000000 in
theorem Hear_own {w : World} {p : Nat} {X : Nat → Prop} {n c g : Int} {J : Int → Option Jo} (hw : Ga w p X n c g J) (q k : Int) (hq : I64 q) (hmb : mb n q k = true) :
    Calls Try.prog 11 #[.pointer (some ⟨p, 0, none⟩), jv n q k] w fun e w' => e = .returned (.tuple #[.bool false, .bool false, .int .i64 0]) ∧ Mod (fun _ => False) w w' := by
  have hA := (Mod.refl (fun _ => False) w).alloc (.cells #[.int .i64 n, .int .i64 q, .int .i64 k] 34)
  obtain ⟨B, b1, b2, b3⟩ := hw.blk
  have HB : Hid (Bk (w.alloc (.cells #[.int .i64 n, .int .i64 q, .int .i64 k] 34)) p 54 #[.int .i64 n, .int .i64 c, .int .i64 g, .map (some B)]) := b1.mod hA (fun h => h)
  have HJ : Hid (Bk (w.alloc (.cells #[.int .i64 n, .int .i64 q, .int .i64 k] 34)) w.heap.size 34 #[.int .i64 n, .int .i64 q, .int .i64 k]) := Bk.new w _ _
  have HN := isNone_w (HB.out.cellv (j := 0) rfl) hw.gp.node.1
  have HMB := fun W => mayBe_w n q k hq W
  simp only [hmb] at HMB
  clear b1 b2 b3 hw hmb
  unfold jv
  go_enter Try.func11, Try.ntmps11
  go_wp2_with (first | (go_at_call 27; refine HN.mono ?_; rintro e wn ⟨rfl, rfl⟩) | (go_at_call 28; refine (HMB _).mono ?_; rintro e w2 ⟨rfl, hm2⟩))
  have c0 : w2.cell? ⟨p, 0, none⟩ = some (.int .i64 n) := (HB.out.mod hm2 (fun h => h)).cellv (j := 0) rfl
  have j0 : w2.cell? ⟨w.heap.size, 0, none⟩ = some (.int .i64 n) := (HJ.out.mod hm2 (fun h => h)).cellv (j := 0) rfl
  clear HB HJ HN HMB
  go_region
  go_wp2_with (fail)
  go_ret3
  exact ⟨rfl, (hA.and hm2).drew⟩
/-- Hear, in one form. -/
theorem Hear_any {w : World} {p : Nat} {X : Nat → Prop} {n c g : Int} {J : Int → Option Jo} (hw : Ga w p X n c g J) (s q k : Int) (hq : I64 q) :
    Calls Try.prog 11 #[.pointer (some ⟨p, 0, none⟩), jv s q k] w fun e w' => e = .returned (.tuple #[.bool (h1 n J s q k), .bool (h2 n J s q k), .int .i64 (h3 s q k)]) ∧ Ga w' p X n c (hG n g s q k) (hJ n J s q k) ∧ Mod X w w' := by
  unfold h1 h2 h3 hG hJ
  cases hmb : mb s q k with
  | false =>
    refine (Hear_bad hw s q k hq hmb).mono ?_
    rintro e w' ⟨rfl, hm⟩
    exact ⟨rfl, hw.keep hm, hm.none⟩
  | true =>
    by_cases e : s = n
    · subst e
      refine (Hear_own hw q k hq hmb).mono ?_
      rintro e w' ⟨rfl, hm⟩
      refine ⟨by simp, ?_, hm.none⟩
      simpa using hw.keep hm
    · refine (Hear_some hw s q k hq hmb e).mono ?_
      rintro _ w' ⟨rfl, hg, hm⟩
      refine ⟨by simp [e], ?_, hm⟩
      simpa [e] using hg
theorem Hear_nil (s q k : Int) (w : World) : Calls Try.prog 11 #[.pointer none, jv s q k] w fun e w' => e = .returned (.tuple #[.bool false, .bool false, .int .i64 1]) ∧ Mod (fun _ => False) w w' := by
  have hA := (Mod.refl (fun _ => False) w).alloc (.cells #[.int .i64 s, .int .i64 q, .int .i64 k] 34)
  have HN := fun W => isNone_nil W
  unfold jv
  go_enter Try.func11, Try.ntmps11
  go_wp2_with (first | (go_at_call 27; refine (HN _).mono ?_; rintro e wn ⟨rfl, rfl⟩))
  go_ret3
  exact ⟨rfl, hA⟩
theorem Hear_zero {w : World} {p : Nat} (h : w.cell? ⟨p, 0, none⟩ = some (.int .i64 0)) (s q k : Int) : Calls Try.prog 11 #[.pointer (some ⟨p, 0, none⟩), jv s q k] w fun e w' => e = .returned (.tuple #[.bool false, .bool false, .int .i64 1]) ∧ Mod (fun _ => False) w w' := by
  have hA := (Mod.refl (fun _ => False) w).alloc (.cells #[.int .i64 s, .int .i64 q, .int .i64 k] 34)
  have HN := isNone_zero (hA.cell h (fun h => h))
  clear h
  unfold jv
  go_enter Try.func11, Try.ntmps11
  go_wp2_with (first | (go_at_call 27; refine HN.mono ?_; rintro e wn ⟨rfl, rfl⟩))
  go_ret3
  exact ⟨rfl, hA⟩
end Go.Proofs.Ytmfdgbdcbfppcaa
