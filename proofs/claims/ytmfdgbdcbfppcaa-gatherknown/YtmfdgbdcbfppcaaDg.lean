/- The document's Hear. Conditions: fewer than 300 joins. -/
import Derived.Test.YtmfdgbdcbfppcaaDf
namespace Go.Proofs.Ytmfdgbdcbfppcaa
open Go.RowKit Go.Maps Go.WideShapes
theorem infoJ : (Try.prog.info? 34).map (fun i => (i.zero, i.size, i.bytes)) = some (some (jv 0 0 0), 3, 24) := by kernel_rfl
/-- What the document's Hear makes. -/
def dL (n : Int) (l : List J3) (s q k : Int) : List J3 := if mb s q k && !(decide (s = n)) then l ++ [⟨s, q, k⟩] else l
theorem dL_lj (n : Int) (l : List J3) (s q k : Int) : lj (dL n l s q k) = hJ n (lj l) s q k := by
  unfold dL hJ
  split
  · rw [lj_app]
  · rfl
theorem dL_mx (n c : Int) (l : List J3) (s q k : Int) : mx c (dL n l s q k) = hG n (mx c l) s q k := by
  unfold dL hG
  split
  · rw [mx_app]
  · rfl
theorem dL_len (n : Int) (l : List J3) (s q k : Int) : (dL n l s q k).length ≤ l.length + 1 := by
  unfold dL
  split
  · simp
  · omega
theorem app3 (w : World) (x y z : Value) (t : TypeId) : ∀ j u, [x, y, z][j]? = some u → (w.alloc (.cells #[x, y, z] t)).cell? ((⟨w.heap.size, 0, none⟩ : Addr).add j) = some u := by
  intro j u hj
  rw [Cr.add_at]
  match j, hj with
  | 0, hj => simp at hj; subst hj; simp
  | 1, hj => simp at hj; subst hj; simp
  | 2, hj => simp at hj; subst hj; simp
  | j + 3, hj => simp at hj
theorem dHear_bad {w : World} {p : Nat} (s q k : Int) (hmb : mb s q k = false) :
    Calls Try.prog 12 #[.pointer (some ⟨p, 0, none⟩), jv s q k] w fun e w' => e = .returned (.tuple #[.bool false, .bool false, .int .i64 2]) ∧ Mod (fun _ => False) w w' := by
  have hA := (Mod.refl (fun _ => False) w).alloc (.cells #[.int .i64 s, .int .i64 q, .int .i64 k] 34)
  have HMB := fun W => May_w s q k W
  simp only [hmb] at HMB
  clear hmb
  unfold jv at *
  go_enter Try.func12, Try.ntmps12
  go_wp2_with (go_at_call 29; refine (HMB _).mono ?_; rintro e w2 ⟨rfl, hm2⟩)
  go_ret3
  exact ⟨rfl, hA.and hm2⟩
set_option maxRecDepth 100000 in
set_option maxHeartbeats 2000000 in
theorem dHear_own {w : World} {p : Nat} {Y : Nat → Prop} {n c : Int} {l : List J3} (hw : Dg w p Y n c l) (q k : Int) (hmb : mb n q k = true) :
    Calls Try.prog 12 #[.pointer (some ⟨p, 0, none⟩), jv n q k] w fun e w' => e = .returned (.tuple #[.bool false, .bool false, .int .i64 0]) ∧ Mod (fun _ => False) w w' := by
  have hA := (Mod.refl (fun _ => False) w).alloc (.cells #[.int .i64 n, .int .i64 q, .int .i64 k] 34)
  obtain ⟨v, b1, b2, b3⟩ := hw.blk
  have HB : Hid (Bk (w.alloc (.cells #[.int .i64 n, .int .i64 q, .int .i64 k] 34)) p 59 #[.int .i64 n, .int .i64 c, v]) := b1.mod hA (fun h => h)
  have HJ : Hid (Bk (w.alloc (.cells #[.int .i64 n, .int .i64 q, .int .i64 k] 34)) w.heap.size 34 #[.int .i64 n, .int .i64 q, .int .i64 k]) := Bk.new w _ _
  have HMB := fun W => May_w n q k W
  simp only [hmb] at HMB
  clear b1 b2 b3 hw hmb
  unfold jv at *
  go_enter Try.func12, Try.ntmps12
  go_wp2_with (go_at_call 29; refine (HMB _).mono ?_; rintro e w2 ⟨rfl, hm2⟩)
  have c0 : w2.cell? ⟨p, 0, none⟩ = some (.int .i64 n) := (HB.out.mod hm2 (fun h => h)).cellv (j := 0) rfl
  have j0 : w2.cell? ⟨w.heap.size, 0, none⟩ = some (.int .i64 n) := (HJ.out.mod hm2 (fun h => h)).cellv (j := 0) rfl
  clear HB HJ HMB
  go_region
  go_wp2_with (fail)
  go_ret3
  exact ⟨rfl, (hA.and hm2).drew⟩
set_option maxRecDepth 100000 in
set_option maxHeartbeats 4000000 in
theorem dHear_some {w : World} {p : Nat} {Y : Nat → Prop} {n c : Int} {l : List J3} (hw : Dg w p Y n c l) (hlen : l.length < 300) (s q k : Int) (hq : I64 q) (hmb : mb s q k = true) (hsn : s ≠ n) :
    Calls Try.prog 12 #[.pointer (some ⟨p, 0, none⟩), jv s q k] w fun e w' => ∃ Y', e = .returned (.tuple #[.bool (ch (lj l s) q k), .bool (!(lj l s).isSome), .int .i64 0]) ∧ Dg w' p Y' n c (l ++ [⟨s, q, k⟩]) ∧ Mod Y w w' ∧ Gone w Y Y' := by
  have hmt := mb_true hmb
  have HG : Hid (Gp n c (mx c (l ++ [⟨s, q, k⟩])) (lj (l ++ [⟨s, q, k⟩]))) := (show Gp _ _ _ _ by rw [lj_app, mx_app]; exact hw.gp.hear hmt hq)
  have hA := (Mod.refl (fun _ => False) w).alloc (.cells #[.int .i64 s, .int .i64 q, .int .i64 k] 34)
  have HD : Hid (Dg (w.alloc (.cells #[.int .i64 s, .int .i64 q, .int .i64 k] 34)) p Y n c l) := hw.keep hA
  have HJ : Hid (Bk (w.alloc (.cells #[.int .i64 s, .int .i64 q, .int .i64 k] 34)) w.heap.size 34 #[.int .i64 s, .int .i64 q, .int .i64 k]) := Bk.new w _ _
  have HX : Hid (Y p ∧ (∀ i, Y i → i < w.heap.size)) := ⟨hw.py, hw.lt⟩
  have HA : Hid (Mod (fun _ => False) w (w.alloc (.cells #[.int .i64 s, .int .i64 q, .int .i64 k] 34))) := hA
  have HMB := fun W => May_w s q k W
  simp only [hmb] at HMB
  have hsne : (s == n) = false := by simpa using hsn
  obtain ⟨a, b, d, ev, HCH⟩ : ∃ a b d, mj (lj l s) s = jv a b d ∧ Hid (ch (lj l s) q k = (!(lj l s).isSome || !(decide (a = s) && (decide (b = q) && decide (d = k))))) := by
    cases hj : lj l s with
    | none => exact ⟨0, 0, 0, rfl, rfl⟩
    | some j =>
      refine ⟨s, j.p, j.c, rfl, ?_⟩
      show (!(decide (j.p = q) && decide (j.c = k))) = _
      simp
  have HLA : Hid (∀ W, Mod (fun _ => False) (w.alloc (.cells #[.int .i64 s, .int .i64 q, .int .i64 k] 34)) W → Calls Try.prog 30 #[.pointer (some ⟨p, 0, none⟩), .int .i64 s] W fun e w' => e = .returned (.tuple #[.agg #[.int .i64 a, .int .i64 b, .int .i64 d], .bool (lj l s).isSome]) ∧ Mod (fun _ => False) W w') := fun W hm => by
    have := last_w (HD.out.keep hm) (by omega) s
    rw [ev] at this
    exact this
  have ER := fun W => eqJoin a b d s q k W
  generalize hr' : (decide (a = s) && (decide (b = q) && decide (d = k))) = r at ER HCH
  generalize ch (lj l s) q k = rc at HCH ⊢
  generalize (lj l s).isSome = bb at HLA HCH ⊢
  clear hmt hw hA hmb hsn hr' ev
  unfold jv at *
  go_enter Try.func12, Try.ntmps12
  go_wp2_with (go_at_call 29; refine (HMB _).mono ?_; rintro e w2 ⟨rfl, hm2⟩)
  have c0 : w2.cell? ⟨p, 0, none⟩ = some (.int .i64 n) := by
    obtain ⟨v, b1, b2, b3⟩ := (HD.out.keep hm2).blk
    exact b1.cellv (j := 0) rfl
  have j0 : w2.cell? ⟨w.heap.size, 0, none⟩ = some (.int .i64 s) := (HJ.out.mod hm2 (fun h => h)).cellv (j := 0) rfl
  have hmD := hm2.drew
  have HL2 := HLA.out _ hmD
  have HD2 : Hid (Dg w2.drew p Y n c l) := HD.out.keep hmD
  have HJ2 : Hid (Bk w2.drew w.heap.size 34 #[.int .i64 s, .int .i64 q, .int .i64 k]) := HJ.out.mod hmD (fun h => h)
  have HA2 : Hid (Mod (fun _ => False) w w2.drew) := HA.out.and hmD
  clear HD HJ HMB hm2 hmD HA HLA
  go_region
  go_wp2_with (go_at_call 30; refine HL2.mono ?_; rintro e w3 ⟨rfl, hm3⟩)
  have hm4 := hm3.alloc (.cells #[.int .i64 a, .int .i64 b, .int .i64 d] 34)
  have HD4 : Hid (Dg _ p Y n c l) := HD2.out.keep hm4
  have HJ4 : Hid (Bk _ w.heap.size 34 #[.int .i64 s, .int .i64 q, .int .i64 k]) := HJ2.out.mod hm4 (fun h => h)
  have HN4 : Hid (Bk _ w3.heap.size 34 #[.int .i64 a, .int .i64 b, .int .i64 d]) := Bk.new w3 _ _
  have HA4 : Hid (Mod (fun _ => False) w _) := HA2.out.and hm4
  have HZ3 : Hid (w.heap.size ≤ w3.heap.size) := (HA2.out.and hm3).size
  clear c0 j0 HL2 hm3 hm4 HD2 HJ2 HA2
  generalize w3.heap.size = z3 at *
  generalize w3.alloc (.cells #[.int .i64 a, .int .i64 b, .int .i64 d] 34) = W at *
  obtain ⟨i0, hi, hz0, hz1, hz2⟩ := info_parts infoJ
  obtain ⟨v, b1, b2, b3⟩ := HD4.out.blk
  obtain ⟨ao, cap, rfl⟩ := b2.shape
  have HB1 : Hid (Bk W p 59 #[.int .i64 n, .int .i64 c, .slice ao l.length cap]) := b1
  have HB2 : Hid (RJ W (.slice ao l.length cap) l) := b2
  have HB3 : Hid (∀ g, (Value.slice ao l.length cap).ownBlock = some g → Y g) := b3
  have HNE : Hid ((Value.slice ao l.length cap).ownBlock ≠ some p) := b2.ne_bk b1 (by decide)
  have q2 : W.cell? ⟨p, 2, none⟩ = some (.slice ao l.length cap) := b1.cellv (j := 2) rfl
  have d0 : W.cell? ⟨w.heap.size, 0, none⟩ = some (.int .i64 s) := HJ4.out.cellv (j := 0) rfl
  have d1 : W.cell? ⟨w.heap.size, 1, none⟩ = some (.int .i64 q) := HJ4.out.cellv (j := 1) rfl
  have d2 : W.cell? ⟨w.heap.size, 2, none⟩ = some (.int .i64 k) := HJ4.out.cellv (j := 2) rfl
  have hal1 : ∀ o : Obj, (W.alloc o).drew.cell? ⟨p, 2, none⟩ = some (.slice ao l.length cap) := fun o => (b1.mod (((Mod.refl (fun _ => False) W).alloc o).drew) (fun h => h)).cellv (j := 2) rfl
  have hgr : ∀ (o : Obj) (w1 : World), (W.alloc o).drew.grownBy w1 (Value.slice ao l.length cap).ownBlock → w1.cell? ⟨p, 2, none⟩ = some (.slice ao l.length cap) ∧ w1.frozen? ⟨p, 2, none⟩ = false := fun o w1 hg => by
    have hm1 : Mod (fun k => (Value.slice ao l.length cap).ownBlock = some k) W w1 := (((Mod.refl _ W).alloc o).drew).grown hg (fun k hk _ => hk)
    have hb := b1.mod hm1 HNE.out
    exact ⟨hb.cellv (j := 2) rfl, hb.frz 2⟩
  have hrow := fun o => b2.mod (((Mod.refl (fun _ => False) W).alloc o).drew) (fun _ _ h => h)
  clear b1 b2 b3 HD4
  go_region_law ((refine step_append_lies _ (by rfl) _ _ 22 (by rfl) 0 34 i0 _ 3 24 Try.underlying22 hi hz0 hz1 hz2 rfl (by decide) (.slice ao l.length cap) l.length (fj l) (by rfl) (hrow _) ⟨W.heap.size, 0, none⟩ 1 1 [.int .i64 s, .int .i64 q, .int .i64 k] (by rfl) rfl (by exact app3 _ _ _ _ _) (by simp [Value.oneCell']) (by omega) (by simp only [maxLen]; omega) (by omega) (Nat.zero_le _) (W.heap.size + 1) (by simp) ?_; intro g cap1 w5 hown1 hgrow hg hlt; obtain ⟨hk1, hk2⟩ := hgr _ w5 hgrow))
  all_goals
    have hm5 : Mod (fun k => (Value.slice ao l.length cap).ownBlock = some k) W w5 := (((Mod.refl _ W).alloc _).drew).grown hgrow (fun k hk _ => hk)
    have hB5 := HB1.out.mod hm5 HNE.out
    have hR5 : RJ w5 (.slice (some ⟨g, 0, none⟩) (l.length + 1) cap1) (l ++ [⟨s, q, k⟩]) := by
      unfold RJ
      rw [fj_app, List.length_append]
      exact hown1
    have hgp := hR5.ne_bk hB5 (by decide)
    have hB6 := hB5.set 2 (.slice (some ⟨g, 0, none⟩) (l.length + 1) cap1)
    simp only [List.setIfInBounds_toArray, List.set_cons_succ, List.set_cons_zero] at hB6
    have hm6 := (Mod.refl (fun i => i = p) w5).setCell ⟨p, 2, none⟩ (.slice (some ⟨g, 0, none⟩) (l.length + 1) cap1) (.inl rfl)
    have HB6 : Hid (Bk _ _ _ _) := hB6
    have hpl := HX.out.2 p HX.out.1
    have HJ6 : Hid (Bk _ _ _ _) := (HJ4.out.mod hm5 (fun e => by have := HX.out.2 _ (HB3.out _ e); omega)).mod hm6 (by omega)
    have HN6 : Hid (Bk _ _ _ _) := (HN4.out.mod hm5 (fun e => by have := HX.out.2 _ (HB3.out _ e); have := HZ3.out; omega)).mod hm6 (by have := HZ3.out; omega)
    have HR6 : Hid (RJ _ _ _) := hR5.mod hm6 (fun g' hg' e => hgp (by rw [hg', e]))
    have HA6 : Hid (Mod Y w _) := (HA4.out.trans hm5 (V := Y) (fun _ _ h => h.elim) (fun i _ h => HB3.out i h)).trans hm6 (V := Y) (fun _ _ h => h) (fun i _ h => by subst h; exact HX.out.1)
    have HGO : Hid (Y g ∨ w.heap.size ≤ g) := by
      rcases hg with h1 | h1
      · exact .inl (HB3.out g h1)
      · have := HA4.out.size
        exact .inr (by omega)
    have HGL : Hid (g < w5.heap.size ∧ p < w5.heap.size) := ⟨hlt, by have := HA4.out.size; have := hm5.size; omega⟩
    have j0 : (w5.setCell ⟨p, 2, none⟩ (.slice (some ⟨g, 0, none⟩) (l.length + 1) cap1)).cell? ⟨w.heap.size, 0, none⟩ = some (.int .i64 s) := HJ6.out.cellv (j := 0) rfl
    have j1 : (w5.setCell ⟨p, 2, none⟩ (.slice (some ⟨g, 0, none⟩) (l.length + 1) cap1)).cell? ⟨w.heap.size, 1, none⟩ = some (.int .i64 q) := HJ6.out.cellv (j := 1) rfl
    have j2 : (w5.setCell ⟨p, 2, none⟩ (.slice (some ⟨g, 0, none⟩) (l.length + 1) cap1)).cell? ⟨w.heap.size, 2, none⟩ = some (.int .i64 k) := HJ6.out.cellv (j := 2) rfl
    have k0 : (w5.setCell ⟨p, 2, none⟩ (.slice (some ⟨g, 0, none⟩) (l.length + 1) cap1)).cell? ⟨z3, 0, none⟩ = some (.int .i64 a) := HN6.out.cellv (j := 0) rfl
    have k1 : (w5.setCell ⟨p, 2, none⟩ (.slice (some ⟨g, 0, none⟩) (l.length + 1) cap1)).cell? ⟨z3, 1, none⟩ = some (.int .i64 b) := HN6.out.cellv (j := 1) rfl
    have k2 : (w5.setCell ⟨p, 2, none⟩ (.slice (some ⟨g, 0, none⟩) (l.length + 1) cap1)).cell? ⟨z3, 2, none⟩ = some (.int .i64 d) := HN6.out.cellv (j := 2) rfl
    clear hm5 hB5 hR5 hgp hB6 hm6 hpl hk1 hk2 hgr hal1 hrow hown1 hgrow hg hlt q2 d0 d1 d2
    have HFIN : Hid (Dg (w5.setCell ⟨p, 2, none⟩ (.slice (some ⟨g, 0, none⟩) (l.length + 1) cap1)) p (fun i => i = p ∨ i = g) n c (l ++ [⟨s, q, k⟩]) ∧ Mod Y w (w5.setCell ⟨p, 2, none⟩ (.slice (some ⟨g, 0, none⟩) (l.length + 1) cap1)) ∧ Gone w Y (fun i => i = p ∨ i = g)) := ⟨⟨⟨_, HB6.out, HR6.out, fun g' hg' => by simp only [Value.ownBlock, Option.some.injEq] at hg'; exact .inr hg'.symm⟩, .inl rfl, fun i hi => by have := HGL.out; simp [World.setCell]; omega, HG.out⟩, HA6.out, fun i hi => by rcases hi with rfl | rfl; exact .inl HX.out.1; exact HGO.out⟩
    clear HB6 HR6 HA6 HGO HGL HJ6 HN6
    cases bb
    · have HR : Hid (rc = true) := (show _ = _ by rw [HCH.out]; rfl)
      go_wp2
      go_ret3
      exact ⟨_, by rw [HR.out]; rfl, HFIN.out⟩
    · have HR : Hid (rc = !r) := (show _ = _ by rw [HCH.out]; rfl)
      go_wp2
      go_ret3
      exact ⟨_, by rw [HR.out]; rfl, HFIN.out⟩
/-- The document's Hear, in one form. -/
theorem dHear_any {w : World} {p : Nat} {Y : Nat → Prop} {n c : Int} {l : List J3} (hw : Dg w p Y n c l) (hlen : l.length < 300) (s q k : Int) (hq : I64 q) :
    Calls Try.prog 12 #[.pointer (some ⟨p, 0, none⟩), jv s q k] w fun e w' => ∃ Y', e = .returned (.tuple #[.bool (h1 n (lj l) s q k), .bool (h2 n (lj l) s q k), .int .i64 (h3 s q k)]) ∧ Dg w' p Y' n c (dL n l s q k) ∧ Mod Y w w' ∧ Gone w Y Y' := by
  unfold h1 h2 h3 dL
  cases hmb : mb s q k with
  | false =>
    refine (dHear_bad (p := p) s q k hmb).mono ?_
    rintro e w' ⟨rfl, hm⟩
    exact ⟨Y, rfl, hw.keep hm, hm.none, fun i hi => .inl hi⟩
  | true =>
    by_cases e : s = n
    · subst e
      refine (dHear_own hw q k hmb).mono ?_
      rintro e w' ⟨rfl, hm⟩
      refine ⟨Y, by simp, ?_, hm.none, fun i hi => .inl hi⟩
      simpa using hw.keep hm
    · refine (dHear_some hw hlen s q k hq hmb e).mono ?_
      rintro _ w' ⟨Y', rfl, hg, hm⟩
      refine ⟨Y', by simp [e], ?_, hm⟩
      simpa [e] using hg
end Go.Proofs.Ytmfdgbdcbfppcaa
