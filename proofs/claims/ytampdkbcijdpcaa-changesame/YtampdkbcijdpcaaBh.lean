/- The laws' awake. No conditions. -/
import Derived.Test.YtampdkbcijdpcaaBg
import Derived.Deep.RegionHeld3
namespace Go.Proofs.Ytampdkbcijdpcaa
open Go.RowKit Go.Maps
theorem Nc.uniq {J : Int → Option Dt} {s N : Int} {t t' : Nat} (h : Nc J s N t) (h' : Nc J s N t') : t = t' := by
  rcases Nat.lt_trichotomy t t' with e | e | e
  · have := h'.on t e; rw [h.off] at this; cases this
  · exact e
  · have := h.on t' e; rw [h'.off] at this; cases this
theorem ncU : Nc JU 2 1 2 := ⟨fun i hi => by
  rcases (by omega : i = 0 ∨ i = 1) with rfl | rfl
  · decide
  · decide, by decide⟩
theorem ksU {a : Int} (hp : Wp JU a 7) : Ks JU 3 [4, 6, 7] := by
  refine ⟨by decide, fun x => ?_⟩
  constructor
  · intro hx
    simp only [List.mem_cons, List.not_mem_nil, or_false] at hx
    rcases hx with rfl | rfl | rfl
    · decide
    · decide
    · decide
  · rintro ⟨h1, h2⟩
    have h3 := hp.high.2.2 x h2
    rcases (by omega : x = 4 ∨ x = 5 ∨ x = 6 ∨ x = 7) with rfl | rfl | rfl | rfl
    · simp
    · exact absurd h2 (by decide)
    · simp
    · simp
theorem fewU : Few JU 1 1000000 := fun m hm => by
  rcases Nat.lt_or_ge m 8 with h | h
  · omega
  · have := hm 7 (by omega)
    exact absurd this (by decide)
def EU : List Ev := [evD (oz 2 2 true), evD (oz 3 3 false), evC ⟨5, 1, 2, 1, 6, true, 0⟩, evD (oz 4 1 true), evD (oz 6 1 false), evC ⟨5, 1, 0, 0, 22, false, 40⟩]
theorem tldU : tld JU cgE cgX 6 1 2 ([4, 6, 7].map (fun k => (JU k).getD d0)) = EU := by rfl
theorem numU : EU.map evN = [2, 3, 0, 4, 6, -1] := by decide
theorem okU2 : atOK cgE cgX 1 6 = true := by decide +kernel
theorem eqC1 (W : World) : (Op.equalIn 10000 25 (.agg #[.int .i64 5, .int .i64 1, .int .i64 2, .int .i64 1, .int .i64 6, .bool true, .int .i64 0]) (.agg #[.int .i64 5, .int .i64 1, .int .i64 2, .int .i64 1, .int .i64 6, .bool true, .int .i64 0])).run Try.prog W = .ok true W := by simp [go_sem]
theorem eqC2 (W : World) : (Op.equalIn 10000 25 (.agg #[.int .i64 5, .int .i64 1, .int .i64 0, .int .i64 0, .int .i64 22, .bool false, .int .i64 40]) (.agg #[.int .i64 5, .int .i64 1, .int .i64 0, .int .i64 0, .int .i64 22, .bool false, .int .i64 40])).run Try.prog W = .ok true W := by simp [go_sem]
set_option maxRecDepth 100000 in
set_option maxHeartbeats 8000000 in
theorem awake_any (w : World) : Calls Try.prog 14 #[] w fun e w' => e = .returned (.bool true) ∧ Mod (fun _ => False) w w' := by
  have HN := fun W => next_w W
  have HE1 := eqC1
  have HE2 := eqC2
  go_enter Try.func14, Try.ntmps14
  go_wp2_with (fail)
  refine (ending_w _).mono ?_
  rintro e w1 ⟨rfl, hm1⟩
  go_wp2_with (fail)
  refine (usual_w _).mono ?_
  rintro e w2 ⟨p, rfl, a, hz2⟩
  have HZ2 : Hid (Wz w1 w2 (fun _ => False) p JU a 7 6) := hz2
  have HM1 : Hid (Mod (fun _ => False) w w1) := hm1
  clear hz2 hm1
  go_wp2_with (fail)
  refine (HN _).mono ?_
  rintro e w3 ⟨rfl, hm3⟩
  have hz3 := HZ2.out.keep hm3
  obtain ⟨X, hX, -, -⟩ := hz3.ex
  have HP : Hid (Wp JU a 7) := hX.wp
  have HAT := At_w hX (by decide) cgE cgX 1 2 6 ⟨by decide, by decide⟩ ⟨by decide, by decide⟩ ⟨by decide, by decide⟩ ⟨by decide, by decide⟩ okU2 fewU
  have HM3 : Hid (Mod (fun _ => False) w w3) := HM1.out.and hz3.mod
  clear hm3 hz3 hX HZ2 HM1
  go_wp2_with (fail)
  refine HAT.mono ?_
  rintro e w4 ⟨k, v, es, zs, rfl, hnc, -, hks, hmap, hre, hle, hm4⟩
  obtain rfl := hnc.uniq ncU
  obtain rfl := hks.uniq (ksU HP.out) (fun _ => rfl)
  rw [tldU] at hmap
  have hl6 : es.length = 6 := by have := congrArg List.length hmap; simpa [EU] using this
  obtain ⟨g, of, cp, rfl, hrg⟩ := hre.row.range (by omega)
  have ge : ∀ i e, EU[i]? = some e → ∃ u, es[i]? = some (e, u) := fun i e h => by
    rw [← hmap, List.getElem?_map] at h
    cases hi : es[i]? with
    | none => rw [hi] at h; cases h
    | some y => rw [hi] at h; simp at h; exact ⟨y.2, by rw [hi, ← h]⟩
  obtain ⟨u2, hu2⟩ := ge 2 (evC ⟨5, 1, 2, 1, 6, true, 0⟩) rfl
  obtain ⟨u5, hu5⟩ := ge 5 (evC ⟨5, 1, 0, 0, 22, false, 40⟩) rfl
  have HF0 : Hid (w4.cell? ⟨g, of + 53, none⟩ = some (.int .i64 5) ∧ w4.cell? ⟨g, of + 54, none⟩ = some (.int .i64 1) ∧ w4.cell? ⟨g, of + 55, none⟩ = some (.int .i64 2) ∧ w4.cell? ⟨g, of + 56, none⟩ = some (.int .i64 1) ∧ w4.cell? ⟨g, of + 57, none⟩ = some (.int .i64 6) ∧ w4.cell? ⟨g, of + 58, none⟩ = some (.bool true) ∧ w4.cell? ⟨g, of + 59, none⟩ = some (.int .i64 0) ∧ w4.cell? ⟨g, of + 131, none⟩ = some (.int .i64 5) ∧ w4.cell? ⟨g, of + 132, none⟩ = some (.int .i64 1) ∧ w4.cell? ⟨g, of + 133, none⟩ = some (.int .i64 0) ∧ w4.cell? ⟨g, of + 134, none⟩ = some (.int .i64 0) ∧ w4.cell? ⟨g, of + 135, none⟩ = some (.int .i64 22) ∧ w4.cell? ⟨g, of + 136, none⟩ = some (.bool false) ∧ w4.cell? ⟨g, of + 137, none⟩ = some (.int .i64 40)) := ⟨hrg 53 _ (fe_get es 2 _ hu2 1 _ rfl), hrg 54 _ (fe_get es 2 _ hu2 2 _ rfl), hrg 55 _ (fe_get es 2 _ hu2 3 _ rfl), hrg 56 _ (fe_get es 2 _ hu2 4 _ rfl), hrg 57 _ (fe_get es 2 _ hu2 5 _ rfl), hrg 58 _ (fe_get es 2 _ hu2 6 _ rfl), hrg 59 _ (fe_get es 2 _ hu2 7 _ rfl), hrg 131 _ (fe_get es 5 _ hu5 1 _ rfl), hrg 132 _ (fe_get es 5 _ hu5 2 _ rfl), hrg 133 _ (fe_get es 5 _ hu5 3 _ rfl), hrg 134 _ (fe_get es 5 _ hu5 4 _ rfl), hrg 135 _ (fe_get es 5 _ hu5 5 _ rfl), hrg 136 _ (fe_get es 5 _ hu5 6 _ rfl), hrg 137 _ (fe_get es 5 _ hu5 7 _ rfl)⟩
  have HNU : Hid (es.map (fun x => evN x.1) = [2, 3, 0, 4, 6, -1]) := by
    show _ = _
    rw [← numU, ← hmap, List.map_map]
    rfl
  have HRE : Hid (Re w4 w3.heap.size (.slice (some ⟨g, of, none⟩) es.length cp) es) := hre
  have HM4 : Hid (Mod (fun _ => False) w w4) := HM3.out.and hm4
  have HL6 : Hid (es.length = 6) := hl6
  clear hrg ge hu2 hu5 hnc hks hmap hre hle hm4 HAT HP
  rw [hl6]
  clear hl6
  have hmod := (Mod.refl (fun _ => False) w4).drew
  go_upto_region 2 with (fail)
  have HF : ∀ W, Mod (fun _ => False) w4 W → (W.cell? ⟨g, of + 53, none⟩ = some (.int .i64 5) ∧ W.cell? ⟨g, of + 54, none⟩ = some (.int .i64 1) ∧ W.cell? ⟨g, of + 55, none⟩ = some (.int .i64 2) ∧ W.cell? ⟨g, of + 56, none⟩ = some (.int .i64 1) ∧ W.cell? ⟨g, of + 57, none⟩ = some (.int .i64 6) ∧ W.cell? ⟨g, of + 58, none⟩ = some (.bool true) ∧ W.cell? ⟨g, of + 59, none⟩ = some (.int .i64 0) ∧ W.cell? ⟨g, of + 131, none⟩ = some (.int .i64 5) ∧ W.cell? ⟨g, of + 132, none⟩ = some (.int .i64 1) ∧ W.cell? ⟨g, of + 133, none⟩ = some (.int .i64 0) ∧ W.cell? ⟨g, of + 134, none⟩ = some (.int .i64 0) ∧ W.cell? ⟨g, of + 135, none⟩ = some (.int .i64 22) ∧ W.cell? ⟨g, of + 136, none⟩ = some (.bool false) ∧ W.cell? ⟨g, of + 137, none⟩ = some (.int .i64 40)) := fun W hW => by
    obtain ⟨x0, x1, x2, x3, x4, x5, x6, x7, x8, x9, x10, x11, x12, x13⟩ := HF0.out
    exact ⟨hW.cell x0 (fun h => h), hW.cell x1 (fun h => h), hW.cell x2 (fun h => h), hW.cell x3 (fun h => h), hW.cell x4 (fun h => h), hW.cell x5 (fun h => h), hW.cell x6 (fun h => h), hW.cell x7 (fun h => h), hW.cell x8 (fun h => h), hW.cell x9 (fun h => h), hW.cell x10 (fun h => h), hW.cell x11 (fun h => h), hW.cell x12 (fun h => h), hW.cell x13 (fun h => h)⟩
  have HNB : ∀ W, Mod (fun _ => False) w4 W → Calls Try.prog 20 #[.slice (some ⟨g, of, none⟩) 6 cp] W fun e w' => ∃ ao c, e = .returned (.slice ao 6 c) ∧ Cr.Own w' (.slice ao 6 c) [2, 3, 0, 4, 6, -1] ∧ Mod (fun _ => False) W w' := fun W hW => by
    have h := numbersOf_w (.slice (some ⟨g, of, none⟩) es.length cp) es W (HRE.out.keep hW).row (by rw [HL6.out]; decide)
    rw [HL6.out] at h
    refine h.mono ?_
    rintro e w' ⟨u, rfl, h1, h2, -⟩
    rw [HNU.out] at h1
    obtain ⟨ao, c, rfl⟩ := h1.shape
    exact ⟨ao, c, rfl, h1, h2⟩
  obtain ⟨x0, x1, x2, x3, x4, x5, x6, x7, x8, x9, x10, x11, x12, x13⟩ := HF _ hmod
  have HEA : ∀ (W : World) (ao : Option Addr) (co : Nat), Cr.Own W (.slice ao 6 co) [2, 3, 0, 4, 6, -1] → Calls Try.prog 21 #[.slice ao 6 co, .slice (some ⟨W.heap.size, 0, none⟩) 6 6] (W.alloc (.cells #[.int .i64 2, .int .i64 3, .int .i64 0, .int .i64 4, .int .i64 6, .int .i64 (-1)] 3)) fun e w' => e = .returned (.bool true) ∧ Mod (fun _ => False) (W.alloc (.cells #[.int .i64 2, .int .i64 3, .int .i64 0, .int .i64 4, .int .i64 6, .int .i64 (-1)] 3)) w' := fun W ao co ho =>
    Cr.EqInts_at true ((ho.mod ((Mod.refl (fun _ => False) _).alloc _) (fun _ _ h => h)).sl) (Cr.Own.lit W [2, 3, 0, 4, 6, -1] (by simp [maxLen])).sl (by decide)
  have HEB : ∀ (W W2 : World) (ao : Option Addr) (co : Nat), Mod (fun _ => False) (W.alloc (.cells #[.int .i64 2, .int .i64 3, .int .i64 0, .int .i64 4, .int .i64 6, .int .i64 (-1)] 3)) W2 → Cr.Own W2 (.slice ao 6 co) [2, 3, 0, 4, 6, -1] → Calls Try.prog 21 #[.slice ao 6 co, .slice (some ⟨W.heap.size, 0, none⟩) 6 6] W2 fun e w' => e = .returned (.bool true) ∧ Mod (fun _ => False) W2 w' := fun W W2 ao co hm ho =>
    Cr.EqInts_at true ho.sl ((Cr.Own.lit W [2, 3, 0, 4, 6, -1] (by simp [maxLen])).mod hm (fun _ _ h => h)).sl (by decide)
  have hmd : Mod (fun _ => False) w4 (w4.alloc (.cells #[.int .i64 2, .int .i64 3, .int .i64 0, .int .i64 4, .int .i64 6, .int .i64 (-1)] 3)).drew := ((Mod.refl (fun _ => False) w4).alloc _).drew
  have hmq : Mod (fun _ => False) (w4.alloc (.cells #[.int .i64 2, .int .i64 3, .int .i64 0, .int .i64 4, .int .i64 6, .int .i64 (-1)] 3)) (w4.alloc (.cells #[.int .i64 2, .int .i64 3, .int .i64 0, .int .i64 4, .int .i64 6, .int .i64 (-1)] 3)).drew := (Mod.refl (fun _ => False) _).drew
  go_region_held3 (fun U => U.cell? ⟨g, of + 53, none⟩ = some (.int .i64 5) ∧ U.cell? ⟨g, of + 54, none⟩ = some (.int .i64 1) ∧ U.cell? ⟨g, of + 55, none⟩ = some (.int .i64 2) ∧ U.cell? ⟨g, of + 56, none⟩ = some (.int .i64 1) ∧ U.cell? ⟨g, of + 57, none⟩ = some (.int .i64 6) ∧ U.cell? ⟨g, of + 58, none⟩ = some (.bool true) ∧ U.cell? ⟨g, of + 59, none⟩ = some (.int .i64 0) ∧ U.cell? ⟨g, of + 131, none⟩ = some (.int .i64 5) ∧ U.cell? ⟨g, of + 132, none⟩ = some (.int .i64 1) ∧ U.cell? ⟨g, of + 133, none⟩ = some (.int .i64 0) ∧ U.cell? ⟨g, of + 134, none⟩ = some (.int .i64 0) ∧ U.cell? ⟨g, of + 135, none⟩ = some (.int .i64 22) ∧ U.cell? ⟨g, of + 136, none⟩ = some (.bool false) ∧ U.cell? ⟨g, of + 137, none⟩ = some (.int .i64 40)) (first | with_reducible exact ⟨x0, x1, x2, x3, x4, x5, x6, x7, x8, x9, x10, x11, x12, x13⟩ | with_reducible exact HF _ hmod | with_reducible exact HF _ (hmod.alloc _) | with_reducible exact HF _ hmd) (first
    | (go_at_call 20; with_reducible refine (HNB _ hmod).mono ?_; rintro e wa ⟨ao, co, rfl, ho, hmx⟩; replace hmod := hmod.and hmx; obtain ⟨x0, x1, x2, x3, x4, x5, x6, x7, x8, x9, x10, x11, x12, x13⟩ := HF _ hmod)
    | (go_at_call 20; with_reducible refine (HNB _ hmd).mono ?_; rintro e wa ⟨ao, co, rfl, ho, hmx⟩; have hmy := hmq.and hmx; replace hmod := hmd.and hmx; obtain ⟨x0, x1, x2, x3, x4, x5, x6, x7, x8, x9, x10, x11, x12, x13⟩ := HF _ hmod)
    | (go_at_call 21; with_reducible refine (HEA _ _ _ ho).mono ?_; rintro e wb ⟨rfl, hmx⟩; replace hmod := (hmod.alloc _).and hmx; obtain ⟨x0, x1, x2, x3, x4, x5, x6, x7, x8, x9, x10, x11, x12, x13⟩ := HF _ hmod)
    | (go_at_call 21; with_reducible refine (HEB _ _ _ _ hmy ho).mono ?_; rintro e wb ⟨rfl, hmx⟩; replace hmod := hmod.and hmx; obtain ⟨x0, x1, x2, x3, x4, x5, x6, x7, x8, x9, x10, x11, x12, x13⟩ := HF _ hmod)
    | (go_at_call 25; with_reducible refine (HN _).mono ?_; rintro e wc ⟨rfl, hmx⟩; replace hmod := hmod.and hmx; obtain ⟨x0, x1, x2, x3, x4, x5, x6, x7, x8, x9, x10, x11, x12, x13⟩ := HF _ hmod))
  all_goals have HFIN : Hid (Mod (fun _ => False) w _) := HM4.out.and hmod
  all_goals go_wp2
  all_goals go_ret
  all_goals exact ⟨rfl, HFIN.out⟩
end Go.Proofs.Ytampdkbcijdpcaa
