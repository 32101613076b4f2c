/- Contract of token's Answer. Conditions: sizes that a slice has. -/
import Derived.Test.YtbjkncfpddhpkaaAq
namespace Go.Proofs.Ytbjkncfpddhpkaa
open Go.RowKit
theorem contains_sort (H : List Int) (x : Int) : (H.mergeSort fun x y => decide (x ≤ y)).contains x = H.contains x := by
  have hp := List.mergeSort_perm H (fun x y => decide (x ≤ y))
  rw [Bool.eq_iff_iff]
  simp only [List.contains_iff_mem]
  exact hp.mem_iff
theorem sort_up (H : List Int) : (H.mergeSort fun x y => decide (x ≤ y)).Pairwise (· ≤ ·) := by
  have hs := List.pairwise_mergeSort (le := fun x y : Int => decide (x ≤ y)) (fun a b c h1 h2 => by simp only [decide_eq_true_eq] at *; omega) (fun a b => by simp only [Bool.or_eq_true, decide_eq_true_eq]; omega) H
  exact hs.imp fun {a b} h => by simpa using h
theorem own_th {w : World} {v : Value} {l : List Int} (h : Cr.Own w v l) (hu : l.Pairwise (· ≤ ·)) (hl : l.length ≤ 140737488355328) : Th w v l := by
  refine ⟨?_, hu, hl⟩
  rcases h.2 with ⟨rfl, h0⟩ | ⟨g, cap, cur, rfl, _⟩
  · exact .inl ⟨rfl, List.eq_nil_of_length_eq_zero h0⟩
  · refine .inr ⟨g, cap, rfl, fun j hj => ?_⟩
    obtain ⟨ao, cp, e, _, _, _, hc⟩ := h.sl
    cases e
    obtain ⟨b, off, e2, hcc⟩ := hc (by intro e; rw [e] at hj; simp at hj)
    cases e2
    exact hcc j hj
theorem del_own (B : Nat) (tv : Value) (T : List Int) (v : Value) (l : List Int) (w : World) (hB : w.cell? ⟨B, 0, none⟩ = some tv) (hT : Th w tv T) (hlt : ∀ q, tv.ownBlock = some q → q < w.heap.size ∧ v.ownBlock ≠ some q) (hBl : B < w.heap.size ∧ v.ownBlock ≠ some B) (h : Cr.Own w v l) :
    Calls Try.prog 33 #[v, .func (.func 34) #[] #[.pointer (some ⟨B, 0, none⟩)]] w fun e w' => ∃ v', e = .returned v' ∧ Aw w' v' (l.filter fun x => !T.contains x) ∧ v'.ownBlock = v.ownBlock ∧ Mod (fun i => v.ownBlock = some i) w w' := by
  have hA := h.aw
  rcases h.2 with ⟨rfl, h0⟩ | ⟨g, cap, cur, rfl, _⟩
  · obtain rfl : l = [] := List.eq_nil_of_length_eq_zero h0
    refine (del_nil _ w).mono ?_
    rintro e w' ⟨rfl, rfl⟩
    exact ⟨_, rfl, by simpa using hA, rfl, Mod.refl _ _⟩
  · refine (del_some B g cap tv T l w hB hT (fun q hq => ⟨(hlt q hq).1, fun e => (hlt q hq).2 (by rw [e]; rfl)⟩) ⟨hBl.1, fun e => hBl.2 (by rw [e]; rfl)⟩ hA).mono ?_
    rintro e w' ⟨rfl, h1, h2⟩
    exact ⟨_, rfl, h1, rfl, h2.mono (fun i _ e => by subst e; rfl)⟩
set_option maxRecDepth 100000 in
set_option maxHeartbeats 4000000 in
theorem answer_any (rs rr hp sq ar lw st ix : Int) (ao : Option Addr) (cap : Nat) (l : List Int) (hv : Value) (H : List Int) (w : World) (hs : Cr.Sl w (.slice ao l.length cap) l) (hl : l.length ≤ 16) (hH : Cr.Sl w hv H) (hHl : H.length ≤ 17592186044416) :
    Calls Try.prog 19 #[.agg #[.int .i64 rs, .int .i64 rr, .int .i64 hp, .int .i64 sq, .int .i64 ar, .int .i64 lw, .int .i64 st, .int .i64 ix, .slice ao l.length cap], hv] w fun e w' => ∃ ao2 cap2, e = .returned (.agg #[.int .i64 rs, .int .i64 rr, .int .i64 hp, .int .i64 sq, .int .i64 ar, .int .i64 lw, .int .i64 st, .int .i64 ix, .slice ao2 (l.filter fun x => !H.contains x).length cap2]) ∧ Aw w' (.slice ao2 (l.filter fun x => !H.contains x).length cap2) (l.filter fun x => !H.contains x) ∧ Mod (fun _ => False) w w' := by
  have hA := ((Mod.refl (fun _ => False) w).alloc (.cells #[.int .i64 rs, .int .i64 rr, .int .i64 hp, .int .i64 sq, .int .i64 ar, .int .i64 lw, .int .i64 st, .int .i64 ix, .slice ao l.length cap] 26)).alloc (.cells #[.int .i64 0, .int .i64 0, .int .i64 0, .int .i64 0, .int .i64 0, .int .i64 0, .int .i64 0, .int .i64 0, .slice none 0 0] 26)
  have hT0 := (Bk.new w #[.int .i64 rs, .int .i64 rr, .int .i64 hp, .int .i64 sq, .int .i64 ar, .int .i64 lw, .int .i64 st, .int .i64 ix, .slice ao l.length cap] 26).mod ((Mod.refl (fun _ => False) _).alloc (.cells #[.int .i64 0, .int .i64 0, .int .i64 0, .int .i64 0, .int .i64 0, .int .i64 0, .int .i64 0, .int .i64 0, .slice none 0 0] 26)) (fun h => h)
  have hR0 := Bk.new (w.alloc (.cells #[.int .i64 rs, .int .i64 rr, .int .i64 hp, .int .i64 sq, .int .i64 ar, .int .i64 lw, .int .i64 st, .int .i64 ix, .slice ao l.length cap] 26)) #[.int .i64 0, .int .i64 0, .int .i64 0, .int .i64 0, .int .i64 0, .int .i64 0, .int .i64 0, .int .i64 0, .slice none 0 0] 26
  rw [show (w.alloc (.cells #[.int .i64 rs, .int .i64 rr, .int .i64 hp, .int .i64 sq, .int .i64 ar, .int .i64 lw, .int .i64 st, .int .i64 ix, .slice ao l.length cap] 26)).heap.size = w.heap.size + 1 by simp] at hR0
  have hs0 := hs.mod hA (fun _ _ h => h)
  have HOW := Cr.own_any hv H _ (hH.mod hA (fun _ _ h => h)) hHl
  have HA : Hid (Mod (fun _ => False) w _) := hA
  have HT0 : Hid (Bk _ _ _ _) := hT0
  have HR0 : Hid (Bk _ _ _ _) := hR0
  have HS0 : Hid (Cr.Sl _ (.slice ao l.length cap) l) := hs0
  have HLL : Hid (l.length ≤ 16 ∧ H.length ≤ 17592186044416) := ⟨hl, hHl⟩
  clear hA hT0 hR0 hs0 hs hH hl hHl
  go_enter Try.func19, Try.ntmps19
  go_wp2_with (fail)
  refine HOW.mono ?_
  rintro e w1 ⟨v1, rfl, ho1, hm1, hn1⟩
  obtain ⟨a1, c1, rfl⟩ := ho1.shape
  clear HOW
  go_wp2_with (fail)
  obtain ⟨B, eB⟩ : ∃ B, B = w1.heap.size := ⟨_, rfl⟩
  have hAB := (Mod.refl (fun _ => False) w1).alloc (.cells #[.slice a1 H.length c1] 24)
  have hBB := Bk.new w1 #[.slice a1 H.length c1] 24
  have hoB := ho1.mod hAB (fun _ _ h => h)
  have lt1 := ho1.lt
  rw [← eB] at hBB ⊢
  have s0 : w.heap.size + 2 ≤ w1.heap.size := by have := hm1.size; simp at this; omega
  have sz0 : ((w.alloc (.cells #[.int .i64 rs, .int .i64 rr, .int .i64 hp, .int .i64 sq, .int .i64 ar, .int .i64 lw, .int .i64 st, .int .i64 ix, .slice ao l.length cap] 26)).alloc (.cells #[.int .i64 0, .int .i64 0, .int .i64 0, .int .i64 0, .int .i64 0, .int .i64 0, .int .i64 0, .int .i64 0, .slice none 0 0] 26)).heap.size = w.heap.size + 2 := by simp
  rw [sz0] at hn1
  have sB : (w1.alloc (.cells #[.slice a1 H.length c1] 24)).heap.size = w1.heap.size + 1 := by simp
  refine (sort_own _ H _ hoB (by have := HLL.out; omega)).mono ?_
  rintro e w2 ⟨rfl, ho2, hm2⟩
  have s2 := hm2.size
  rw [sB] at s2
  have HM02 : Hid (Mod (fun _ => False) w w2) := ((HA.out.and hm1).and hAB).trans hm2 (fun _ _ h => h) (fun i hi e => by have := hn1 i e; omega)
  have HT2 : Hid (Bk w2 w.heap.size 26 #[.int .i64 rs, .int .i64 rr, .int .i64 hp, .int .i64 sq, .int .i64 ar, .int .i64 lw, .int .i64 st, .int .i64 ix, .slice ao l.length cap]) := ((HT0.out.mod hm1 (fun h => h)).mod hAB (fun h => h)).mod hm2 (fun e => by have := hn1 _ e; omega)
  have HR2 : Hid (Bk w2 (w.heap.size + 1) 26 #[.int .i64 0, .int .i64 0, .int .i64 0, .int .i64 0, .int .i64 0, .int .i64 0, .int .i64 0, .int .i64 0, .slice none 0 0]) := ((HR0.out.mod hm1 (fun h => h)).mod hAB (fun h => h)).mod hm2 (fun e => by have := hn1 _ e; omega)
  have HB2 : Hid (Bk w2 B 24 #[.slice a1 H.length c1]) := hBB.mod hm2 (fun e => by have := lt1 _ e; omega)
  have HS2 : Hid (Cr.Sl w2 (.slice ao l.length cap) l) := ((HS0.out.mod hm1 (fun _ _ h => h)).mod hAB (fun _ _ h => h)).mod2 hm2 (fun hl g hg e => by have h1 := HS0.out.lt hl g hg; rw [sz0] at h1; have := hn1 _ e; omega)
  have HO2 : Hid (Cr.Own w2 (.slice a1 H.length c1) (H.mergeSort fun x y => decide (x ≤ y))) := ho2
  have HN2 : Hid (∀ g, (Value.slice a1 H.length c1).ownBlock = some g → g < w1.heap.size) := lt1
  have HSZ : Hid (w.heap.size + 2 ≤ w1.heap.size ∧ w1.heap.size + 1 ≤ w2.heap.size ∧ B = w1.heap.size) := ⟨s0, s2, eB⟩
  clear hAB hBB hoB lt1 s0 sz0 hn1 sB ho2 hm2 s2 eB hm1 ho1 HA HT0 HR0 HS0
  have c8 := HT2.out.cellv (j := 8) rfl
  obtain ⟨bt, ebt⟩ : ∃ bt, bt = w.heap.size := ⟨_, rfl⟩
  have HBT : Hid (bt = w.heap.size) := ebt
  rw [← ebt] at HT2 HR2 HSZ c8 ⊢
  clear ebt
  go_wp2_with (fail)
  refine (Cr.own_any _ l w2 HS2.out (by have := HLL.out; omega)).mono ?_
  rintro e w3 ⟨v3, rfl, ho3, hm3, hn3⟩
  have s3 := hm3.size
  have HD := del_own B (.slice a1 H.length c1) (H.mergeSort fun x y => decide (x ≤ y)) v3 l w3 ((HB2.out.mod hm3 (fun h => h)).cellv (j := 0) rfl) (own_th (HO2.out.mod hm3 (fun _ _ h => h)) (sort_up H) (by rw [List.length_mergeSort]; have := HLL.out; omega)) (fun q hq => ⟨by have := HN2.out q hq; have := HSZ.out; omega, fun e => by have := hn3 q e; have := HN2.out q hq; have := HSZ.out; omega⟩) ⟨by have := HSZ.out; omega, fun e => by have := hn3 B e; have := HSZ.out; omega⟩ ho3
  rw [show (fun x => !(H.mergeSort fun x y => decide (x ≤ y)).contains x) = (fun x => !H.contains x) from funext fun x => by rw [contains_sort]] at HD
  obtain ⟨F, hF⟩ : ∃ F, (l.filter fun x => !H.contains x) = F := ⟨_, rfl⟩
  have HF : Hid ((l.filter fun x => !H.contains x) = F) := hF
  rw [hF] at HD
  clear hF
  have HM03 : Hid (Mod (fun _ => False) w w3) := HM02.out.and hm3
  have HT3 : Hid (Bk w3 bt 26 _) := HT2.out.mod hm3 (fun h => h)
  have HR3 : Hid (Bk w3 (bt + 1) 26 _) := HR2.out.mod hm3 (fun h => h)
  have HN3 : Hid (∀ g, v3.ownBlock = some g → bt + 2 < g) := fun g hg => by have := hn3 g hg; have := HSZ.out; omega
  obtain ⟨a3, c3, rfl⟩ := ho3.shape
  clear hm3 hn3 s3 ho3 HM02 HT2 HR2 HB2 HS2 HO2 HN2 c8
  go_wp2_with (fail)
  refine HD.mono ?_
  rintro e w4 ⟨v4, rfl, hA4, hb4, hm4⟩
  have hM4 : Mod (fun _ => False) w w4 := HM03.out.trans hm4 (fun _ _ h => h) (fun i hi e => by have := HN3.out i e; have := HBT.out; omega)
  have hT4 := HT3.out.mod hm4 (fun e => by have := HN3.out _ e; omega)
  have hR4 := HR3.out.mod hm4 (fun e => by have := HN3.out _ e; omega)
  have HN4 : Hid (∀ g, v4.ownBlock = some g → bt + 2 < g) := fun g hg => HN3.out g (by rw [← hb4]; exact hg)
  obtain ⟨a4, c4, rfl, _⟩ := id hA4
  clear HD hm4 hb4 HM03 HT3 HR3 HN3
  go_wp2_with (fail)
  refine (told_any _ F w4 hA4).mono ?_
  rintro e w5 ⟨v5, rfl, hA5, hm5, hb5⟩
  obtain ⟨a5, c5, rfl, _⟩ := id hA5
  have HN5 : Hid (∀ g, (Value.slice a5 F.length c5).ownBlock = some g → bt + 2 < g) := fun g hg => HN4.out g (by rw [← hb5]; exact hg)
  have hT5 := hT4.mod hm5 (fun h => h)
  have hR5 := hR4.mod hm5 (fun h => h)
  have HM5 : Hid (Mod (fun _ => False) w w5) := hM4.and hm5
  have HA5 : Hid (Aw w5 (.slice a5 F.length c5) F) := hA5
  have c8 := hT5.cellv (j := 8) rfl
  have f8 := hT5.frz 8
  have HT6 := hT5.set 8 (.slice a5 F.length c5)
  simp only [List.setIfInBounds_toArray, List.set_cons_succ, List.set_cons_zero] at HT6
  have HR6 := hR5.other ⟨bt, 8, none⟩ (.slice a5 F.length c5) (by simp)
  have HX6 : Hid (Bk _ _ _ _) := HT6
  have HY6 : Hid (Bk _ _ _ _) := HR6
  clear hA4 hM4 hT4 hR4 HN4 hA5 hm5 hb5 hT5 hR5 HT6 HR6
  go_upto_region 4 with (fail)
  go_wp2_with (first | (refine wpList_load_row infoT Try.underlying26 rfl rfl _ rfl bt rfl HX6.out rfl ?_; simp only [Act.put, List.setIfInBounds_toArray, List.set_cons_succ, List.set_cons_zero]) | (refine wpList_store_row infoT rfl rfl _ _ rfl (bt + 1) #[.int .i64 rs, .int .i64 rr, .int .i64 hp, .int .i64 sq, .int .i64 ar, .int .i64 lw, .int .i64 st, .int .i64 ix, .slice a5 F.length c5] rfl rfl HY6.out rfl rfl rfl ?_; intro wG hBG hMG))
  have hmS := (Mod.refl (fun i => i = bt) w5).setCell ⟨bt, 8, none⟩ (.slice a5 F.length c5) (.inl rfl)
  have hF2 := HF.out
  subst hF2
  refine bodyPost_ret (resT infoT Try.underlying26 rfl rfl rfl hBG rfl) rfl ⟨a5, c5, rfl, (HA5.out.mod hmS (fun g hg e => by have := HN5.out g hg; omega)).mod hMG (fun g hg e => by have := HN5.out g hg; omega), (HM5.out.trans hmS (fun _ _ h => h) (fun i hi e => by have := HBT.out; omega)).trans hMG (fun _ _ h => h) (fun i hi e => by have := HBT.out; omega)⟩
end Go.Proofs.Ytbjkncfpddhpkaa
