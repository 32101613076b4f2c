/- Contracts of commit's New and Add. Conditions: sizes that a slice has. -/
import Derived.Test.YtlekmgjjjniomaaUf
namespace Go.Proofs.Ytlekmgjjjniomaa
open Go.RowKit
theorem RE.lit (w : World) (e : Ey) : RE (w.alloc (.cells (eyc e) 28)) (.slice (some ⟨w.heap.size, 0, none⟩) 1 1) [e] :=
  ⟨⟨_, _, rfl, Nat.le_refl _, by simp [maxLen], .inr ⟨w.heap.size, eyc e, rfl, Bk.new w _ _, by show 1 * 6 ≤ 6; omega, fun j c hj => by
    obtain ⟨i, d, t, h1, h2, h3⟩ := fE_inv [e] j c hj
    cases i with
    | zero =>
      simp only [List.getElem?_cons_zero, Option.some.injEq] at h1
      subst h1 h3
      have ht := ecl_lt h2
      rw [Nat.zero_mul, Nat.zero_add]
      match t, ht, h2 with
      | 0, _, h2 => exact h2
      | 1, _, h2 => exact h2
      | 2, _, h2 => exact h2
      | 3, _, h2 => exact h2
      | 4, _, h2 => exact h2
      | 5, _, h2 => exact h2
    | succ i => simp at h1⟩⟩⟩
/-- A row of entries lies in no commit's block. -/
theorem RE.ne {w : World} {v : Value} {ds : List Ey} (h : RE w v ds) {b : Nat} {xs : Array Value} (hb : Bk w b 26 xs) : ∀ g, v.ownBlock = some g → g ≠ b := by
  obtain ⟨ao, cap, rfl, _, _, h2⟩ := h.form
  rintro g hg rfl
  rcases h2 with ⟨rfl, _⟩ | ⟨g', cur, rfl, hB, _⟩
  · cases hg
  · simp only [Value.ownBlock, Option.some.injEq] at hg
    subst hg
    have h1 := hB.at'
    rw [hb.at'] at h1
    simp at h1
set_option maxRecDepth 100000 in
set_option maxHeartbeats 4000000 in
theorem New_any (w : World) (rs rr mm : Int) (own : Ey) (hmm : I64 mm) : Calls Try.prog 9 #[.agg #[.int .i64 rs, .int .i64 rr], .int .i64 mm, .agg (eyc own)] w fun e w' => ∃ v', e = .returned (.tuple #[v', .int .i64 (newC rs rr mm own).2]) ∧ Cn w w' v' (newC rs rr mm own).1 ∧ Mod (fun _ => False) w w' := by
  have hres : (newC rs rr mm own) = (if okC ⟨rs, rr, mm, 1, [own]⟩ = true then (⟨rs, rr, mm, 1, [own]⟩ : Cm) else Cm.zero, ckC ⟨rs, rr, mm, 1, [own]⟩) := by
    unfold newC ckC
    split <;> rfl
  rw [hres]
  clear hres
  have HK := fun W v h => checked_any w W v ⟨rs, rr, mm, 1, [own]⟩ h hmm
  have HO := fun W v h2 => onward_any rs rr mm 0 none 0 [] v [own] W (SlE.nil W) h2 (by simp) (by simp) ⟨by omega, by omega⟩
  have HL := RE.lit
  obtain ⟨on, oq, or_, oa, oh, oc⟩ := own
  simp only [List.nil_append, List.length_nil, List.length_cons, Nat.zero_add, Int.zero_add] at HO
  simp only [eyc] at *
  generalize hok : (if okC ⟨rs, rr, mm, 1, [⟨on, oq, or_, oa, oh, oc⟩]⟩ = true then (⟨rs, rr, mm, 1, [⟨on, oq, or_, oa, oh, oc⟩]⟩ : Cm) else Cm.zero) = C at *
  generalize ckC ⟨rs, rr, mm, 1, [⟨on, oq, or_, oa, oh, oc⟩]⟩ = E at *
  clear hok
  have hM := ((((Mod.refl (fun _ => False) w).alloc (.cells #[.int .i64 rs, .int .i64 rr] 23)).alloc (.cells #[.int .i64 on, .int .i64 oq, .int .i64 or_, .int .i64 oa, .int .i64 oh, .int .i64 oc] 28)).alloc (.cells #[.int .i64 0, .int .i64 0, .int .i64 0, .int .i64 0, .slice none 0 0] 26))
  have hB := Bk.new ((w.alloc (.cells #[.int .i64 rs, .int .i64 rr] 23)).alloc (.cells #[.int .i64 on, .int .i64 oq, .int .i64 or_, .int .i64 oa, .int .i64 oh, .int .i64 oc] 28)) #[.int .i64 0, .int .i64 0, .int .i64 0, .int .i64 0, .slice none 0 0] 26
  have hl := HL (((w.alloc (.cells #[.int .i64 rs, .int .i64 rr] 23)).alloc (.cells #[.int .i64 on, .int .i64 oq, .int .i64 or_, .int .i64 oa, .int .i64 oh, .int .i64 oc] 28)).alloc (.cells #[.int .i64 0, .int .i64 0, .int .i64 0, .int .i64 0, .slice none 0 0] 26)) ⟨on, oq, or_, oa, oh, oc⟩
  simp only [World.size_alloc] at hB hl
  have hB2 := hB.mod ((Mod.refl (fun _ => False) _).alloc (.cells #[.int .i64 on, .int .i64 oq, .int .i64 or_, .int .i64 oa, .int .i64 oh, .int .i64 oc] 28)) (fun h => h)
  replace hM := hM.alloc (.cells #[.int .i64 on, .int .i64 oq, .int .i64 or_, .int .i64 oa, .int .i64 oh, .int .i64 oc] 28)
  clear HL hB
  go_enter Try.func9, Try.ntmps9
  go_wp2_with (fail)
  refine (HO _ _ hl.sl).mono ?_
  rintro e w1 ⟨ax, cx, rfl, hr, hm1, hn1⟩
  replace hM := hM.and hm1
  replace hB2 := hB2.mod hm1 (fun h => h)
  have hn : Cn w w1 (.agg #[.int .i64 rs, .int .i64 rr, .int .i64 mm, .int .i64 1, .slice ax 1 cx]) ⟨rs, rr, mm, 1, [⟨on, oq, or_, oa, oh, oc⟩]⟩ := ⟨ax, cx, rfl, hr, fun g hg => by have := hn1 g hg; simp only [World.size_alloc] at this; omega⟩
  have hne : ∀ g, (Value.slice ax 1 cx).ownBlock = some g → w.heap.size + 4 ≤ g := fun g hg => by have := hn1 g hg; simp only [World.size_alloc] at this; omega
  clear HO hl hr hn1 hm1 hne
  go_wp2_with (fail)
  refine (HK _ _ hn).mono ?_
  rintro e w2 ⟨v', rfl, hc, hm2⟩
  obtain ⟨ao, cap, rfl, hr, hnw⟩ := hc.form
  replace hM := hM.and hm2
  replace hB2 := hB2.mod hm2 (fun h => h)
  have hne := hr.ne hB2
  have HH : Hid (Bk w2 (w.heap.size + 1 + 1) 26 #[.int .i64 0, .int .i64 0, .int .i64 0, .int .i64 0, .slice none 0 0] ∧ Mod (fun _ => False) w w2 ∧ Cn w w2 _ C ∧ RE w2 (.slice ao C.es.length cap) C.es ∧ Nw w (.slice ao C.es.length cap)) := ⟨hB2, hM, hc, hr, hnw⟩
  have HNE : Hid (∀ g, (Value.slice ao C.es.length cap).ownBlock = some g → g ≠ w.heap.size + 1 + 1) := hne
  clear hB2 hM hc hr hnw hne hm2 HK hn
  obtain ⟨crs, crr, cmm, chp, ces⟩ := C
  simp only at *
  go_wp2_with (refine wpList_store_row infoC rfl rfl _ _ rfl (w.heap.size + 1 + 1) #[.int .i64 crs, .int .i64 crr, .int .i64 cmm, .int .i64 chp, .slice ao ces.length cap] rfl rfl HH.out.1 rfl rfl rfl ?_; intro wF hBF hMF)
  have hmF : Mod (fun _ => False) w wF := HH.out.2.1.trans hMF (V := fun _ => False) (fun _ _ h => h) (fun i hi h => by omega)
  exact bodyPost_ret (resT2 infoC Try.underlying26 rfl rfl rfl rfl hBF rfl) rfl ⟨_, rfl, ⟨ao, cap, rfl, HH.out.2.2.2.1.mod hMF (fun g hg e => HNE.out g hg e), HH.out.2.2.2.2⟩, hmF⟩
set_option maxRecDepth 100000 in
set_option maxHeartbeats 4000000 in
theorem Add_any (w : World) (v : Value) (c : Cm) (own : Ey) (h : Cv w v c) (hmm : I64 c.mem) : Calls Try.prog 11 #[v, .agg (eyc own)] w fun e w' => ∃ v', e = .returned (.tuple #[v', .int .i64 (addC c own).2]) ∧ Cn w w' v' (addC c own).1 ∧ Mod (fun _ => False) w w' := by
  obtain ⟨rs, rr, mm, hp, ce⟩ := c
  have HV := fun W hc => Visit_any W v ⟨rs, rr, mm, hp, ce⟩ own.nd hc hmm
  have hres : (addC ⟨rs, rr, mm, hp, ce⟩ own) = if vis ⟨rs, rr, mm, hp, ce⟩ own.nd = 1 then (if okC (onw ⟨rs, rr, mm, hp, ce⟩ [own]) = true then (onw ⟨rs, rr, mm, hp, ce⟩ [own]) else Cm.zero, ckC (onw ⟨rs, rr, mm, hp, ce⟩ [own])) else (Cm.zero, 2) := by
    unfold addC ckC
    by_cases h1 : vis ⟨rs, rr, mm, hp, ce⟩ own.nd = 1
    · by_cases h2 : okC (onw ⟨rs, rr, mm, hp, ce⟩ [own]) = true
      · simp only [h1, h2, and_self, if_true]
      · rw [if_neg (fun h => h2 h.2), if_pos h1, if_neg h2, if_neg h2]
    · rw [if_neg (fun h => h1 h.1), if_neg h1]
  rw [hres]
  clear hres
  obtain ⟨cao, ccap, rfl, hs⟩ := h.form
  simp only at *
  have HO := fun W v h1 h2 h3 h4 => onward_any rs rr mm hp cao ccap ce v [own] W h1 h2 h3 (by simp) h4
  have HK := fun W v h => checked_any w W v (onw ⟨rs, rr, mm, hp, ce⟩ [own]) h hmm
  have HL := RE.lit
  have hvok : vis ⟨rs, rr, mm, hp, ce⟩ own.nd = 1 → ce.length ≤ 1000 ∧ 0 ≤ hp ∧ hp ≤ 1000 := by
    intro h1
    unfold vis at h1
    split at h1
    · rename_i h2
      have := okC_hop h2.1
      simp only [nC] at this
      omega
    · omega
  obtain ⟨on, oq, or_, oa, oh, oc⟩ := own
  simp only [eyc] at *
  have hM := ((((Mod.refl (fun _ => False) w).alloc (.cells #[.int .i64 rs, .int .i64 rr, .int .i64 mm, .int .i64 hp, .slice cao ce.length ccap] 26)).alloc (.cells #[.int .i64 on, .int .i64 oq, .int .i64 or_, .int .i64 oa, .int .i64 oh, .int .i64 oc] 28)).alloc (.cells #[.int .i64 0, .int .i64 0, .int .i64 0, .int .i64 0, .slice none 0 0] 26))
  have hB0 := ((Bk.new w #[.int .i64 rs, .int .i64 rr, .int .i64 mm, .int .i64 hp, .slice cao ce.length ccap] 26).mod ((Mod.refl (fun _ => False) _).alloc (.cells #[.int .i64 on, .int .i64 oq, .int .i64 or_, .int .i64 oa, .int .i64 oh, .int .i64 oc] 28)) (fun h => h)).mod ((Mod.refl (fun _ => False) _).alloc (.cells #[.int .i64 0, .int .i64 0, .int .i64 0, .int .i64 0, .slice none 0 0] 26)) (fun h => h)
  have hB1 := (Bk.new (w.alloc (.cells #[.int .i64 rs, .int .i64 rr, .int .i64 mm, .int .i64 hp, .slice cao ce.length ccap] 26)) #[.int .i64 on, .int .i64 oq, .int .i64 or_, .int .i64 oa, .int .i64 oh, .int .i64 oc] 28).mod ((Mod.refl (fun _ => False) _).alloc (.cells #[.int .i64 0, .int .i64 0, .int .i64 0, .int .i64 0, .slice none 0 0] 26)) (fun h => h)
  have hB2 := Bk.new ((w.alloc (.cells #[.int .i64 rs, .int .i64 rr, .int .i64 mm, .int .i64 hp, .slice cao ce.length ccap] 26)).alloc (.cells #[.int .i64 on, .int .i64 oq, .int .i64 or_, .int .i64 oa, .int .i64 oh, .int .i64 oc] 28)) #[.int .i64 0, .int .i64 0, .int .i64 0, .int .i64 0, .slice none 0 0] 26
  simp only [World.size_alloc] at hB1 hB2
  replace hs := hs.keep hM
  replace h := h.keep hM
  by_cases hv : vis ⟨rs, rr, mm, hp, ce⟩ on = 1
  · rw [if_pos hv]
    obtain ⟨hl, hh⟩ := hvok hv
    rw [hv] at HV
    replace HO := fun W v h1 h2 => HO W v h1 h2 hl hh
    generalize (if okC (onw ⟨rs, rr, mm, hp, ce⟩ [⟨on, oq, or_, oa, oh, oc⟩]) = true then (onw ⟨rs, rr, mm, hp, ce⟩ [⟨on, oq, or_, oa, oh, oc⟩]) else Cm.zero) = C at *
    generalize ckC (onw ⟨rs, rr, mm, hp, ce⟩ [⟨on, oq, or_, oa, oh, oc⟩]) = E at *
    obtain ⟨n, hN⟩ : ∃ n, (ce ++ [(⟨on, oq, or_, oa, oh, oc⟩ : Ey)]).length = n := ⟨_, rfl⟩
    rw [hN] at HO
    have HN : Hid ((ce ++ [(⟨on, oq, or_, oa, oh, oc⟩ : Ey)]).length = n) := hN
    clear hvok hl hh hv hN
    go_enter Try.func11, Try.ntmps11
    go_wp2_with (fail)
    refine (HV _ h).mono ?_
    rintro e w1 ⟨rfl, hm1⟩
    have HL2 := HL w1 ⟨on, oq, or_, oa, oh, oc⟩
    have hm2 := hm1.alloc (.cells #[.int .i64 on, .int .i64 oq, .int .i64 or_, .int .i64 oa, .int .i64 oh, .int .i64 oc] 28)
    replace hM := hM.and hm2
    replace hs := hs.keep hm2
    replace hB2 := hB2.mod hm2 (fun h => h)
    obtain ⟨a0, a1, a2, a3, a4⟩ := (⟨(hB0.mod hm1 (fun h => h)).cellv (j := 0) rfl, (hB0.mod hm1 (fun h => h)).cellv (j := 1) rfl, (hB0.mod hm1 (fun h => h)).cellv (j := 2) rfl, (hB0.mod hm1 (fun h => h)).cellv (j := 3) rfl, (hB0.mod hm1 (fun h => h)).cellv (j := 4) rfl⟩ : _ ∧ _ ∧ _ ∧ _ ∧ _)
    obtain ⟨c0, c1, c2, c3, c4, c5⟩ := (⟨(hB1.mod hm1 (fun h => h)).cellv (j := 0) rfl, (hB1.mod hm1 (fun h => h)).cellv (j := 1) rfl, (hB1.mod hm1 (fun h => h)).cellv (j := 2) rfl, (hB1.mod hm1 (fun h => h)).cellv (j := 3) rfl, (hB1.mod hm1 (fun h => h)).cellv (j := 4) rfl, (hB1.mod hm1 (fun h => h)).cellv (j := 5) rfl⟩ : _ ∧ _ ∧ _ ∧ _ ∧ _ ∧ _)
    have hsz : w.heap.size ≤ w1.heap.size := by have := hm1.size; simp only [World.size_alloc] at this; omega
    clear HL HV h hB0 hB1 hm1 hm2
    go_wp2_with (fail)
    refine (HO _ _ hs HL2.sl).mono ?_
    rintro e w2 ⟨ax, cx, rfl, hr, hm3, hn3⟩
    have hn : Cn w w2 (.agg #[.int .i64 rs, .int .i64 rr, .int .i64 mm, .int .i64 (hp + 1), .slice ax n cx]) (onw ⟨rs, rr, mm, hp, ce⟩ [⟨on, oq, or_, oa, oh, oc⟩]) := ⟨ax, cx, by rw [← HN.out]; rfl, (show RE w2 (.slice ax (ce ++ [(⟨on, oq, or_, oa, oh, oc⟩ : Ey)]).length cx) _ by rw [HN.out]; exact hr), (show Nw w (.slice ax (ce ++ [(⟨on, oq, or_, oa, oh, oc⟩ : Ey)]).length cx) by rw [HN.out]; exact fun g hg => by have := hn3 g hg; simp only [World.size_alloc] at this; omega)⟩
    replace hM := hM.and hm3
    replace hB2 := hB2.mod hm3 (fun h => h)
    clear a0 a1 a2 a3 a4 c0 c1 c2 c3 c4 c5 HO hs HL2 hr hm3 hn3
    go_wp2_with (fail)
    refine (HK _ _ hn).mono ?_
    rintro e w3 ⟨v', rfl, hc, hm4⟩
    obtain ⟨ao, cap, rfl, hr, hnw⟩ := hc.form
    replace hM := hM.and hm4
    replace hB2 := hB2.mod hm4 (fun h => h)
    have HH : Hid (Bk w3 (w.heap.size + 1 + 1) 26 #[.int .i64 0, .int .i64 0, .int .i64 0, .int .i64 0, .slice none 0 0] ∧ Mod (fun _ => False) w w3 ∧ RE w3 (.slice ao C.es.length cap) C.es ∧ Nw w (.slice ao C.es.length cap)) := ⟨hB2, hM, hr, hnw⟩
    have HNE : Hid (∀ g, (Value.slice ao C.es.length cap).ownBlock = some g → g ≠ w.heap.size + 1 + 1) := hr.ne hB2
    clear hB2 hM hc hr hnw hm4 HK hn hsz
    obtain ⟨crs, crr, cmm, chp, ces⟩ := C
    simp only at *
    go_wp2_with (refine wpList_store_row infoC rfl rfl _ _ rfl (w.heap.size + 1 + 1) #[.int .i64 crs, .int .i64 crr, .int .i64 cmm, .int .i64 chp, .slice ao ces.length cap] rfl rfl HH.out.1 rfl rfl rfl ?_; intro wF hBF hMF)
    have hmF : Mod (fun _ => False) w wF := HH.out.2.1.trans hMF (V := fun _ => False) (fun _ _ h => h) (fun i hi h => by omega)
    exact bodyPost_ret (resT2 infoC Try.underlying26 rfl rfl rfl rfl hBF rfl) rfl ⟨_, rfl, ⟨ao, cap, rfl, HH.out.2.2.1.mod hMF (fun g hg e => HNE.out g hg e), HH.out.2.2.2⟩, hmF⟩
  · rw [if_neg hv]
    generalize vis ⟨rs, rr, mm, hp, ce⟩ on = V at *
    have hvb : (V != 1) = true := by simpa using hv
    clear hvok HO HK HL hv
    go_enter Try.func11, Try.ntmps11
    go_wp2_with (fail)
    refine (HV _ h).mono ?_
    rintro e w1 ⟨rfl, hm1⟩
    have HH : Hid (Bk w1 (w.heap.size + 1 + 1) 26 #[.int .i64 0, .int .i64 0, .int .i64 0, .int .i64 0, .slice none 0 0] ∧ Mod (fun _ => False) w w1) := ⟨hB2.mod hm1 (fun h => h), hM.and hm1⟩
    clear hB0 hB1 hB2 hM hm1 HV hs h
    go_wp2_with (refine wpList_store_row infoC rfl rfl _ _ rfl (w.heap.size + 1 + 1) #[.int .i64 0, .int .i64 0, .int .i64 0, .int .i64 0, .slice none 0 0] rfl rfl HH.out.1 rfl rfl rfl ?_; intro wF hBF hMF)
    have hmF : Mod (fun _ => False) w wF := HH.out.2.trans hMF (V := fun _ => False) (fun _ _ h => h) (fun i hi h => by omega)
    exact bodyPost_ret (resT2 infoC Try.underlying26 rfl rfl rfl rfl hBF rfl) rfl ⟨_, rfl, Cn.zero _ _, hmF⟩
end Go.Proofs.Ytlekmgjjjniomaa
