/- The document's New and Add. Conditions: sizes that a slice has. -/
import Derived.Test.YtlekmgjjjniomaaUab
namespace Go.Proofs.Ytlekmgjjjniomaa
open Go.RowKit
set_option maxRecDepth 100000 in
set_option maxHeartbeats 4000000 in
theorem dNew (w : World) (rs rr mm : Int) (own : Ey) : Calls Try.prog 10 #[.agg #[.int .i64 rs, .int .i64 rr], .int .i64 mm, .agg (eyc own)] w fun e w' => ∃ v', e = .returned (.tuple #[v', .int .i64 (newC rs rr mm own).2]) ∧ Cn w w' v' (newC rs rr mm own).1 ∧ Mod (fun _ => False) w w' := by
  obtain ⟨on, oq, or_, oa, oh, oc⟩ := own
  simp only [eyc]
  obtain ⟨W1, hW⟩ : ∃ W1, W1 = ((((w.alloc (.cells #[.int .i64 rs, .int .i64 rr] 23)).alloc (.cells #[.int .i64 on, .int .i64 oq, .int .i64 or_, .int .i64 oa, .int .i64 oh, .int .i64 oc] 28)).alloc (.cells #[.int .i64 0, .int .i64 0, .int .i64 0, .int .i64 0, .slice none 0 0] 26)).alloc (.cells #[.int .i64 on, .int .i64 oq, .int .i64 or_, .int .i64 oa, .int .i64 oh, .int .i64 oc] 28)).alloc (.cells #[.int .i64 rs, .int .i64 rr, .int .i64 mm, .int .i64 1, (.slice (some ⟨w.heap.size + 3, 0, none⟩) 1 1)] 26) := ⟨_, rfl⟩
  have hM : Mod (fun _ => False) w W1 := by rw [hW]; exact (((((Mod.refl (fun _ => False) w).alloc _).alloc _).alloc _).alloc _).alloc _
  have h2 : Bk W1 (w.heap.size + 2) 26 #[.int .i64 0, .int .i64 0, .int .i64 0, .int .i64 0, .slice none 0 0] := by
    rw [hW]
    have := ((Bk.new ((w.alloc (.cells #[.int .i64 rs, .int .i64 rr] 23)).alloc (.cells #[.int .i64 on, .int .i64 oq, .int .i64 or_, .int .i64 oa, .int .i64 oh, .int .i64 oc] 28)) #[.int .i64 0, .int .i64 0, .int .i64 0, .int .i64 0, .slice none 0 0] 26).mod ((Mod.refl (fun _ => False) _).alloc (.cells #[.int .i64 on, .int .i64 oq, .int .i64 or_, .int .i64 oa, .int .i64 oh, .int .i64 oc] 28)) (fun h => h)).mod ((Mod.refl (fun _ => False) _).alloc (.cells #[.int .i64 rs, .int .i64 rr, .int .i64 mm, .int .i64 1, (.slice (some ⟨w.heap.size + 3, 0, none⟩) 1 1)] 26)) (fun h => h)
    simpa using this
  have hl : RE W1 (.slice (some ⟨w.heap.size + 3, 0, none⟩) 1 1) [⟨on, oq, or_, oa, oh, oc⟩] := by
    rw [hW]
    have := (RE.lit (((w.alloc (.cells #[.int .i64 rs, .int .i64 rr] 23)).alloc (.cells #[.int .i64 on, .int .i64 oq, .int .i64 or_, .int .i64 oa, .int .i64 oh, .int .i64 oc] 28)).alloc (.cells #[.int .i64 0, .int .i64 0, .int .i64 0, .int .i64 0, .slice none 0 0] 26)) ⟨on, oq, or_, oa, oh, oc⟩).keep ((Mod.refl (fun _ => False) _).alloc (.cells #[.int .i64 rs, .int .i64 rr, .int .i64 mm, .int .i64 1, (.slice (some ⟨w.heap.size + 3, 0, none⟩) 1 1)] 26))
    simpa [eyc] using this
  have hk : Bk W1 (w.heap.size + 4) 26 #[.int .i64 rs, .int .i64 rr, .int .i64 mm, .int .i64 1, (.slice (some ⟨w.heap.size + 3, 0, none⟩) 1 1)] := by
    rw [hW]
    have := Bk.new ((((w.alloc (.cells #[.int .i64 rs, .int .i64 rr] 23)).alloc (.cells #[.int .i64 on, .int .i64 oq, .int .i64 or_, .int .i64 oa, .int .i64 oh, .int .i64 oc] 28)).alloc (.cells #[.int .i64 0, .int .i64 0, .int .i64 0, .int .i64 0, .slice none 0 0] 26)).alloc (.cells #[.int .i64 on, .int .i64 oq, .int .i64 or_, .int .i64 oa, .int .i64 oh, .int .i64 oc] 28)) #[.int .i64 rs, .int .i64 rr, .int .i64 mm, .int .i64 1, (.slice (some ⟨w.heap.size + 3, 0, none⟩) 1 1)] 26
    simpa using this
  have HC := fun W h => dCheck19 rs rr mm 1 (some ⟨w.heap.size + 3, 0, none⟩) 1 [⟨on, oq, or_, oa, oh, oc⟩] W h ⟨by decide, by decide⟩
  simp only [List.length_cons, List.length_nil, Nat.zero_add] at HC
  have hck : ckC ⟨rs, rr, mm, 1, [⟨on, oq, or_, oa, oh, oc⟩]⟩ = if okC ⟨rs, rr, mm, 1, [⟨on, oq, or_, oa, oh, oc⟩]⟩ = true then 0 else 2 := rfl
  rw [hck] at HC
  have hn : newC rs rr mm ⟨on, oq, or_, oa, oh, oc⟩ = if okC ⟨rs, rr, mm, 1, [⟨on, oq, or_, oa, oh, oc⟩]⟩ = true then (⟨rs, rr, mm, 1, [⟨on, oq, or_, oa, oh, oc⟩]⟩, 0) else (Cm.zero, 2) := rfl
  generalize newC rs rr mm ⟨on, oq, or_, oa, oh, oc⟩ = RR at *
  have HRR : Hid (RR = _) := hn
  generalize okC ⟨rs, rr, mm, 1, [⟨on, oq, or_, oa, oh, oc⟩]⟩ = ok at *
  clear hn hck
  go_enter Try.func10, Try.ntmps10
  go_upto_region 2 with fail
  rw [← hW]
  clear hW
  have a0 := hk.cellv (j := 0) rfl
  have a1 := hk.cellv (j := 1) rfl
  have a2 := hk.cellv (j := 2) rfl
  have a3 := hk.cellv (j := 3) rfl
  have a4 := hk.cellv (j := 4) rfl
  go_wp2_with (fail)
  refine (HC _ hl.sl).mono ?_
  rintro e w1 ⟨rfl, hm1⟩
  clear a0 a1 a2 a3 a4 HC
  have HH : Hid (Bk w1 (w.heap.size + 2) 26 #[.int .i64 0, .int .i64 0, .int .i64 0, .int .i64 0, .slice none 0 0] ∧ Mod (fun _ => False) w w1 ∧ RE w1 (.slice (some ⟨w.heap.size + 3, 0, none⟩) 1 1) [⟨on, oq, or_, oa, oh, oc⟩]) := ⟨h2.mod hm1 (fun h => h), hM.and hm1, hl.keep hm1⟩
  replace hk := hk.mod hm1 (fun h => h)
  clear h2 hM hl hm1
  cases ok
  · have e : RR = (Cm.zero, 2) := HRR.out
    subst e
    clear HRR hk
    go_wp2_with (refine wpList_store_row infoC rfl rfl _ _ rfl (w.heap.size + 2) #[.int .i64 0, .int .i64 0, .int .i64 0, .int .i64 0, .slice none 0 0] rfl rfl HH.out.1 rfl rfl rfl ?_; intro wF hBF hMF)
    have hmF : Mod (fun _ => False) w wF := HH.out.2.1.trans hMF (V := fun _ => False) (fun _ _ h => h) (fun i hi h => by omega)
    exact bodyPost_ret (resT2 infoC Try.underlying26 rfl rfl rfl rfl hBF rfl) rfl ⟨_, rfl, Cn.zero _ _, hmF⟩
  · have e : RR = (⟨rs, rr, mm, 1, [⟨on, oq, or_, oa, oh, oc⟩]⟩, 0) := HRR.out
    subst e
    clear HRR
    have a0 := hk.cellv (j := 0) rfl
    have a1 := hk.cellv (j := 1) rfl
    have a2 := hk.cellv (j := 2) rfl
    have a3 := hk.cellv (j := 3) rfl
    have a4 := hk.cellv (j := 4) rfl
    clear hk
    go_wp2_with (refine wpList_store_row infoC rfl rfl _ _ rfl (w.heap.size + 2) #[.int .i64 rs, .int .i64 rr, .int .i64 mm, .int .i64 1, (.slice (some ⟨w.heap.size + 3, 0, none⟩) 1 1)] rfl rfl HH.out.1 rfl rfl rfl ?_; intro wF hBF hMF)
    have hmF : Mod (fun _ => False) w wF := HH.out.2.1.trans hMF (V := fun _ => False) (fun _ _ h => h) (fun i hi h => by omega)
    have hx : ∀ g, (Value.slice (some ⟨w.heap.size + 3, 0, none⟩) 1 1).ownBlock = some g → w.heap.size + 3 = g := fun g hg => by simpa [Value.ownBlock] using hg
    refine bodyPost_ret (resT2 infoC Try.underlying26 rfl rfl rfl rfl hBF rfl) rfl ⟨_, rfl, ⟨_, _, rfl, HH.out.2.2.mod hMF ?_, ?_⟩, hmF⟩
    · intro g hg e
      have := hx g hg
      omega
    · intro g hg
      have := hx g hg
      omega
set_option maxRecDepth 100000 in
set_option maxHeartbeats 4000000 in
theorem dAdd (w : World) (v : Value) (c : Cm) (own : Ey) (h : Cv w v c) (hhp : I64 c.hop) : Calls Try.prog 12 #[v, .agg (eyc own)] w fun e w' => ∃ v', e = .returned (.tuple #[v', .int .i64 (addC c own).2]) ∧ Cn w w' v' (addC c own).1 ∧ Mod (fun _ => False) w w' := by
  obtain ⟨rs, rr, mm, hp, ce⟩ := c
  obtain ⟨cao, ccap, rfl, hs⟩ := h.form
  obtain ⟨on, oq, or_, oa, oh, oc⟩ := own
  simp only [eyc] at *
  have HV := fun W h => dVisit W (.agg #[.int .i64 rs, .int .i64 rr, .int .i64 mm, .int .i64 hp, .slice cao ce.length ccap]) ⟨rs, rr, mm, hp, ce⟩ on h hhp
  have hres : addC ⟨rs, rr, mm, hp, ce⟩ ⟨on, oq, or_, oa, oh, oc⟩ = if vis ⟨rs, rr, mm, hp, ce⟩ on = 1 ∧ okC ⟨rs, rr, mm, hp + 1, ce ++ [⟨on, oq, or_, oa, oh, oc⟩]⟩ = true then (⟨rs, rr, mm, hp + 1, ce ++ [⟨on, oq, or_, oa, oh, oc⟩]⟩, 0) else (Cm.zero, 2) := rfl
  have hvok : vis ⟨rs, rr, mm, hp, ce⟩ on = 1 → 1 ≤ hp ∧ hp ≤ 16 ∧ ce.length ≤ 8 := by
    intro h1
    unfold vis at h1
    split at h1
    · rename_i h2
      have := okC_hop h2.1
      simp only [nC] at this
      omega
    · omega
  generalize vis ⟨rs, rr, mm, hp, ce⟩ on = vv at *
  generalize addC ⟨rs, rr, mm, hp, ce⟩ ⟨on, oq, or_, oa, oh, oc⟩ = RR at *
  have HRR : Hid (RR = _) := hres
  clear hres
  obtain ⟨W1, hW⟩ : ∃ W1, W1 = ((w.alloc (.cells #[.int .i64 rs, .int .i64 rr, .int .i64 mm, .int .i64 hp, .slice cao ce.length ccap] 26)).alloc (.cells #[.int .i64 on, .int .i64 oq, .int .i64 or_, .int .i64 oa, .int .i64 oh, .int .i64 oc] 28)).alloc (.cells #[.int .i64 0, .int .i64 0, .int .i64 0, .int .i64 0, .slice none 0 0] 26) := ⟨_, rfl⟩
  have hM : Mod (fun _ => False) w W1 := by rw [hW]; exact (((Mod.refl (fun _ => False) w).alloc _).alloc _).alloc _
  have h0 : Bk W1 w.heap.size 26 #[.int .i64 rs, .int .i64 rr, .int .i64 mm, .int .i64 hp, .slice cao ce.length ccap] := by rw [hW]; exact ((Bk.new w _ _).mod ((Mod.refl (fun _ => False) _).alloc _) (fun h => h)).mod ((Mod.refl (fun _ => False) _).alloc _) (fun h => h)
  have h1 : Bk W1 (w.heap.size + 1) 28 #[.int .i64 on, .int .i64 oq, .int .i64 or_, .int .i64 oa, .int .i64 oh, .int .i64 oc] := by
    rw [hW]
    have := (Bk.new (w.alloc (.cells #[.int .i64 rs, .int .i64 rr, .int .i64 mm, .int .i64 hp, .slice cao ce.length ccap] 26)) #[.int .i64 on, .int .i64 oq, .int .i64 or_, .int .i64 oa, .int .i64 oh, .int .i64 oc] 28).mod ((Mod.refl (fun _ => False) _).alloc (.cells #[.int .i64 0, .int .i64 0, .int .i64 0, .int .i64 0, .slice none 0 0] 26)) (fun h => h)
    simpa using this
  have h2 : Bk W1 (w.heap.size + 2) 26 #[.int .i64 0, .int .i64 0, .int .i64 0, .int .i64 0, .slice none 0 0] := by
    rw [hW]
    have := Bk.new ((w.alloc (.cells #[.int .i64 rs, .int .i64 rr, .int .i64 mm, .int .i64 hp, .slice cao ce.length ccap] 26)).alloc (.cells #[.int .i64 on, .int .i64 oq, .int .i64 or_, .int .i64 oa, .int .i64 oh, .int .i64 oc] 28)) #[.int .i64 0, .int .i64 0, .int .i64 0, .int .i64 0, .slice none 0 0] 26
    simpa using this
  have hsz : W1.heap.size = w.heap.size + 3 := by rw [hW]; simp
  replace h := h.keep hM
  replace hs := hs.keep hM
  go_enter Try.func12, Try.ntmps12
  go_upto_region 1 with fail
  rw [← hW]
  clear hW
  have a0 := h0.cellv (j := 0) rfl
  have a1 := h0.cellv (j := 1) rfl
  have a2 := h0.cellv (j := 2) rfl
  have a3 := h0.cellv (j := 3) rfl
  have a4 := h0.cellv (j := 4) rfl
  have b0 := h1.cellv (j := 0) (v := .int .i64 on) rfl
  go_wp2_with (fail)
  refine (HV _ h).mono ?_
  rintro e w2 ⟨rfl, hm2⟩
  have hsz2 := hm2.size
  rw [hsz] at hsz2
  clear hsz a0 a1 a2 a3 a4 b0
  replace hM := hM.and hm2
  replace hs := hs.keep hm2
  replace h0 := h0.mod hm2 (fun h => h)
  replace h1 := h1.mod hm2 (fun h => h)
  replace h2 := h2.mod hm2 (fun h => h)
  clear hm2 h HV
  by_cases hv : vv = 1
  · obtain ⟨q1, q2, q3⟩ := hvok hv
    subst hv
    clear hvok
    have a0 := h0.cellv (j := 0) rfl
    have a1 := h0.cellv (j := 1) rfl
    have a2 := h0.cellv (j := 2) rfl
    have a3 := h0.cellv (j := 3) rfl
    have a4 := h0.cellv (j := 4) rfl
    go_wp2_with (fail)
    refine (dCopied rs rr mm hp cao ccap ce _ hs (by omega)).mono ?_
    rintro e w3 ⟨ax, cx, rfl, hr, hm3, hn3⟩
    clear a0 a1 a2 a3 a4
    have hsz3 := hm3.size
    go_upto_region 4 with fail
    obtain ⟨W4, hW4⟩ : ∃ W4, W4 = w3.alloc (.cells #[.int .i64 rs, .int .i64 rr, .int .i64 mm, .int .i64 hp, .slice ax ce.length cx] 26) := ⟨_, rfl⟩
    have hm4 : Mod (fun _ => False) w3 W4 := by rw [hW4]; exact (Mod.refl _ w3).alloc _
    have k0 : Bk W4 w3.heap.size 26 #[.int .i64 rs, .int .i64 rr, .int .i64 mm, .int .i64 hp, .slice ax ce.length cx] := by rw [hW4]; exact Bk.new w3 _ _
    rw [← hW4]
    clear hW4
    replace h0 := (h0.mod hm3 (fun h => h)).mod hm4 (fun h => h)
    replace h1 := (h1.mod hm3 (fun h => h)).mod hm4 (fun h => h)
    replace h2 := (h2.mod hm3 (fun h => h)).mod hm4 (fun h => h)
    have a3 := h0.cellv (j := 3) (v := .int .i64 hp) rfl
    have b3 := k0.cellv (j := 3) (v := .int .i64 hp) rfl
    have f3 := k0.frz 3
    have hlt : ∀ g, (Value.slice ax ce.length cx).ownBlock = some g → w.heap.size + 3 ≤ g ∧ g < w3.heap.size := fun g hg => by have h1 := hn3 g hg; have h2 := hr.lt g hg; omega
    go_upto_region 5 with fail
    clear a3 b3 f3
    obtain ⟨W5, hW5⟩ : ∃ W5, W5 = W4.setCell ⟨w3.heap.size, 3, none⟩ (.int .i64 (hp + 1)) := ⟨_, rfl⟩
    have hm5 : Mod (fun k => k = w3.heap.size) W4 W5 := by rw [hW5]; exact (Mod.refl _ W4).setCell _ _ (.inl rfl)
    have k5 : Bk W5 w3.heap.size 26 #[.int .i64 rs, .int .i64 rr, .int .i64 mm, .int .i64 (hp + 1), .slice ax ce.length cx] := by rw [hW5]; exact k0.set 3 (.int .i64 (hp + 1))
    rw [← hW5]
    clear hW5
    replace h1 := h1.mod hm5 (by omega)
    replace h2 := h2.mod hm5 (by omega)
    have hr5 := (hr.keep hm4).mod hm5 (fun g hg e => by have := hlt g hg; omega)
    have hM5 : Mod (fun _ => False) w W5 := ((hM.and hm3).and hm4).trans hm5 (V := fun _ => False) (fun _ _ h => h) (fun i hi h => by omega)
    have hsz5 : w3.heap.size < W5.heap.size := by have := hm5.size; have := k5.lt; omega
    have hw3 : w.heap.size + 3 ≤ w3.heap.size := by omega
    clear hm3 hm4 hm5 hM hr hn3 h0 k0 hs hsz2 hsz3
    have a4 := k5.cellv (j := 4) rfl
    have c0 := h1.cellv (j := 0) rfl
    have c1 := h1.cellv (j := 1) rfl
    have c2 := h1.cellv (j := 2) rfl
    have c3 := h1.cellv (j := 3) rfl
    have c4 := h1.cellv (j := 4) rfl
    have c5 := h1.cellv (j := 5) rfl
    have hl := (RE.lit W5 ⟨on, oq, or_, oa, oh, oc⟩)
    simp only [eyc] at hl
    have hmL := (Mod.refl (fun _ => False) W5).alloc (.cells #[.int .i64 on, .int .i64 oq, .int .i64 or_, .int .i64 oa, .int .i64 oh, .int .i64 oc] 28)
    have hr6 := hr5.keep hmL
    have k6 := k5.mod hmL (fun h => h)
    have h26 := h2.mod hmL (fun h => h)
    have hb48 : Hid ((ce.length + [(⟨on, oq, or_, oa, oh, oc⟩ : Ey)].length) * 48 ≤ 140737488355328) := by show (ce.length + 1) * 48 ≤ _; omega
    go_upto_region 6 with (at_builtin; refine wpList_appE rfl _ _ rfl (.slice ax ce.length cx) (.slice (some ⟨W5.heap.size, 0, none⟩) 1 1) ce [⟨on, oq, or_, oa, oh, oc⟩] rfl rfl hr6 hl.sl hb48.out (ce.length + 1) rfl ?_; intro ay cy w7 hr7 hm7 hf7; have k7 := k6.mod hm7 (fun h => by have := hlt _ h; omega); have g4 := k7.cellv (j := 4) (v := .slice ax ce.length cx) rfl; have fg4 := k7.frz 4)
    have hby : ∀ g, (Value.slice ay (ce.length + 1) cy).ownBlock = some g → w.heap.size + 3 ≤ g ∧ g ≠ w3.heap.size := fun g hg => by
      rcases hf7 g hg with h | h
      · have := hlt g h; omega
      · simp only [World.size_alloc] at h
        omega
    obtain ⟨W8, hW8⟩ : ∃ W8, W8 = w7.setCell ⟨w3.heap.size, 4, none⟩ (.slice ay (ce.length + 1) cy) := ⟨_, rfl⟩
    have hm8 : Mod (fun k => k = w3.heap.size) w7 W8 := by rw [hW8]; exact (Mod.refl _ w7).setCell _ _ (.inl rfl)
    have k8 : Bk W8 w3.heap.size 26 #[.int .i64 rs, .int .i64 rr, .int .i64 mm, .int .i64 (hp + 1), .slice ay (ce.length + 1) cy] := by rw [hW8]; exact k7.set 4 (.slice ay (ce.length + 1) cy)
    rw [← hW8]
    clear hW8
    have hr8 := hr7.mod hm8 (fun g hg e => (hby g hg).2 e)
    have hM8 : Mod (fun _ => False) w W8 := ((hM5.and hmL).trans hm7 (V := fun _ => False) (fun _ _ h => h) (fun i hi h => by have := hlt _ h; omega)).trans hm8 (V := fun _ => False) (fun _ _ h => h) (fun i hi h => by omega)
    have h28 := (h26.mod hm7 (fun h => by have := hlt _ h; omega)).mod hm8 (by omega)
    clear hm8 hm7 hf7 hr7 g4 fg4 k7 hb48 h26 k6 hr6 hmL hl a4 c0 c1 c2 c3 c4 c5 k5 h1 h2 hr5 hM5 hlt
    have hL1 : (ce ++ [(⟨on, oq, or_, oa, oh, oc⟩ : Ey)]).length = ce.length + 1 := by simp
    have HC := fun W h => dCheck19 rs rr mm (hp + 1) ay cy (ce ++ [⟨on, oq, or_, oa, oh, oc⟩]) W h ⟨by omega, by omega⟩
    rw [hL1] at HC
    have hck : ckC ⟨rs, rr, mm, hp + 1, ce ++ [⟨on, oq, or_, oa, oh, oc⟩]⟩ = if okC ⟨rs, rr, mm, hp + 1, ce ++ [⟨on, oq, or_, oa, oh, oc⟩]⟩ = true then 0 else 2 := rfl
    rw [hck] at HC
    clear hck
    generalize okC ⟨rs, rr, mm, hp + 1, ce ++ [⟨on, oq, or_, oa, oh, oc⟩]⟩ = ok at *
    have a0 := k8.cellv (j := 0) rfl
    have a1 := k8.cellv (j := 1) rfl
    have a2 := k8.cellv (j := 2) rfl
    have a3 := k8.cellv (j := 3) rfl
    have a4 := k8.cellv (j := 4) rfl
    go_wp2_with (fail)
    refine (HC _ hr8.sl).mono ?_
    rintro e w9 ⟨rfl, hm9⟩
    clear a0 a1 a2 a3 a4 HC
    have HH : Hid (Bk w9 (w.heap.size + 2) 26 #[.int .i64 0, .int .i64 0, .int .i64 0, .int .i64 0, .slice none 0 0] ∧ Mod (fun _ => False) w w9 ∧ RE w9 (.slice ay (ce.length + 1) cy) (ce ++ [⟨on, oq, or_, oa, oh, oc⟩])) := ⟨h28.mod hm9 (fun h => h), hM8.and hm9, hr8.keep hm9⟩
    have HBY : Hid (∀ g, (Value.slice ay (ce.length + 1) cy).ownBlock = some g → w.heap.size + 3 ≤ g ∧ g ≠ w3.heap.size) := hby
    replace k8 := k8.mod hm9 (fun h => h)
    clear h28 hM8 hr8 hm9 hby
    cases ok
    · have e : RR = (Cm.zero, 2) := by rw [HRR.out]; simp
      subst e
      clear HRR k8
      go_wp2_with (refine wpList_store_row infoC rfl rfl _ _ rfl (w.heap.size + 2) #[.int .i64 0, .int .i64 0, .int .i64 0, .int .i64 0, .slice none 0 0] rfl rfl HH.out.1 rfl rfl rfl ?_; intro wF hBF hMF)
      have hmF : Mod (fun _ => False) w wF := HH.out.2.1.trans hMF (V := fun _ => False) (fun _ _ h => h) (fun i hi h => by omega)
      exact bodyPost_ret (resT2 infoC Try.underlying26 rfl rfl rfl rfl hBF rfl) rfl ⟨_, rfl, Cn.zero _ _, hmF⟩
    · have e : RR = (⟨rs, rr, mm, hp + 1, ce ++ [⟨on, oq, or_, oa, oh, oc⟩]⟩, 0) := by rw [HRR.out]; simp
      subst e
      clear HRR
      have a0 := k8.cellv (j := 0) rfl
      have a1 := k8.cellv (j := 1) rfl
      have a2 := k8.cellv (j := 2) rfl
      have a3 := k8.cellv (j := 3) rfl
      have a4 := k8.cellv (j := 4) rfl
      clear k8
      go_wp2_with (refine wpList_store_row infoC rfl rfl _ _ rfl (w.heap.size + 2) #[.int .i64 rs, .int .i64 rr, .int .i64 mm, .int .i64 (hp + 1), .slice ay (ce.length + 1) cy] rfl rfl HH.out.1 rfl rfl rfl ?_; intro wF hBF hMF)
      have hmF : Mod (fun _ => False) w wF := HH.out.2.1.trans hMF (V := fun _ => False) (fun _ _ h => h) (fun i hi h => by omega)
      refine bodyPost_ret (resT2 infoC Try.underlying26 rfl rfl rfl rfl hBF rfl) rfl ⟨_, rfl, ⟨ay, cy, by rw [hL1], ?_, ?_⟩, hmF⟩
      · show RE wF (.slice ay (ce ++ [(⟨on, oq, or_, oa, oh, oc⟩ : Ey)]).length cy) _
        rw [hL1]
        exact HH.out.2.2.mod hMF (fun g hg e => by have := (HBY.out g hg).1; omega)
      · show Nw w (.slice ay (ce ++ [(⟨on, oq, or_, oa, oh, oc⟩ : Ey)]).length cy)
        rw [hL1]
        exact fun g hg => by have := (HBY.out g hg).1; omega
  · have e : RR = (Cm.zero, 2) := by rw [HRR.out, if_neg (fun h => hv h.1)]
    subst e
    clear HRR
    have hvb : (vv != 1) = true := by simpa using hv
    have HH : Hid (Bk w2 (w.heap.size + 2) 26 #[.int .i64 0, .int .i64 0, .int .i64 0, .int .i64 0, .slice none 0 0] ∧ Mod (fun _ => False) w w2) := ⟨h2, hM⟩
    clear hv hvok h0 h1 h2 hM hs hsz2
    go_wp2_with (refine wpList_store_row infoC rfl rfl _ _ rfl (w.heap.size + 2) #[.int .i64 0, .int .i64 0, .int .i64 0, .int .i64 0, .slice none 0 0] rfl rfl HH.out.1 rfl rfl rfl ?_; intro wF hBF hMF)
    have hmF : Mod (fun _ => False) w wF := HH.out.2.trans hMF (V := fun _ => False) (fun _ _ h => h) (fun i hi h => by omega)
    exact bodyPost_ret (resT2 infoC Try.underlying26 rfl rfl rfl rfl hBF rfl) rfl ⟨_, rfl, Cn.zero _ _, hmF⟩
end Go.Proofs.Ytlekmgjjjniomaa
