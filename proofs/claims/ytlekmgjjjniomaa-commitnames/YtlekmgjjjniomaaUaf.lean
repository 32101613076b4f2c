/- CommitSteps. No conditions. -/
import Derived.Test.YtlekmgjjjniomaaUae
import Derived.Deep.DeepCutAuto
import Derived.Deep.Light
namespace Go.Proofs.Ytlekmgjjjniomaa
open Go.RowKit
theorem SlE.blt {w : World} {v : Value} {l : List Ey} (h : SlE w v l) : l ≠ [] → ∀ g, v.ownBlock = some g → g < w.heap.size := by
  obtain ⟨ao, cap, rfl, _, _, _, h4⟩ := h.form
  intro hl g hg
  obtain ⟨b, off, rfl, hc⟩ := h4 hl
  simp only [Value.ownBlock, Option.some.injEq] at hg
  subst hg
  obtain ⟨e, he⟩ : ∃ e, l[0]? = some e := by
    cases l with
    | nil => exact absurd rfl hl
    | cons e l => exact ⟨e, rfl⟩
  have h := (hc 0 e he).1
  exact World.block_lt_of_cell? w _ h
set_option maxRecDepth 100000 in
set_option maxHeartbeats 20000000 in
theorem steps_walk (v : Value) (c : Cm) (own : Ey) (nd : Int) (w : World) (h : Cv w v c) (hmm : I64 c.mem) (hhp : I64 c.hop) (hb : c.es.length * 48 ≤ 140737488355328) : Calls Try.prog 3 #[v, .agg (eyc own), .int .i64 nd] w fun e w' => e = .returned (.bool true) ∧ Mod (fun _ => False) w w' := by
  obtain ⟨rs, rr, mm, hp, ce⟩ := c
  obtain ⟨cao, ccap, rfl, hs⟩ := h.form
  obtain ⟨on, oq, or_, oa, oh, oc⟩ := own
  simp only [eyc] at *
  obtain ⟨W1, hW⟩ : ∃ W1, W1 = (w.alloc (.cells #[.int .i64 rs, .int .i64 rr, .int .i64 mm, .int .i64 hp, .slice cao ce.length ccap] 26)).alloc (.cells #[.int .i64 on, .int .i64 oq, .int .i64 or_, .int .i64 oa, .int .i64 oh, .int .i64 oc] 28) := ⟨_, rfl⟩
  have hM : Mod (fun _ => False) w W1 := by rw [hW]; exact ((Mod.refl (fun _ => False) w).alloc _).alloc _
  have h0 : Bk W1 w.heap.size 26 #[.int .i64 rs, .int .i64 rr, .int .i64 mm, .int .i64 hp, .slice cao ce.length ccap] := by rw [hW]; exact (Bk.new w _ _).mod ((Mod.refl (fun _ => False) _).alloc _) (fun h => h)
  have h1 : Bk W1 (w.heap.size + 1) 28 #[.int .i64 on, .int .i64 oq, .int .i64 or_, .int .i64 oa, .int .i64 oh, .int .i64 oc] := by
    rw [hW]
    have := Bk.new (w.alloc (.cells #[.int .i64 rs, .int .i64 rr, .int .i64 mm, .int .i64 hp, .slice cao ce.length ccap] 26)) #[.int .i64 on, .int .i64 oq, .int .i64 or_, .int .i64 oa, .int .i64 oh, .int .i64 oc] 28
    simpa using this
  replace h := h.keep hM
  have HL := fun W hs => lCopied rs rr mm hp cao ccap ce W hs hb
  replace hs := hs.keep hM
  go_enter Try.func3, Try.ntmps3
  go_upto_region 1 with fail
  rw [← hW]
  clear hW
  have a0 := h0.cellv (j := 0) rfl
  have a1 := h0.cellv (j := 1) rfl
  have a2 := h0.cellv (j := 2) rfl
  have a3 := h0.cellv (j := 3) rfl
  have a4 := h0.cellv (j := 4) rfl
  go_wp2_with (fail)
  refine (HL _ hs).mono ?_
  rintro e w2 ⟨iao, icap, rfl, hri, hm2, hni⟩
  clear a0 a1 a2 a3 a4 HL
  go_upto_region 2 with fail
  obtain ⟨W3, hW3⟩ : ∃ W3, W3 = w2.alloc (.cells #[.int .i64 rs, .int .i64 rr, .int .i64 mm, .int .i64 hp, .slice iao ce.length icap] 26) := ⟨_, rfl⟩
  obtain ⟨gi, hgi⟩ : ∃ gi, gi = w2.heap.size := ⟨_, rfl⟩
  have hm3 : Mod (fun _ => False) w2 W3 := by rw [hW3]; exact (Mod.refl _ w2).alloc _
  have h7 : Bk W3 gi 26 #[.int .i64 rs, .int .i64 rr, .int .i64 mm, .int .i64 hp, .slice iao ce.length icap] := by rw [hW3, hgi]; exact Bk.new w2 _ _
  rw [← hW3, ← hgi]
  have hci : Cn W1 W3 (.agg #[.int .i64 rs, .int .i64 rr, .int .i64 mm, .int .i64 hp, .slice iao ce.length icap]) ⟨rs, rr, mm, hp, ce⟩ := ⟨iao, icap, rfl, hri.keep hm3, hni⟩
  replace hri := hri.keep hm3
  replace hm2 := hm2.and hm3
  replace hs := hs.keep hm2
  replace hM := hM.and hm2
  replace h := h.keep hm2
  replace h0 := h0.mod hm2 (fun h => h)
  replace h1 := h1.mod hm2 (fun h => h)
  clear hW3 hm3 hni hgi hm2
  have a0 := h0.cellv (j := 0) rfl
  have a1 := h0.cellv (j := 1) rfl
  have a2 := h0.cellv (j := 2) rfl
  have a3 := h0.cellv (j := 3) rfl
  have a4 := h0.cellv (j := 4) rfl
  have b0 := h1.cellv (j := 0) rfl
  have b1 := h1.cellv (j := 1) rfl
  have b2 := h1.cellv (j := 2) rfl
  have b3 := h1.cellv (j := 3) rfl
  have b4 := h1.cellv (j := 4) rfl
  have b5 := h1.cellv (j := 5) rfl
  have d0 := h7.cellv (j := 0) rfl
  have d1 := h7.cellv (j := 1) rfl
  have d2 := h7.cellv (j := 2) rfl
  have d3 := h7.cellv (j := 3) rfl
  have d4 := h7.cellv (j := 4) rfl
  go_wp2_with (fail)
  refine (New_any W3 rs rr mm ⟨on, oq, or_, oa, oh, oc⟩ hmm).mono ?_
  rintro e wA ⟨vA, rfl, hcA, hmA⟩
  obtain ⟨aoA, capA, rfl, hrA, hnA⟩ := hcA.form
  clear a0 a1 a2 a3 a4 b0 b1 b2 b3 b4 b5 d0 d1 d2 d3 d4
  go_upto_region 3 with fail
  obtain ⟨WA, hWA⟩ : ∃ W, W = wA.alloc (.cells #[.int .i64 (newC rs rr mm ⟨on, oq, or_, oa, oh, oc⟩).1.rs, .int .i64 (newC rs rr mm ⟨on, oq, or_, oa, oh, oc⟩).1.rr, .int .i64 (newC rs rr mm ⟨on, oq, or_, oa, oh, oc⟩).1.mem, .int .i64 (newC rs rr mm ⟨on, oq, or_, oa, oh, oc⟩).1.hop, .slice aoA (newC rs rr mm ⟨on, oq, or_, oa, oh, oc⟩).1.es.length capA] 26) := ⟨_, rfl⟩
  obtain ⟨gA, hgA⟩ : ∃ g, g = wA.heap.size := ⟨_, rfl⟩
  have hkA : Mod (fun _ => False) wA WA := by rw [hWA]; exact (Mod.refl _ wA).alloc _
  have kA : Bk WA gA 26 #[.int .i64 (newC rs rr mm ⟨on, oq, or_, oa, oh, oc⟩).1.rs, .int .i64 (newC rs rr mm ⟨on, oq, or_, oa, oh, oc⟩).1.rr, .int .i64 (newC rs rr mm ⟨on, oq, or_, oa, oh, oc⟩).1.mem, .int .i64 (newC rs rr mm ⟨on, oq, or_, oa, oh, oc⟩).1.hop, .slice aoA (newC rs rr mm ⟨on, oq, or_, oa, oh, oc⟩).1.es.length capA] := by rw [hWA, hgA]; exact Bk.new wA _ _
  rw [← hWA, ← hgA]
  replace hcA := hcA.keep hkA
  replace hrA := hrA.keep hkA
  replace hmA := hmA.and hkA
  replace hM := hM.and hmA
  replace hs := hs.keep hmA
  replace hri := hri.keep hmA
  replace h := h.keep hmA
  replace hci := hci.keep hmA
  replace h0 := h0.mod hmA (fun h => h)
  replace h1 := h1.mod hmA (fun h => h)
  replace h7 := h7.mod hmA (fun h => h)
  clear hWA hkA hgA hmA
  have a0 := h0.cellv (j := 0) rfl
  have a1 := h0.cellv (j := 1) rfl
  have a2 := h0.cellv (j := 2) rfl
  have a3 := h0.cellv (j := 3) rfl
  have a4 := h0.cellv (j := 4) rfl
  have b0 := h1.cellv (j := 0) rfl
  have b1 := h1.cellv (j := 1) rfl
  have b2 := h1.cellv (j := 2) rfl
  have b3 := h1.cellv (j := 3) rfl
  have b4 := h1.cellv (j := 4) rfl
  have b5 := h1.cellv (j := 5) rfl
  have d0 := h7.cellv (j := 0) rfl
  have d1 := h7.cellv (j := 1) rfl
  have d2 := h7.cellv (j := 2) rfl
  have d3 := h7.cellv (j := 3) rfl
  have d4 := h7.cellv (j := 4) rfl
  go_wp2_with (fail)
  refine (dNew WA rs rr mm ⟨on, oq, or_, oa, oh, oc⟩).mono ?_
  rintro e wB ⟨vB, rfl, hcB, hmB⟩
  obtain ⟨aoB, capB, rfl, hrB, hnB⟩ := hcB.form
  clear a0 a1 a2 a3 a4 b0 b1 b2 b3 b4 b5 d0 d1 d2 d3 d4
  go_upto_region 4 with fail
  obtain ⟨WB, hWB⟩ : ∃ W, W = wB.alloc (.cells #[.int .i64 (newC rs rr mm ⟨on, oq, or_, oa, oh, oc⟩).1.rs, .int .i64 (newC rs rr mm ⟨on, oq, or_, oa, oh, oc⟩).1.rr, .int .i64 (newC rs rr mm ⟨on, oq, or_, oa, oh, oc⟩).1.mem, .int .i64 (newC rs rr mm ⟨on, oq, or_, oa, oh, oc⟩).1.hop, .slice aoB (newC rs rr mm ⟨on, oq, or_, oa, oh, oc⟩).1.es.length capB] 26) := ⟨_, rfl⟩
  obtain ⟨gB, hgB⟩ : ∃ g, g = wB.heap.size := ⟨_, rfl⟩
  have hkB : Mod (fun _ => False) wB WB := by rw [hWB]; exact (Mod.refl _ wB).alloc _
  have kB : Bk WB gB 26 #[.int .i64 (newC rs rr mm ⟨on, oq, or_, oa, oh, oc⟩).1.rs, .int .i64 (newC rs rr mm ⟨on, oq, or_, oa, oh, oc⟩).1.rr, .int .i64 (newC rs rr mm ⟨on, oq, or_, oa, oh, oc⟩).1.mem, .int .i64 (newC rs rr mm ⟨on, oq, or_, oa, oh, oc⟩).1.hop, .slice aoB (newC rs rr mm ⟨on, oq, or_, oa, oh, oc⟩).1.es.length capB] := by rw [hWB, hgB]; exact Bk.new wB _ _
  rw [← hWB, ← hgB]
  replace hcB := hcB.keep hkB
  replace hrB := hrB.keep hkB
  replace hmB := hmB.and hkB
  replace hM := hM.and hmB
  replace hs := hs.keep hmB
  replace hri := hri.keep hmB
  replace h := h.keep hmB
  replace hci := hci.keep hmB
  replace h0 := h0.mod hmB (fun h => h)
  replace h1 := h1.mod hmB (fun h => h)
  replace h7 := h7.mod hmB (fun h => h)
  replace hcA := hcA.keep hmB
  replace kA := kA.mod hmB (fun h => h)
  replace hrA := hrA.keep hmB
  clear hWB hkB hgB hmB
  have a0 := h0.cellv (j := 0) rfl
  have a1 := h0.cellv (j := 1) rfl
  have a2 := h0.cellv (j := 2) rfl
  have a3 := h0.cellv (j := 3) rfl
  have a4 := h0.cellv (j := 4) rfl
  have b0 := h1.cellv (j := 0) rfl
  have b1 := h1.cellv (j := 1) rfl
  have b2 := h1.cellv (j := 2) rfl
  have b3 := h1.cellv (j := 3) rfl
  have b4 := h1.cellv (j := 4) rfl
  have b5 := h1.cellv (j := 5) rfl
  have d0 := h7.cellv (j := 0) rfl
  have d1 := h7.cellv (j := 1) rfl
  have d2 := h7.cellv (j := 2) rfl
  have d3 := h7.cellv (j := 3) rfl
  have d4 := h7.cellv (j := 4) rfl
  have hliX := hri.lt
  have hlsX := hs.blt
  have hsX := hM.size
  go_wp2_with (fail)
  refine (Add_any WB _ ⟨rs, rr, mm, hp, ce⟩ ⟨on, oq, or_, oa, oh, oc⟩ hci.cv hmm).mono ?_
  rintro e wX ⟨vX, rfl, hcX, hmX⟩
  obtain ⟨aoX, capX, rfl, hrX, hnX⟩ := hcX.form
  clear a0 a1 a2 a3 a4 b0 b1 b2 b3 b4 b5 d0 d1 d2 d3 d4
  go_upto_region 5 with fail
  obtain ⟨WX, hWX⟩ : ∃ W, W = wX.alloc (.cells #[.int .i64 (addC ⟨rs, rr, mm, hp, ce⟩ ⟨on, oq, or_, oa, oh, oc⟩).1.rs, .int .i64 (addC ⟨rs, rr, mm, hp, ce⟩ ⟨on, oq, or_, oa, oh, oc⟩).1.rr, .int .i64 (addC ⟨rs, rr, mm, hp, ce⟩ ⟨on, oq, or_, oa, oh, oc⟩).1.mem, .int .i64 (addC ⟨rs, rr, mm, hp, ce⟩ ⟨on, oq, or_, oa, oh, oc⟩).1.hop, .slice aoX (addC ⟨rs, rr, mm, hp, ce⟩ ⟨on, oq, or_, oa, oh, oc⟩).1.es.length capX] 26) := ⟨_, rfl⟩
  obtain ⟨gX, hgX⟩ : ∃ g, g = wX.heap.size := ⟨_, rfl⟩
  have hkX : Mod (fun _ => False) wX WX := by rw [hWX]; exact (Mod.refl _ wX).alloc _
  have kX : Bk WX gX 26 #[.int .i64 (addC ⟨rs, rr, mm, hp, ce⟩ ⟨on, oq, or_, oa, oh, oc⟩).1.rs, .int .i64 (addC ⟨rs, rr, mm, hp, ce⟩ ⟨on, oq, or_, oa, oh, oc⟩).1.rr, .int .i64 (addC ⟨rs, rr, mm, hp, ce⟩ ⟨on, oq, or_, oa, oh, oc⟩).1.mem, .int .i64 (addC ⟨rs, rr, mm, hp, ce⟩ ⟨on, oq, or_, oa, oh, oc⟩).1.hop, .slice aoX (addC ⟨rs, rr, mm, hp, ce⟩ ⟨on, oq, or_, oa, oh, oc⟩).1.es.length capX] := by rw [hWX, hgX]; exact Bk.new wX _ _
  rw [← hWX, ← hgX]
  replace hcX := hcX.keep hkX
  replace hrX := hrX.keep hkX
  replace hmX := hmX.and hkX
  replace hM := hM.and hmX
  replace hs := hs.keep hmX
  replace hri := hri.keep hmX
  replace h := h.keep hmX
  replace hci := hci.keep hmX
  replace h0 := h0.mod hmX (fun h => h)
  replace h1 := h1.mod hmX (fun h => h)
  replace h7 := h7.mod hmX (fun h => h)
  replace hcA := hcA.keep hmX
  replace kA := kA.mod hmX (fun h => h)
  replace hrA := hrA.keep hmX
  replace hcB := hcB.keep hmX
  replace kB := kB.mod hmX (fun h => h)
  replace hrB := hrB.keep hmX
  clear hWX hkX hgX hmX
  have a0 := h0.cellv (j := 0) rfl
  have a1 := h0.cellv (j := 1) rfl
  have a2 := h0.cellv (j := 2) rfl
  have a3 := h0.cellv (j := 3) rfl
  have a4 := h0.cellv (j := 4) rfl
  have b0 := h1.cellv (j := 0) rfl
  have b1 := h1.cellv (j := 1) rfl
  have b2 := h1.cellv (j := 2) rfl
  have b3 := h1.cellv (j := 3) rfl
  have b4 := h1.cellv (j := 4) rfl
  have b5 := h1.cellv (j := 5) rfl
  have d0 := h7.cellv (j := 0) rfl
  have d1 := h7.cellv (j := 1) rfl
  have d2 := h7.cellv (j := 2) rfl
  have d3 := h7.cellv (j := 3) rfl
  have d4 := h7.cellv (j := 4) rfl
  go_wp2_with (fail)
  refine (dAdd WX _ ⟨rs, rr, mm, hp, ce⟩ ⟨on, oq, or_, oa, oh, oc⟩ h hhp).mono ?_
  rintro e wY ⟨vY, rfl, hcY, hmY⟩
  obtain ⟨aoY, capY, rfl, hrY, hnY⟩ := hcY.form
  clear a0 a1 a2 a3 a4 b0 b1 b2 b3 b4 b5 d0 d1 d2 d3 d4
  go_upto_region 6 with fail
  obtain ⟨WY, hWY⟩ : ∃ W, W = wY.alloc (.cells #[.int .i64 (addC ⟨rs, rr, mm, hp, ce⟩ ⟨on, oq, or_, oa, oh, oc⟩).1.rs, .int .i64 (addC ⟨rs, rr, mm, hp, ce⟩ ⟨on, oq, or_, oa, oh, oc⟩).1.rr, .int .i64 (addC ⟨rs, rr, mm, hp, ce⟩ ⟨on, oq, or_, oa, oh, oc⟩).1.mem, .int .i64 (addC ⟨rs, rr, mm, hp, ce⟩ ⟨on, oq, or_, oa, oh, oc⟩).1.hop, .slice aoY (addC ⟨rs, rr, mm, hp, ce⟩ ⟨on, oq, or_, oa, oh, oc⟩).1.es.length capY] 26) := ⟨_, rfl⟩
  obtain ⟨gY, hgY⟩ : ∃ g, g = wY.heap.size := ⟨_, rfl⟩
  have hkY : Mod (fun _ => False) wY WY := by rw [hWY]; exact (Mod.refl _ wY).alloc _
  have kY : Bk WY gY 26 #[.int .i64 (addC ⟨rs, rr, mm, hp, ce⟩ ⟨on, oq, or_, oa, oh, oc⟩).1.rs, .int .i64 (addC ⟨rs, rr, mm, hp, ce⟩ ⟨on, oq, or_, oa, oh, oc⟩).1.rr, .int .i64 (addC ⟨rs, rr, mm, hp, ce⟩ ⟨on, oq, or_, oa, oh, oc⟩).1.mem, .int .i64 (addC ⟨rs, rr, mm, hp, ce⟩ ⟨on, oq, or_, oa, oh, oc⟩).1.hop, .slice aoY (addC ⟨rs, rr, mm, hp, ce⟩ ⟨on, oq, or_, oa, oh, oc⟩).1.es.length capY] := by rw [hWY, hgY]; exact Bk.new wY _ _
  rw [← hWY, ← hgY]
  replace hcY := hcY.keep hkY
  replace hrY := hrY.keep hkY
  replace hmY := hmY.and hkY
  replace hM := hM.and hmY
  replace hs := hs.keep hmY
  replace hri := hri.keep hmY
  replace h := h.keep hmY
  replace hci := hci.keep hmY
  replace h0 := h0.mod hmY (fun h => h)
  replace h1 := h1.mod hmY (fun h => h)
  replace h7 := h7.mod hmY (fun h => h)
  replace hcA := hcA.keep hmY
  replace kA := kA.mod hmY (fun h => h)
  replace hrA := hrA.keep hmY
  replace hcB := hcB.keep hmY
  replace kB := kB.mod hmY (fun h => h)
  replace hrB := hrB.keep hmY
  replace hcX := hcX.keep hmY
  replace kX := kX.mod hmY (fun h => h)
  replace hrX := hrX.keep hmY
  clear hWY hkY hgY hmY
  have a0 := h0.cellv (j := 0) rfl
  have a1 := h0.cellv (j := 1) rfl
  have a2 := h0.cellv (j := 2) rfl
  have a3 := h0.cellv (j := 3) rfl
  have a4 := h0.cellv (j := 4) rfl
  have b0 := h1.cellv (j := 0) rfl
  have b1 := h1.cellv (j := 1) rfl
  have b2 := h1.cellv (j := 2) rfl
  have b3 := h1.cellv (j := 3) rfl
  have b4 := h1.cellv (j := 4) rfl
  have b5 := h1.cellv (j := 5) rfl
  have d0 := h7.cellv (j := 0) rfl
  have d1 := h7.cellv (j := 1) rfl
  have d2 := h7.cellv (j := 2) rfl
  have d3 := h7.cellv (j := 3) rfl
  have d4 := h7.cellv (j := 4) rfl
  have hliP := hri.lt
  have hlsP := hs.blt
  have hsP := hM.size
  have hltX := hrX.lt
  go_wp2_with (fail)
  refine (Pass_any WY _ ⟨rs, rr, mm, hp, ce⟩ hci.cv hmm).mono ?_
  rintro e wP ⟨vP, rfl, hcP, hmP⟩
  obtain ⟨aoP, capP, rfl, hrP, hnP⟩ := hcP.form
  clear a0 a1 a2 a3 a4 b0 b1 b2 b3 b4 b5 d0 d1 d2 d3 d4
  go_upto_region 7 with fail
  obtain ⟨WP, hWP⟩ : ∃ W, W = wP.alloc (.cells #[.int .i64 (pasC ⟨rs, rr, mm, hp, ce⟩).1.rs, .int .i64 (pasC ⟨rs, rr, mm, hp, ce⟩).1.rr, .int .i64 (pasC ⟨rs, rr, mm, hp, ce⟩).1.mem, .int .i64 (pasC ⟨rs, rr, mm, hp, ce⟩).1.hop, .slice aoP (pasC ⟨rs, rr, mm, hp, ce⟩).1.es.length capP] 26) := ⟨_, rfl⟩
  obtain ⟨gP, hgP⟩ : ∃ g, g = wP.heap.size := ⟨_, rfl⟩
  have hkP : Mod (fun _ => False) wP WP := by rw [hWP]; exact (Mod.refl _ wP).alloc _
  have kP : Bk WP gP 26 #[.int .i64 (pasC ⟨rs, rr, mm, hp, ce⟩).1.rs, .int .i64 (pasC ⟨rs, rr, mm, hp, ce⟩).1.rr, .int .i64 (pasC ⟨rs, rr, mm, hp, ce⟩).1.mem, .int .i64 (pasC ⟨rs, rr, mm, hp, ce⟩).1.hop, .slice aoP (pasC ⟨rs, rr, mm, hp, ce⟩).1.es.length capP] := by rw [hWP, hgP]; exact Bk.new wP _ _
  rw [← hWP, ← hgP]
  replace hcP := hcP.keep hkP
  replace hrP := hrP.keep hkP
  replace hmP := hmP.and hkP
  replace hM := hM.and hmP
  replace hs := hs.keep hmP
  replace hri := hri.keep hmP
  replace h := h.keep hmP
  replace hci := hci.keep hmP
  replace h0 := h0.mod hmP (fun h => h)
  replace h1 := h1.mod hmP (fun h => h)
  replace h7 := h7.mod hmP (fun h => h)
  replace hcA := hcA.keep hmP
  replace kA := kA.mod hmP (fun h => h)
  replace hrA := hrA.keep hmP
  replace hcB := hcB.keep hmP
  replace kB := kB.mod hmP (fun h => h)
  replace hrB := hrB.keep hmP
  replace hcX := hcX.keep hmP
  replace kX := kX.mod hmP (fun h => h)
  replace hrX := hrX.keep hmP
  replace hcY := hcY.keep hmP
  replace kY := kY.mod hmP (fun h => h)
  replace hrY := hrY.keep hmP
  clear hWP hkP hgP hmP
  have a0 := h0.cellv (j := 0) rfl
  have a1 := h0.cellv (j := 1) rfl
  have a2 := h0.cellv (j := 2) rfl
  have a3 := h0.cellv (j := 3) rfl
  have a4 := h0.cellv (j := 4) rfl
  have b0 := h1.cellv (j := 0) rfl
  have b1 := h1.cellv (j := 1) rfl
  have b2 := h1.cellv (j := 2) rfl
  have b3 := h1.cellv (j := 3) rfl
  have b4 := h1.cellv (j := 4) rfl
  have b5 := h1.cellv (j := 5) rfl
  have d0 := h7.cellv (j := 0) rfl
  have d1 := h7.cellv (j := 1) rfl
  have d2 := h7.cellv (j := 2) rfl
  have d3 := h7.cellv (j := 3) rfl
  have d4 := h7.cellv (j := 4) rfl
  go_wp2_with (fail)
  refine (dPass WP _ ⟨rs, rr, mm, hp, ce⟩ h hhp).mono ?_
  rintro e wQ ⟨vQ, rfl, hcQ, hmQ⟩
  obtain ⟨aoQ, capQ, rfl, hrQ, hnQ⟩ := hcQ.form
  clear a0 a1 a2 a3 a4 b0 b1 b2 b3 b4 b5 d0 d1 d2 d3 d4
  go_upto_region 8 with fail
  obtain ⟨WQ, hWQ⟩ : ∃ W, W = wQ.alloc (.cells #[.int .i64 (pasC ⟨rs, rr, mm, hp, ce⟩).1.rs, .int .i64 (pasC ⟨rs, rr, mm, hp, ce⟩).1.rr, .int .i64 (pasC ⟨rs, rr, mm, hp, ce⟩).1.mem, .int .i64 (pasC ⟨rs, rr, mm, hp, ce⟩).1.hop, .slice aoQ (pasC ⟨rs, rr, mm, hp, ce⟩).1.es.length capQ] 26) := ⟨_, rfl⟩
  obtain ⟨gQ, hgQ⟩ : ∃ g, g = wQ.heap.size := ⟨_, rfl⟩
  have hkQ : Mod (fun _ => False) wQ WQ := by rw [hWQ]; exact (Mod.refl _ wQ).alloc _
  have kQ : Bk WQ gQ 26 #[.int .i64 (pasC ⟨rs, rr, mm, hp, ce⟩).1.rs, .int .i64 (pasC ⟨rs, rr, mm, hp, ce⟩).1.rr, .int .i64 (pasC ⟨rs, rr, mm, hp, ce⟩).1.mem, .int .i64 (pasC ⟨rs, rr, mm, hp, ce⟩).1.hop, .slice aoQ (pasC ⟨rs, rr, mm, hp, ce⟩).1.es.length capQ] := by rw [hWQ, hgQ]; exact Bk.new wQ _ _
  rw [← hWQ, ← hgQ]
  replace hcQ := hcQ.keep hkQ
  replace hrQ := hrQ.keep hkQ
  replace hmQ := hmQ.and hkQ
  replace hM := hM.and hmQ
  replace hs := hs.keep hmQ
  replace hri := hri.keep hmQ
  replace h := h.keep hmQ
  replace hci := hci.keep hmQ
  replace h0 := h0.mod hmQ (fun h => h)
  replace h1 := h1.mod hmQ (fun h => h)
  replace h7 := h7.mod hmQ (fun h => h)
  replace hcA := hcA.keep hmQ
  replace kA := kA.mod hmQ (fun h => h)
  replace hrA := hrA.keep hmQ
  replace hcB := hcB.keep hmQ
  replace kB := kB.mod hmQ (fun h => h)
  replace hrB := hrB.keep hmQ
  replace hcX := hcX.keep hmQ
  replace kX := kX.mod hmQ (fun h => h)
  replace hrX := hrX.keep hmQ
  replace hcY := hcY.keep hmQ
  replace kY := kY.mod hmQ (fun h => h)
  replace hrY := hrY.keep hmQ
  replace hcP := hcP.keep hmQ
  replace kP := kP.mod hmQ (fun h => h)
  replace hrP := hrP.keep hmQ
  clear hWQ hkQ hgQ hmQ
  have a0 := kA.cellv (j := 0) rfl
  have a1 := kA.cellv (j := 1) rfl
  have a2 := kA.cellv (j := 2) rfl
  have a3 := kA.cellv (j := 3) rfl
  have a4 := kA.cellv (j := 4) rfl
  have b0 := kB.cellv (j := 0) rfl
  have b1 := kB.cellv (j := 1) rfl
  have b2 := kB.cellv (j := 2) rfl
  have b3 := kB.cellv (j := 3) rfl
  have b4 := kB.cellv (j := 4) rfl
  go_wp2_with (fail)
  refine (sameC_eq _ _ _ _ hcA.cv hcB.cv).mono ?_
  rintro e zA ⟨rfl, hzA⟩
  clear a0 a1 a2 a3 a4 b0 b1 b2 b3 b4
  replace hs := hs.keep hzA
  replace hri := hri.keep hzA
  replace h := h.keep hzA
  replace hci := hci.keep hzA
  replace h0 := h0.mod hzA (fun h => h)
  replace h1 := h1.mod hzA (fun h => h)
  replace h7 := h7.mod hzA (fun h => h)
  replace hcA := hcA.keep hzA
  replace kA := kA.mod hzA (fun h => h)
  replace hrA := hrA.keep hzA
  replace hcB := hcB.keep hzA
  replace kB := kB.mod hzA (fun h => h)
  replace hrB := hrB.keep hzA
  replace hcX := hcX.keep hzA
  replace kX := kX.mod hzA (fun h => h)
  replace hrX := hrX.keep hzA
  replace hcY := hcY.keep hzA
  replace kY := kY.mod hzA (fun h => h)
  replace hrY := hrY.keep hzA
  replace hcP := hcP.keep hzA
  replace kP := kP.mod hzA (fun h => h)
  replace hrP := hrP.keep hzA
  replace hcQ := hcQ.keep hzA
  replace kQ := kQ.mod hzA (fun h => h)
  replace hrQ := hrQ.keep hzA
  replace hM := hM.and hzA
  clear hzA
  have a0 := kX.cellv (j := 0) rfl
  have a1 := kX.cellv (j := 1) rfl
  have a2 := kX.cellv (j := 2) rfl
  have a3 := kX.cellv (j := 3) rfl
  have a4 := kX.cellv (j := 4) rfl
  have b0 := kY.cellv (j := 0) rfl
  have b1 := kY.cellv (j := 1) rfl
  have b2 := kY.cellv (j := 2) rfl
  have b3 := kY.cellv (j := 3) rfl
  have b4 := kY.cellv (j := 4) rfl
  go_wp2_with (fail)
  refine (sameC_eq _ _ _ _ hcX.cv hcY.cv).mono ?_
  rintro e zX ⟨rfl, hzX⟩
  clear a0 a1 a2 a3 a4 b0 b1 b2 b3 b4
  replace hs := hs.keep hzX
  replace hri := hri.keep hzX
  replace h := h.keep hzX
  replace hci := hci.keep hzX
  replace h0 := h0.mod hzX (fun h => h)
  replace h1 := h1.mod hzX (fun h => h)
  replace h7 := h7.mod hzX (fun h => h)
  replace hcA := hcA.keep hzX
  replace kA := kA.mod hzX (fun h => h)
  replace hrA := hrA.keep hzX
  replace hcB := hcB.keep hzX
  replace kB := kB.mod hzX (fun h => h)
  replace hrB := hrB.keep hzX
  replace hcX := hcX.keep hzX
  replace kX := kX.mod hzX (fun h => h)
  replace hrX := hrX.keep hzX
  replace hcY := hcY.keep hzX
  replace kY := kY.mod hzX (fun h => h)
  replace hrY := hrY.keep hzX
  replace hcP := hcP.keep hzX
  replace kP := kP.mod hzX (fun h => h)
  replace hrP := hrP.keep hzX
  replace hcQ := hcQ.keep hzX
  replace kQ := kQ.mod hzX (fun h => h)
  replace hrQ := hrQ.keep hzX
  replace hM := hM.and hzX
  clear hzX
  have a0 := kP.cellv (j := 0) rfl
  have a1 := kP.cellv (j := 1) rfl
  have a2 := kP.cellv (j := 2) rfl
  have a3 := kP.cellv (j := 3) rfl
  have a4 := kP.cellv (j := 4) rfl
  have b0 := kQ.cellv (j := 0) rfl
  have b1 := kQ.cellv (j := 1) rfl
  have b2 := kQ.cellv (j := 2) rfl
  have b3 := kQ.cellv (j := 3) rfl
  have b4 := kQ.cellv (j := 4) rfl
  go_wp2_with (fail)
  refine (sameC_eq _ _ _ _ hcP.cv hcQ.cv).mono ?_
  rintro e zP ⟨rfl, hzP⟩
  clear a0 a1 a2 a3 a4 b0 b1 b2 b3 b4
  replace hs := hs.keep hzP
  replace hri := hri.keep hzP
  replace h := h.keep hzP
  replace hci := hci.keep hzP
  replace h0 := h0.mod hzP (fun h => h)
  replace h1 := h1.mod hzP (fun h => h)
  replace h7 := h7.mod hzP (fun h => h)
  replace hcA := hcA.keep hzP
  replace kA := kA.mod hzP (fun h => h)
  replace hrA := hrA.keep hzP
  replace hcB := hcB.keep hzP
  replace kB := kB.mod hzP (fun h => h)
  replace hrB := hrB.keep hzP
  replace hcX := hcX.keep hzP
  replace kX := kX.mod hzP (fun h => h)
  replace hrX := hrX.keep hzP
  replace hcY := hcY.keep hzP
  replace kY := kY.mod hzP (fun h => h)
  replace hrY := hrY.keep hzP
  replace hcP := hcP.keep hzP
  replace kP := kP.mod hzP (fun h => h)
  replace hrP := hrP.keep hzP
  replace hcQ := hcQ.keep hzP
  replace kQ := kQ.mod hzP (fun h => h)
  replace hrQ := hrQ.keep hzP
  replace hM := hM.and hzP
  clear hzP
  go_upto_region 10 with fail
  have HC1 := fun W hs => cCheck rs rr mm hp iao icap ce W hs hmm
  have HC2 := fun W hs => dCheck19 rs rr mm hp cao ccap ce W hs hhp
  have HV1 := fun W h => Visit_any W (.agg #[.int .i64 rs, .int .i64 rr, .int .i64 mm, .int .i64 hp, .slice iao ce.length icap]) ⟨rs, rr, mm, hp, ce⟩ nd h hmm
  have HV2 := fun W h => dVisit W (.agg #[.int .i64 rs, .int .i64 rr, .int .i64 mm, .int .i64 hp, .slice cao ce.length ccap]) ⟨rs, rr, mm, hp, ce⟩ nd h hhp
  generalize ckC ⟨rs, rr, mm, hp, ce⟩ = ec at *
  generalize vis ⟨rs, rr, mm, hp, ce⟩ nd = vv at *
  refine rst gi w.heap.size rs rr mm hp nd ec vv iao cao ce.length icap ccap ⟨⟨⟨_, rfl, rfl, rfl, rfl, by decide +kernel⟩⟩, ⟨⟨_, rfl, rfl, rfl, rfl, by decide +kernel⟩⟩, ⟨⟨_, rfl, rfl, rfl, rfl, by decide +kernel⟩⟩, ⟨⟨_, rfl, rfl, rfl, rfl, by decide +kernel⟩⟩, ⟨⟨_, rfl, rfl, rfl, rfl, by decide +kernel⟩⟩, ⟨⟨_, rfl, rfl, rfl, rfl, by decide +kernel⟩⟩, ⟨⟨_, rfl, rfl, rfl, rfl, by decide +kernel⟩⟩, ⟨⟨_, rfl, rfl, rfl, rfl, by decide +kernel⟩⟩, ⟨⟨_, rfl, rfl, rfl, rfl, by decide +kernel⟩⟩, ⟨⟨_, rfl, rfl, rfl, rfl, by decide +kernel⟩⟩, ⟨⟨_, rfl, rfl, rfl, rfl, by decide +kernel⟩⟩, ⟨⟨_, rfl, rfl, rfl, rfl, by decide +kernel⟩⟩, ⟨⟨_, rfl, rfl, rfl, rfl, by decide +kernel⟩⟩, ⟨⟨_, rfl, rfl, rfl, rfl, by decide +kernel⟩⟩, ⟨⟨_, rfl, rfl, rfl, rfl, by decide +kernel⟩⟩, ⟨⟨_, rfl, rfl, rfl, rfl, by decide +kernel⟩⟩, ⟨⟨_, rfl, rfl, rfl, rfl, by decide +kernel⟩⟩, ⟨⟨_, rfl, rfl, rfl, rfl, by decide +kernel⟩⟩, ⟨⟨_, rfl, rfl, rfl, rfl, by decide +kernel⟩⟩, ⟨⟨_, rfl, rfl, rfl, rfl, by decide +kernel⟩⟩⟩ rfl (by decide +kernel) rfl (by decide +kernel) rfl rfl rfl rfl (h7.cellv rfl) (h7.cellv rfl) (h7.cellv rfl) (h7.cellv rfl) (h7.cellv rfl) (h0.cellv rfl) (h0.cellv rfl) (h0.cellv rfl) (h0.cellv rfl) (h0.cellv rfl) (fun W hW => HC1 W (hri.sl.keep hW)) (fun W hW => HC2 W (hs.keep hW)) (fun W hW => HV1 W (hci.cv.keep hW)) (fun W hW => HV2 W (h.keep hW)) (fun W hW => sameC_eq _ _ _ _ (hci.cv.keep hW) (h.keep hW)) ?_
  intro f w10 hm10
  simp only [puts, Act.put, List.setIfInBounds_toArray, List.set_cons_succ, List.set_cons_zero]
  clear HC1 HC2 HV1 HV2
  replace hs := hs.keep hm10
  replace hri := hri.keep hm10
  replace h := h.keep hm10
  replace hci := hci.keep hm10
  replace h0 := h0.mod hm10 (fun h => h)
  replace h1 := h1.mod hm10 (fun h => h)
  replace h7 := h7.mod hm10 (fun h => h)
  replace hcA := hcA.keep hm10
  replace kA := kA.mod hm10 (fun h => h)
  replace hrA := hrA.keep hm10
  replace hcB := hcB.keep hm10
  replace kB := kB.mod hm10 (fun h => h)
  replace hrB := hrB.keep hm10
  replace hcX := hcX.keep hm10
  replace kX := kX.mod hm10 (fun h => h)
  replace hrX := hrX.keep hm10
  replace hcY := hcY.keep hm10
  replace kY := kY.mod hm10 (fun h => h)
  replace hrY := hrY.keep hm10
  replace hcP := hcP.keep hm10
  replace kP := kP.mod hm10 (fun h => h)
  replace hrP := hrP.keep hm10
  replace hcQ := hcQ.keep hm10
  replace kQ := kQ.mod hm10 (fun h => h)
  replace hrQ := hrQ.keep hm10
  replace hM := hM.and hm10
  clear hm10
  clear h1 hcA kA hrA hnA hcB kB hrB hnB hcY kY hrY hnY hcQ kQ hrQ hnQ
  have hneP := hrX.ne kP
  have hneX7 := hrX.ne h7
  have hneX0 := hrX.ne h0
  have hneP7 := hrP.ne h7
  have hneP0 := hrP.ne h0
  have HNE : Hid (∀ g, (Value.slice aoX (addC ⟨rs, rr, mm, hp, ce⟩ ⟨on, oq, or_, oa, oh, oc⟩).1.es.length capX).ownBlock = some g → g ≠ gX) := hrX.ne kX
  have HNEP : Hid (∀ g, (Value.slice aoP (pasC ⟨rs, rr, mm, hp, ce⟩).1.es.length capP).ownBlock = some g → g ≠ gP) := hrP.ne kP
  generalize addC ⟨rs, rr, mm, hp, ce⟩ ⟨on, oq, or_, oa, oh, oc⟩ = AX at *
  generalize pasC ⟨rs, rr, mm, hp, ce⟩ = AP at *
  obtain ⟨⟨xrs, xrr, xmm, xhp, xes⟩, xe⟩ := AX
  obtain ⟨⟨prs, prr, pmm, php, pes⟩, pe⟩ := AP
  simp only at *
  simp only [bne_self_eq_false, Bool.not_true, Bool.or_self]
  go_wp2
  have HXX : Hid (RE w10 (.slice aoX xes.length capX) xes) := hrX
  have HKX : Hid (Bk w10 gX 26 #[.int .i64 xrs, .int .i64 xrr, .int .i64 xmm, .int .i64 xhp, .slice aoX xes.length capX]) := kX
  go_loopw [20] (fun i wr => ∃ k : Nat, i = .int .i64 (k : Int) ∧ k ≤ xes.length ∧ Hid (Mod (fun b => (Value.slice aoX xes.length capX).ownBlock = some b) w10 wr) ∧ Hid (∀ g cur, aoX = some ⟨g, 0, none⟩ → Bk w10 g 28 cur → ∃ cur' : Array Value, Bk wr g 28 cur' ∧ cur'.size = cur.size)) (fun i _ => xes.length - (intOf i).toNat)
  case atStart => exact ⟨0, rfl, by omega, Mod.refl _ _, fun g cur _ h => ⟨cur, h, rfl⟩⟩
  obtain ⟨k, rfl, hk, hMw, hBw⟩ := hrel
  have a4 := (HKX.out.mod hMw.out (fun h => HNE.out _ h rfl)).cellv (j := 4) rfl
  by_cases hlt : k < xes.length
  · obtain ⟨_, _, e5, hle, hmx, hz⟩ := HXX.out.form
    simp only [Value.slice.injEq] at e5
    obtain ⟨rfl, _, rfl⟩ := e5
    rcases hz with ⟨rfl, hz⟩ | ⟨g, cur, rfl, hB, hsz, _⟩
    · exfalso
      subst_vars
      simp_all
    · obtain ⟨cur', hB', hs'⟩ := hBw.out g cur rfl hB
      have hlt2 : k * 6 + 3 < cur'.size := by rw [hs']; omega
      have s3 := hB'.cellv (j := k * 6 + 3) (v := cur'[k * 6 + 3]) (by simp [hlt2])
      have fs := hB'.frz (k * 6 + 3)
      have hki : (k : Int) < xes.length := by omega
      have hbl : xes.length ≤ 9223372036854775807 := by unfold maxLen at hmx; omega
      have hm' := hMw.out.setCell ⟨g, k * 6 + 3, none⟩ (.int .i64 (-1)) (.inl rfl)
      have hk1 : Hid (k + 1 ≤ xes.length) := Nat.succ_le_of_lt hlt
      have hB2 := hB'.set (k * 6 + 3) (.int .i64 (-1))
      go_wp2
      go_roundw
      case rel => exact ⟨k + 1, by go_num, hk1.out, hm', fun g2 cur2 e2 h2 => by
        simp only [Option.some.injEq, Addr.mk.injEq, and_true] at e2
        subst e2
        obtain ⟨cur3, h3, h4⟩ := hBw.out g cur2 rfl h2
        exact ⟨_, h3.set (k * 6 + 3) (.int .i64 (-1)), by simpa using h4⟩⟩
      case measure => have := hk1.out; simp [intOf]; omega
  · replace kP := kP.mod hMw.out (fun h => hneP _ h rfl)
    replace hrP := hrP.mod hMw.out (fun g hg h => by have h1 := hltX g h; have h2 := hnP g hg; omega)
    replace h7 := h7.mod hMw.out (fun h => hneX7 _ h rfl)
    replace h0 := h0.mod hMw.out (fun h => hneX0 _ h rfl)
    replace hri := hri.mod hMw.out (fun g hg h => by have h1 := hliX g hg; have h2 := hnX g h; omega)
    replace hs := hs.mod hMw.out (fun hl g hg h => by have h1 := hlsX hl g hg; have h2 := hnX g h; omega)
    replace hM := hM.trans hMw.out (V := fun _ => False) (fun _ _ h => h) (fun i hi h => by have h2 := hnX i h; omega)
    clear hMw hBw HXX HKX
    go_wp2
    clear a4 hlt hk
    obtain ⟨wx, rfl⟩ : ∃ x, x = wr := ⟨_, rfl⟩
    have HXP : Hid (RE wx (.slice aoP pes.length capP) pes) := hrP
    have HKP : Hid (Bk wx gP 26 #[.int .i64 prs, .int .i64 prr, .int .i64 pmm, .int .i64 php, .slice aoP pes.length capP]) := kP
    go_loopw [21] (fun i wq => ∃ k : Nat, i = .int .i64 (k : Int) ∧ k ≤ pes.length ∧ Hid (Mod (fun b => (Value.slice aoP pes.length capP).ownBlock = some b) wx wq) ∧ Hid (∀ g cur, aoP = some ⟨g, 0, none⟩ → Bk wx g 28 cur → ∃ cur' : Array Value, Bk wq g 28 cur' ∧ cur'.size = cur.size)) (fun i _ => pes.length - (intOf i).toNat)
    case atStart => exact ⟨0, rfl, by omega, Mod.refl _ _, fun g cur _ h => ⟨cur, h, rfl⟩⟩
    obtain ⟨k, rfl, hk, hMw, hBw⟩ := hrel
    have a4 := (HKP.out.mod hMw.out (fun h => HNEP.out _ h rfl)).cellv (j := 4) rfl
    by_cases hlt : k < pes.length
    · obtain ⟨_, _, e5, hle, hmx, hz⟩ := HXP.out.form
      simp only [Value.slice.injEq] at e5
      obtain ⟨rfl, _, rfl⟩ := e5
      rcases hz with ⟨rfl, hz⟩ | ⟨g, cur, rfl, hB, hsz, _⟩
      · exfalso
        subst_vars
        simp_all
      · obtain ⟨cur', hB', hs'⟩ := hBw.out g cur rfl hB
        have hlt2 : k * 6 + 3 < cur'.size := by rw [hs']; omega
        have s3 := hB'.cellv (j := k * 6 + 3) (v := cur'[k * 6 + 3]) (by simp [hlt2])
        have fs := hB'.frz (k * 6 + 3)
        have hki : (k : Int) < pes.length := by omega
        have hbl : pes.length ≤ 9223372036854775807 := by unfold maxLen at hmx; omega
        have hm' := hMw.out.setCell ⟨g, k * 6 + 3, none⟩ (.int .i64 (-1)) (.inl rfl)
        have hk1 : Hid (k + 1 ≤ pes.length) := Nat.succ_le_of_lt hlt
        have hB2 := hB'.set (k * 6 + 3) (.int .i64 (-1))
        go_wp2
        go_roundw
        case rel => exact ⟨k + 1, by go_num, hk1.out, hm', fun g2 cur2 e2 h2 => by
          simp only [Option.some.injEq, Addr.mk.injEq, and_true] at e2
          subst e2
          obtain ⟨cur3, h3, h4⟩ := hBw.out g cur2 rfl h2
          exact ⟨_, h3.set (k * 6 + 3) (.int .i64 (-1)), by simpa using h4⟩⟩
        case measure => have := hk1.out; simp [intOf]; omega
    · replace h7 := h7.mod hMw.out (fun h => hneP7 _ h rfl)
      replace h0 := h0.mod hMw.out (fun h => hneP0 _ h rfl)
      replace hri := hri.mod hMw.out (fun g hg h => by have h1 := hliP g hg; have h2 := hnP g h; omega)
      replace hs := hs.mod hMw.out (fun hl g hg h => by have h1 := hlsP hl g hg; have h2 := hnP g h; omega)
      replace hM := hM.trans hMw.out (V := fun _ => False) (fun _ _ h => h) (fun i hi h => by have h2 := hnP i h; omega)
      clear hMw hBw HXP HKP
      have d0 := h7.cellv (j := 0) rfl
      have d1 := h7.cellv (j := 1) rfl
      have d2 := h7.cellv (j := 2) rfl
      have d3 := h7.cellv (j := 3) rfl
      have d4 := h7.cellv (j := 4) rfl
      have b0 := h0.cellv (j := 0) rfl
      have b1 := h0.cellv (j := 1) rfl
      have b2 := h0.cellv (j := 2) rfl
      have b3 := h0.cellv (j := 3) rfl
      have b4 := h0.cellv (j := 4) rfl
      go_wp2_with (fail)
      refine (sameC_eq _ _ _ ⟨rs, rr, mm, hp, ce⟩ ⟨iao, icap, rfl, hri.sl⟩ ⟨cao, ccap, rfl, hs⟩).mono ?_
      rintro e y1 ⟨rfl, hy1⟩
      clear d0 d1 d2 d3 d4 b0 b1 b2 b3 b4
      go_wp2_with (fail)
      refine (awake_any _).mono ?_
      rintro e y2 ⟨rfl, hy2⟩
      go_wp2
      go_ret
      exact ⟨rfl, (hM.and hy1).and hy2⟩
namespace commitSteps
open Go.ChangeShapes Go.WideShapes Go.ChangeAt Go.RowKit
set_option maxRecDepth 100000 in
theorem lifted (os : Os) (started : os.Started) (H : Type) (enc : TypeId × Value → H) :
    ReturnsInHanded {} Try.checked os 3 .any (Rows.commitStepsSpec.pre6 enc Try.prog Try.f3 Rows.commitStepsRow.domain false) (Rows.commitStepsSpec.post enc Try.prog Try.f3 false true false false) := by
  refine returnsInHanded_of_change_sized (C := Try.checked) own started (by kernel_rfl) Try.func3
    (ChangeSpec.witness6 (enc := enc) (C := Try.checked) false ⟨#[], #[.agg #[.int .i64 0, .int .i64 0, .int .i64 0, .int .i64 0, .slice none 0 0], .agg #[.int .i64 0, .int .i64 0, .int .i64 0, .int .i64 0, .int .i64 0, .int .i64 0], .int .i64 0], []⟩ 8 (by kernel_rfl) (by kernel_rfl) (by kernel_rfl) (by kernel_rfl)) ?_
  intro W base args ds gs before hval0 hW hcnd hsz0 _
  have hval : ∀ (j : Nat) t v, Try.f3.params[j]? = some t → args[j]? = some v → Value.okWide Try.prog W .any base t v := hval0
  have hsz : (DataW.weightsEach Try.prog (Try.f3.params.toList ++ Rows.commitStepsSpec.plain.varTypes Try.prog) (ds ++ gs)).all (· ≤ reachBytes) = true := hsz0
  have hW' := hW
  obtain ⟨p, q, hA0, hV, rfl, hfz, hnd⟩ := hW
  have hA : DataW.TrodAll enc Try.prog W 0 (fun _ => true) true Try.f3.params.toList args.toList ds p := hA0
  rw [Try.params3] at hA hval hsz
  obtain ⟨v0, vs0, d0, ds0, p0, q0, hargs, rfl, rfl, h0, r0⟩ := trodAll_cons hA
  obtain ⟨v1, vs1, d1, ds1, p1, q1, rfl, rfl, rfl, h1, r1⟩ := trodAll_cons r0
  obtain ⟨v2, vs2, d2, ds2, p2, q2, rfl, rfl, rfl, h2, r2⟩ := trodAll_cons r1
  obtain ⟨rfl, rfl, rfl⟩ := trodAll_nil r2
  obtain rfl : args = #[v0, v1, v2] := by cases args; simp_all
  obtain ⟨rfl, rfl⟩ := trodVars_none hV
  have k0 := h0
  have lt0 : ∀ x ∈ p0, x.block < W.heap.size := by obtain ⟨m, hm⟩ := k0; exact DataW.trod_lt m _ _ _ hm
  obtain ⟨c0, hc0, ic0, ih0⟩ := open_commit (hval 0 26 v0 rfl rfl) h0
  have hq0 := commit_len hc0 h0 reachBytes (by
    rw [List.all_eq_true] at hsz
    intro n hn
    have := hsz n (DataW.weights_mem_each (t := 26) (j := 0) rfl rfl n hn)
    simpa using this)
  have k1 := h1
  have lt1 : ∀ x ∈ p1, x.block < W.heap.size := by obtain ⟨m, hm⟩ := k1; exact DataW.trod_lt m _ _ _ hm
  obtain ⟨e1, rfl, ie1⟩ := open_entry (hval 1 28 v1 rfl rfl) h1
  obtain ⟨a2, rfl, rfl, rfl, w2⟩ := open_int Try.underlying3 (hval 2 3 v2 rfl rfl) h2
  clear hA0 hval0
  refine (steps_walk v0 c0 e1 a2 W hc0 ic0 ih0 (Nat.le_trans hq0 (by decide))).mono fun e W' ⟨he, hm⟩ => ?_
  subst he
  have bel : Below W.heap.size W W' := hm.below _ (Nat.le_refl _) (fun _ h => h.elim)
  exact ⟨_, rfl, _, _, _, [], _, [], hW', trodAll_mk1 (shut_bool Try.underlying4 _), (trodAll_cons_mk (Below.trod laidOut (by kernel_rfl) (of_decide_eq_true (by kernel_rfl)) k0 bel lt0) (trodAll_cons_mk (Below.trod laidOut (by kernel_rfl) (of_decide_eq_true (by kernel_rfl)) k1 bel lt1) (trodAll_cons_mk (shut_int Try.underlying3 w2) trodAll_mk0))), rfl, bel.frame _, fun h => by cases h⟩

theorem over : Rows.commitStepsRow.holds Try.pinned (OpenSpec.ofChange Rows.commitStepsSpec) :=
  OpenClaim.holds_of_wide 3 Try.f3 rfl rfl rfl rfl rfl rfl rfl ⟨rfl, rfl, rfl, rfl, rfl⟩ rfl rfl rfl rfl rfl (by kernel_rfl) Try.func3 (by kernel_rfl)
    (of_decide_eq_true (by kernel_rfl)) (by unfold Func.isWrapper; first | (rw [if_pos (by decide +kernel)]; kernel_rfl) | (rw [if_neg (by decide +kernel)]; exact ⟨rfl, rfl⟩))
    (fun os started H enc _ => lifted os started H enc)
end commitSteps
theorem commitSteps_holds : Rows.CommitStepsSaid := commitSteps.over
end Go.Proofs.Ytlekmgjjjniomaa
