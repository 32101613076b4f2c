/- SumThree holds: for any three lists of bytes the law answers true and turns nothing that was there. Conditions: none beyond the form's own reach (a slice of bytes takes at most 2^47 - 4096 bytes). -/
import Derived.Test.YtmfpllogpjlkpaaEn
import Derived.Laws.Cover1
namespace Go.Proofs.Ytmfpllogpjlkpaa
open Go.RowKit
theorem map_add0 (ao : Option Addr) : Option.map (fun x => x.add 0) ao = ao := by cases ao <;> simp [Addr.add]
theorem min_run (la lb lc n : Nat) (h : n = min la (min lb lc)) (W : World) : (Builtin.min_ #[3, 3, 3] 3 #[.int .i64 (la : Int), .int .i64 (lb : Int), .int .i64 (lc : Int)]).run Try.prog W = .ok (.int .i64 (n : Int)) W := by
  rw [run_min_int3]
  congr 2
  split <;> split <;> omega
set_option maxRecDepth 100000 in
set_option maxHeartbeats 2000000 in
theorem three_zero (a b c : Option Addr) (la ca lb cb lc cc : Nat) (h0 : min la (min lb lc) = 0) (w : World) :
    Calls Try.prog 6 #[.slice a la ca, .slice b lb cb, .slice c lc cc] w fun e w' => e = .returned (.bool true) ∧ Mod (fun _ => False) w w' := by
  have ha := map_add0 a
  have hb := map_add0 b
  have hc := map_add0 c
  go_enter Try.func6, Try.ntmps6
  go_wp2_with fail
  refine (works_any _).mono ?_
  rintro e w0 ⟨rfl, hm⟩
  have hmin := min_run la lb lc 0 h0.symm
  have H0 : Hid (min la (min lb lc) = 0) := h0
  have hc0 : chk [] = 0 := rfl
  have HC : Hid (chk [] = 0) := hc0
  have hq0 : (0 : Int) ≤ (ca : Int) := by omega
  have hq1 : (0 : Int) ≤ (cb : Int) := by omega
  have hq2 : (0 : Int) ≤ (cc : Int) := by omega
  clear h0 hc0
  go_wp2
  go_loop [8, 9] (fun s i => s = .slice none 0 0 ∧ i = .int .i64 0) (fun _ _ => 0)
  case atStart => exact ⟨rfl, rfl⟩
  case round =>
    obtain ⟨rfl, rfl⟩ := hrel
    go_wp2
    replace hm := hm.drew
    go_region_held3 (fun _ => True) (trivial)
      ((go_at_call 10; refine (Of_zero _ _ _).mono ?_; rintro e w1 ⟨rfl, hm1⟩; replace hm := hm.and hm1; clear hm1))
    go_wp2
    go_ret
    exact ⟨rfl, hm⟩
theorem three_take {A B C : List Int} {k : Nat} (ha : k < A.length) (hb : k < B.length) (hc : k < C.length) {x y z : Nat} (hx : (x : Int) = A.getD k 0) (hy : (y : Int) = B.getD k 0) (hz : (z : Int) = C.getD k 0) :
    three (A.take (k + 1)) (B.take (k + 1)) (C.take (k + 1)) = three (A.take k) (B.take k) (C.take k) ++ [((x ^^^ y ^^^ z : Nat) : Int)] := by
  rw [List.take_succ_eq_append_getElem ha, List.take_succ_eq_append_getElem hb, List.take_succ_eq_append_getElem hc, three_snoc _ _ _ _ _ _ (by simp; omega) (by simp; omega)]
  have h1 : A[k].toNat = x := by simp [ha] at hx; omega
  have h2 : B[k].toNat = y := by simp [hb] at hy; omega
  have h3 : C[k].toNat = z := by simp [hc] at hz; omega
  rw [h1, h2, h3]
set_option maxRecDepth 100000 in
set_option maxHeartbeats 4000000 in
theorem three_some (ba oa ca bb ob cb bc oc cc : Nat) (A B C : List Int) (n : Nat) (w : World)
    (hA : Sl w (.slice (some ⟨ba, oa, none⟩) A.length ca) A) (hB : Sl w (.slice (some ⟨bb, ob, none⟩) B.length cb) B) (hC : Sl w (.slice (some ⟨bc, oc, none⟩) C.length cc) C)
    (hn : n = min A.length (min B.length C.length)) (h0 : 0 < n) (hb : n ≤ 140737488351232) :
    Calls Try.prog 6 #[.slice (some ⟨ba, oa, none⟩) A.length ca, .slice (some ⟨bb, ob, none⟩) B.length cb, .slice (some ⟨bc, oc, none⟩) C.length cc] w fun e w' => e = .returned (.bool true) ∧ Mod (fun _ => False) w w' := by
  obtain ⟨i0, hi, hz0, hz1, hz2⟩ := info_parts info5
  have hmin := min_run A.length B.length C.length n hn
  have hca : n ≤ ca ∧ n ≤ cb ∧ n ≤ cc := by
    obtain ⟨_, _, e1, h1, _⟩ := hA.form
    obtain ⟨_, _, e2, h2, _⟩ := hB.form
    obtain ⟨_, _, e3, h3, _⟩ := hC.form
    simp only [Value.slice.injEq, true_and] at e1 e2 e3
    omega
  have HL : Hid (n ≤ A.length ∧ n ≤ B.length ∧ n ≤ C.length) := ⟨by omega, by omega, by omega⟩
  have HA : Hid (Sl w (.slice (some ⟨ba, oa, none⟩) A.length ca) A) := hA
  have HB : Hid (Sl w (.slice (some ⟨bb, ob, none⟩) B.length cb) B) := hB
  have HC : Hid (Sl w (.slice (some ⟨bc, oc, none⟩) C.length cc) C) := hC
  have q1 : (0 : Int) ≤ (n : Int) := by omega
  have q2 : (n : Int) ≤ (ca : Int) := by omega
  have q3 : (n : Int) ≤ (cb : Int) := by omega
  have q4 : (n : Int) ≤ (cc : Int) := by omega
  have q5 : n ≤ ca := hca.1
  have q6 : n ≤ cb := hca.2.1
  have q7 : n ≤ cc := hca.2.2
  obtain ⟨LA, hLA⟩ : ∃ x, x = A.length := ⟨_, rfl⟩
  obtain ⟨LB, hLB⟩ : ∃ x, x = B.length := ⟨_, rfl⟩
  obtain ⟨LC, hLC⟩ : ∃ x, x = C.length := ⟨_, rfl⟩
  rw [← hLA, ← hLB, ← hLC] at hmin HL ⊢
  rw [← hLA] at HA
  rw [← hLB] at HB
  rw [← hLC] at HC
  have HLA : Hid (LA = A.length) := hLA
  have HLB : Hid (LB = B.length) := hLB
  have HLC : Hid (LC = C.length) := hLC
  have q8 : n ≤ LA := HL.out.1
  have q9 : n ≤ LB := HL.out.2.1
  have q10 : n ≤ LC := HL.out.2.2
  clear hca hn hA hB hC HL hLA hLB hLC
  go_enter Try.func6, Try.ntmps6
  go_wp2_with fail
  refine (works_any _).mono ?_
  rintro e w0 ⟨rfl, hm0⟩
  go_wp2
  go_loopw [8, 9] (fun s i wr => ∃ (k : Nat) (xs : List Int), i = .int .i64 (k : Int) ∧ k ≤ n ∧ Hid (xs = three (A.take k) (B.take k) (C.take k)) ∧ xs.length = k ∧ Own wr s xs ∧ Mod (fun _ => False) w wr ∧ (∀ g, s.ownBlock = some g → w.heap.size ≤ g)) (fun _ i _ => n - (intOf i).toNat)
  case atStart => exact ⟨0, [], rfl, by omega, (show _ = _ from rfl), rfl, Own.nil _, hm0, by intro g hg; simp [Value.ownBlock] at hg⟩
  case round =>
    obtain ⟨k, xs, rfl, hk, hxs, hxl, hown, hm, hv⟩ := hrel
    clear hm0
    by_cases hlt : k < n
    · have hcells : ∀ W, Mod (fun _ => False) w W → W.cell? ⟨ba, oa + k, none⟩ = some (.int .u8 (A.getD k 0)) ∧ W.cell? ⟨bb, ob + k, none⟩ = some (.int .u8 (B.getD k 0)) ∧ W.cell? ⟨bc, oc + k, none⟩ = some (.int .u8 (C.getD k 0)) := fun W hW => by
        obtain ⟨_, _, e1, _, _, _, h1⟩ := (HA.out.mod hW (fun _ _ h => h)).form
        obtain ⟨_, _, e2, _, _, _, h2⟩ := (HB.out.mod hW (fun _ _ h => h)).form
        obtain ⟨_, _, e3, _, _, _, h3⟩ := (HC.out.mod hW (fun _ _ h => h)).form
        have l1 := HLA.out; have l2 := HLB.out; have l3 := HLC.out
        obtain ⟨_, _, f1, c1⟩ := h1 (by intro e; rw [e] at l1; simp at l1; omega)
        obtain ⟨_, _, f2, c2⟩ := h2 (by intro e; rw [e] at l2; simp at l2; omega)
        obtain ⟨_, _, f3, c3⟩ := h3 (by intro e; rw [e] at l3; simp at l3; omega)
        cases e1; cases e2; cases e3; cases f1; cases f2; cases f3
        exact ⟨c1 k (by omega), c2 k (by omega), c3 k (by omega)⟩
      have ra := HA.out.rng (A.getD k 0) (by have := HLA.out; simp [show k < A.length by omega])
      have rb := HB.out.rng (B.getD k 0) (by have := HLB.out; simp [show k < B.length by omega])
      have rc := HC.out.rng (C.getD k 0) (by have := HLC.out; simp [show k < C.length by omega])
      obtain ⟨x, hx⟩ : ∃ c : Nat, (c : Int) = A.getD k 0 := ⟨(A.getD k 0).toNat, by omega⟩
      obtain ⟨y, hy⟩ : ∃ c : Nat, (c : Int) = B.getD k 0 := ⟨(B.getD k 0).toNat, by omega⟩
      obtain ⟨z, hz⟩ : ∃ c : Nat, (c : Int) = C.getD k 0 := ⟨(C.getD k 0).toNat, by omega⟩
      have ht := three_take (by have := HLA.out; omega) (by have := HLB.out; omega) (by have := HLC.out; omega) hx hy hz
      rw [← hx, ← hy, ← hz] at hcells
      rw [← hx] at ra
      rw [← hy] at rb
      rw [← hz] at rc
      clear hx hy hz
      have b1 := u8_xor_nat x y (by omega) (by omega)
      have b2 := u8_xor_nat (x ^^^ y) z (xor_lt8 (by omega) (by omega)) (by omega)
      have b3 : x ^^^ y ^^^ z < 256 := xor_lt8 (xor_lt8 (by omega) (by omega)) (by omega)
      obtain ⟨xy, hxy⟩ : ∃ xy, xy = x ^^^ y := ⟨_, rfl⟩
      obtain ⟨c, hc⟩ : ∃ c, c = x ^^^ y ^^^ z := ⟨_, rfl⟩
      rw [← hc, ← hxy] at b2
      rw [← hxy] at b1
      rw [← hc] at b3 ht
      have HX : Hid (xs ++ [(c : Int)] = three (A.take (k + 1)) (B.take (k + 1)) (C.take (k + 1))) := by show _ = _; rw [ht, hxs.out]
      clear ht hxs hc hxy ra rb rc
      have HCL : Hid (∀ W, Mod (fun _ => False) w W → W.cell? ⟨ba, oa + k, none⟩ = some (.int .u8 (x : Int)) ∧ W.cell? ⟨bb, ob + k, none⟩ = some (.int .u8 (y : Int)) ∧ W.cell? ⟨bc, oc + k, none⟩ = some (.int .u8 (z : Int))) := hcells
      replace hm := hm.drew
      replace hown : Own wr.drew u8 xs := hown.mod ((Mod.refl (fun _ => False) wr).drew) (fun _ _ h => h)
      obtain ⟨c1, c2, c3⟩ := hcells wr.drew hm
      have d1 := (hcells wr (by exact ⟨hm.os, hm.tape, hm.output, hm.size, hm.block⟩))
      clear hcells
      have r1 : (k : Int) < (LA : Int) := by omega
      have r2 : (k : Int) < (LB : Int) := by omega
      have r3 : (k : Int) < (LC : Int) := by omega
      have r0 : (0 : Int) ≤ (k : Int) := by omega
      have r4 : k < LA := by omega
      have r5 : k < LB := by omega
      have r6 : k < LC := by omega
      have HXL : Hid (xs.length = k) := hxl
      clear hxl
      go_wp2
      go_region_held3 (fun u => u.cell? ⟨ba, oa + k, none⟩ = some (.int .u8 (x : Int)) ∧ u.cell? ⟨bb, ob + k, none⟩ = some (.int .u8 (y : Int)) ∧ u.cell? ⟨bc, oc + k, none⟩ = some (.int .u8 (z : Int))) (first | go_keep | exact ⟨c1, c2, c3⟩)
        ((refine step_append_lies _ (by rfl) _ _ 22 (by rfl) 0 5 i0 (.int .u8 0) 1 1 Try.underlying22 hi hz0 hz1 hz2 rfl (by decide) u8 xs.length (U xs) (by rfl) (hown.alloc _) ⟨wr.heap.size, 0, none⟩ 1 1 [.int .u8 (c : Int)] (by rfl) rfl (by exact app1 _ _ _) (U_one [(c : Int)]) (by omega) (by have := HXL.out; simp only [maxLen]; omega) (by have := HXL.out; omega) (Nat.zero_le _) (wr.heap.size + 1) (by simp) ?_; intro g cap1 w3 hown1 hgrow hg hlt3; have R := Own.byte hm hv hown1 hgrow hg; obtain ⟨c1, c2, c3⟩ := HCL.out _ R.2.1))
      clear c1 c2 c3 d1 HCL hown hown1 hgrow
      go_wp2
      go_roundw
      case rel => exact ⟨k + 1, xs ++ [(c : Int)], by go_num, by omega, HX, by have := HXL.out; simp; omega, R.1, R.2.1, R.2.2⟩
      case measure => simp [intOf]; omega
    · obtain rfl : k = n := by omega
      have l1 : k ≤ A.length := by have := HLA.out; omega
      have l2 : k ≤ B.length := by have := HLB.out; omega
      have l3 : k ≤ C.length := by have := HLC.out; omega
      have sa := (HLA.out ▸ HA.out : Sl w (.slice (some ⟨ba, oa, none⟩) A.length ca) A).take k l1
      have sb := (HLB.out ▸ HB.out : Sl w (.slice (some ⟨bb, ob, none⟩) B.length cb) B).take k l2
      have sc := (HLC.out ▸ HC.out : Sl w (.slice (some ⟨bc, oc, none⟩) C.length cc) C).take k l3
      have hxr : ∀ c ∈ xs, 0 ≤ c ∧ c ≤ 255 := by rw [hxs.out]; exact three_rng _ _ _ sa.rng sb.rng sc.rng
      have hch := chk_three (a := A.take k) (b := B.take k) (c := C.take k) (by simp; omega) (by simp; omega) sa.rng sb.rng sc.rng
      rw [← hxs.out] at hch
      have pa := chk_lt (A.take k)
      have pb := chk_lt (B.take k)
      have pc := chk_lt (C.take k)
      have OA : Hid (∀ W, Mod (fun _ => False) w W → Calls Try.prog 10 #[.slice (some ⟨ba, oa, none⟩) k ca] W fun e w' => e = .returned (.int .u32 (chk (A.take k) : Nat)) ∧ Mod (fun _ => False) W w') := fun W hW => Of_any _ _ W (sa.mod hW (fun _ _ h => h))
      have OB : Hid (∀ W, Mod (fun _ => False) w W → Calls Try.prog 10 #[.slice (some ⟨bb, ob, none⟩) k cb] W fun e w' => e = .returned (.int .u32 (chk (B.take k) : Nat)) ∧ Mod (fun _ => False) W w') := fun W hW => Of_any _ _ W (sb.mod hW (fun _ _ h => h))
      have OC : Hid (∀ W, Mod (fun _ => False) w W → Calls Try.prog 10 #[.slice (some ⟨bc, oc, none⟩) k cc] W fun e w' => e = .returned (.int .u32 (chk (C.take k) : Nat)) ∧ Mod (fun _ => False) W w') := fun W hW => Of_any _ _ W (sc.mod hW (fun _ _ h => h))
      have OX : Hid (∀ W, Mod (fun _ => False) wr.drew W → Calls Try.prog 10 #[u8] W fun e w' => e = .returned (.int .u32 (chk xs : Nat)) ∧ Mod (fun _ => False) W w') := fun W hW => Of_any _ _ W ((hown.sl hxr).mod (((Mod.refl (fun _ => False) wr).drew).and hW) (fun _ _ h => h))
      clear sa sb sc hxr hxs hxl hown l1 l2 l3 HA HB HC HLA HLB HLC
      generalize chk (A.take k) = PA at hch pa OA
      generalize chk (B.take k) = PB at hch pb OB
      generalize chk (C.take k) = PC at hch pc OC
      generalize chk xs = PX at hch OX
      have b1 := u32_xor_nat PA PB pa pb
      have b2 := u32_xor_nat (PA ^^^ PB) PC (xor_lt pa pb) pc
      rw [hch] at b2
      obtain ⟨PQ, hPQ⟩ : ∃ q, q = PA ^^^ PB := ⟨_, rfl⟩
      rw [← hPQ] at b1 b2
      clear hch hPQ pa pb pc
      replace hm := hm.drew
      have hm0 := Mod.refl (fun _ => False) wr.drew
      go_wp2
      go_region_held3 (fun _ => True) (trivial)
        ((go_at_call 10; first
          | (have hq := hmC; refine (OX.out _ hmC).mono ?_; rintro e wx ⟨rfl, hmX⟩; replace hmX := hmC.and hmX)
          | (have hq := hmB; refine (OC.out _ (hm.and hmB)).mono ?_; rintro e wc ⟨rfl, hmC⟩; replace hmC := hmB.and hmC)
          | (have hq := hmA; refine (OB.out _ (hm.and hmA)).mono ?_; rintro e wb ⟨rfl, hmB⟩; replace hmB := hmA.and hmB)
          | (refine (OA.out _ hm).mono ?_; rintro e wa ⟨rfl, hmA⟩)))
      go_wp2
      go_ret
      exact ⟨by simp, hm.and hmX⟩
theorem three_walk (u v x : Value) (A B C : List Int) (w : World) (hA : Sl w u A) (hB : Sl w v B) (hC : Sl w x C) (hb : A.length ≤ 140737488351232) :
    Calls Try.prog 6 #[u, v, x] w fun e w' => e = .returned (.bool true) ∧ Mod (fun _ => False) w w' := by
  obtain ⟨a, ca, rfl, _, _, _, h1⟩ := hA.form
  obtain ⟨b, cb, rfl, _, _, _, h2⟩ := hB.form
  obtain ⟨c, cc, rfl, _, _, _, h3⟩ := hC.form
  by_cases h0 : min A.length (min B.length C.length) = 0
  · exact three_zero a b c _ _ _ _ _ _ h0 w
  · obtain ⟨ba, oa, rfl, _⟩ := h1 (by rintro rfl; simp at h0)
    obtain ⟨bb, ob, rfl, _⟩ := h2 (by rintro rfl; simp at h0)
    obtain ⟨bc, oc, rfl, _⟩ := h3 (by rintro rfl; simp at h0)
    exact three_some ba oa ca bb ob cb bc oc cc A B C _ w hA hB hC rfl (by omega) (by omega)

namespace sumThree
open Go.ChangeShapes Go.WideShapes Go.ChangeAt Go.RowKit
set_option maxRecDepth 100000 in
theorem lifted (os : Os) (started : os.Started) (H : Type) (enc : TypeId × Value → H) :
    ReturnsInHanded {} Try.checked os 6 .any (Rows.sumThreeSpec.pre6 enc Try.prog Try.f6 Rows.sumThreeRow.domain false) (Rows.sumThreeSpec.post enc Try.prog Try.f6 false true false false) := by
  refine returnsInHanded_of_change_sized (C := Try.checked) own started (by kernel_rfl) Try.func6
    (ChangeSpec.witness6 (enc := enc) (C := Try.checked) false ⟨#[], #[.slice none 0 0, .slice none 0 0, .slice none 0 0], []⟩ 8 (by kernel_rfl) (by kernel_rfl) (by kernel_rfl) (by kernel_rfl)) ?_
  intro W base args ds gs before hval0 hW hcnd hsz0 _
  have hval : ∀ (j : Nat) t v, Try.f6.params[j]? = some t → args[j]? = some v → Value.okWide Try.prog W .any base t v := hval0
  have hsz : (DataW.weightsEach Try.prog (Try.f6.params.toList ++ Rows.sumThreeSpec.plain.varTypes Try.prog) (ds ++ gs)).all (· ≤ reachBytes) = true := hsz0
  have hW' := hW
  obtain ⟨p, q, hA0, hV, rfl, hfz, hnd⟩ := hW
  have hA : DataW.TrodAll enc Try.prog W 0 (fun _ => true) true Try.f6.params.toList args.toList ds p := hA0
  rw [Try.params6] at hA hval hsz
  obtain ⟨v0, vs0, d0, ds0, p0, q0, hargs, rfl, rfl, h0, r0⟩ := trodAll_cons hA
  obtain ⟨v1, vs1, d1, ds1, p1, q1, rfl, rfl, rfl, h1, r1⟩ := trodAll_cons r0
  obtain ⟨v2, vs2, d2, ds2, p2, q2, rfl, rfl, rfl, h2, r2⟩ := trodAll_cons r1
  obtain ⟨rfl, rfl, rfl⟩ := trodAll_nil r2
  obtain rfl : args = #[v0, v1, v2] := by cases args; simp_all
  obtain ⟨rfl, rfl⟩ := trodVars_none hV
  have hs0 := okWide_slice Try.underlying22 (hval 0 22 v0 rfl rfl)
  have k0 := h0
  have lt0 : ∀ x ∈ p0, x.block < W.heap.size := by obtain ⟨m, hm⟩ := k0; exact DataW.trod_lt m _ _ _ hm
  obtain ⟨B0, hB0, hBl0⟩ : ∃ B, Sl W v0 B ∧ B.length ≤ 140737488351232 := by
    obtain ⟨ao, len, cap, rfl⟩ := hs0
    obtain ⟨fuel, hf⟩ := h0
    obtain ⟨B, hB, hbulk, hx⟩ := sl_of_trod (c := .slice ao len cap) (by simpa [Value.cells] using hf)
    refine ⟨B, hB, ?_⟩
    simp only at hbulk hx
    rcases hx with rfl | ⟨e, s, rfl, hlen⟩
    · simp [Rows.uptoBulk] at hbulk; simp [hbulk]
    · have := sized_slice hsz (j := 0) (t := 22) (e := 5) rfl rfl Try.underlying22
      rw [bytes5] at this
      simp only [reachBytes] at this
      omega
  have hs1 := okWide_slice Try.underlying22 (hval 1 22 v1 rfl rfl)
  have k1 := h1
  have lt1 : ∀ x ∈ p1, x.block < W.heap.size := by obtain ⟨m, hm⟩ := k1; exact DataW.trod_lt m _ _ _ hm
  obtain ⟨B1, hB1, hBl1⟩ : ∃ B, Sl W v1 B ∧ B.length ≤ 140737488351232 := by
    obtain ⟨ao, len, cap, rfl⟩ := hs1
    obtain ⟨fuel, hf⟩ := h1
    obtain ⟨B, hB, hbulk, hx⟩ := sl_of_trod (c := .slice ao len cap) (by simpa [Value.cells] using hf)
    refine ⟨B, hB, ?_⟩
    simp only at hbulk hx
    rcases hx with rfl | ⟨e, s, rfl, hlen⟩
    · simp [Rows.uptoBulk] at hbulk; simp [hbulk]
    · have := sized_slice hsz (j := 1) (t := 22) (e := 5) rfl rfl Try.underlying22
      rw [bytes5] at this
      simp only [reachBytes] at this
      omega
  have hs2 := okWide_slice Try.underlying22 (hval 2 22 v2 rfl rfl)
  have k2 := h2
  have lt2 : ∀ x ∈ p2, x.block < W.heap.size := by obtain ⟨m, hm⟩ := k2; exact DataW.trod_lt m _ _ _ hm
  obtain ⟨B2, hB2, hBl2⟩ : ∃ B, Sl W v2 B ∧ B.length ≤ 140737488351232 := by
    obtain ⟨ao, len, cap, rfl⟩ := hs2
    obtain ⟨fuel, hf⟩ := h2
    obtain ⟨B, hB, hbulk, hx⟩ := sl_of_trod (c := .slice ao len cap) (by simpa [Value.cells] using hf)
    refine ⟨B, hB, ?_⟩
    simp only at hbulk hx
    rcases hx with rfl | ⟨e, s, rfl, hlen⟩
    · simp [Rows.uptoBulk] at hbulk; simp [hbulk]
    · have := sized_slice hsz (j := 2) (t := 22) (e := 5) rfl rfl Try.underlying22
      rw [bytes5] at this
      simp only [reachBytes] at this
      omega
  clear hA0 hval0
  refine (three_walk v0 v1 v2 B0 B1 B2 W hB0 hB1 hB2 hBl0).mono fun e W' ⟨he, hm⟩ => ?_
  subst he
  have bel : Below W.heap.size W W' := hm.below _ (Nat.le_refl _) (fun _ h => h.elim)
  exact ⟨_, rfl, _, _, _, [], _, [], hW', trodAll_mk1 (shut_bool Try.underlying4 _), (trodAll_cons_mk (Below.trod laidOut (by kernel_rfl) (of_decide_eq_true (by kernel_rfl)) k0 bel lt0) (trodAll_cons_mk (Below.trod laidOut (by kernel_rfl) (of_decide_eq_true (by kernel_rfl)) k1 bel lt1) (trodAll_cons_mk (Below.trod laidOut (by kernel_rfl) (of_decide_eq_true (by kernel_rfl)) k2 bel lt2) trodAll_mk0))), rfl, bel.frame _, fun h => by cases h⟩

theorem over : Rows.sumThreeRow.holds Try.pinned (OpenSpec.ofChange Rows.sumThreeSpec) :=
  OpenClaim.holds_of_wide 6 Try.f6 rfl rfl rfl rfl rfl rfl rfl ⟨rfl, rfl, rfl, rfl, rfl⟩ rfl rfl rfl rfl rfl (by kernel_rfl) Try.func6 (by kernel_rfl)
    (of_decide_eq_true (by kernel_rfl)) (by unfold Func.isWrapper; first | (rw [if_pos (by decide +kernel)]; kernel_rfl) | (rw [if_neg (by decide +kernel)]; exact ⟨rfl, rfl⟩))
    (fun os started H enc _ => lifted os started H enc)
end sumThree
theorem sumThree_holds : Rows.SumThreeSaid := sumThree.over
end Go.Proofs.Ytmfpllogpjlkpaa
