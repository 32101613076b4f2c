/- TokenAsks: what a token asks for is what it asked for, and what the node lacks; what is answered is asked for no longer; of every token, gaps and answers, as the statement says it. No conditions. -/
import Derived.Test.YtbjkncfpddhpkaaAs
namespace Go.Proofs.Ytbjkncfpddhpkaa
open Go.RowKit
theorem bytes3i : Try.prog.bytesOf 3 = 8 := by kernel_rfl
open Go.ChangeShapes Go.WideShapes Go.ChangeAt in
/-- A slice of ints that came in, and its length: out of its weight. -/
theorem open_lw {H : Type} {enc : TypeId × Value → H} {W : World} {v : Value} {d : DataW H} {p : List MemPlace} (h : DataW.Trod enc Try.prog W 0 (fun _ => true) true 24 v d p) (hv : ∃ ao len cap, v = .slice ao len cap) (hw : ∀ n ∈ d.weights Try.prog 24, n ≤ reachBytes) : ∃ l, Si W v l ∧ l.length ≤ 17592186044416 := by
  obtain ⟨l, hl⟩ := open_l h hv
  refine ⟨l, hl, ?_⟩
  obtain ⟨ao, cap, rfl, _⟩ := hl.form
  obtain ⟨fuel, hf⟩ := h
  rcases open_ints Try.underlying24 Try.underlying3 cellsInt hf with ⟨hcs, _⟩ | ⟨a, len, cap', zs, hcs, _, hlc, _, hz, hx, _⟩
  · simp [Value.cells] at hcs
    simp [hcs.2.1]
  · simp [Value.cells] at hcs
    obtain ⟨rfl, e, rfl⟩ := hcs
    simp only [if_true] at hz
    have hd : d = .slice (lits .i64 (zs.take len)) (lits .i64 (zs.drop len)) := congrArg Prod.fst hx
    subst hd
    have := hw (((lits (H := H) .i64 (zs.take len)).length + (lits (H := H) .i64 (zs.drop len)).length) * Try.prog.bytesOf 3) (by simp [DataW.weights, Try.underlying24])
    rw [bytes3i] at this
    have hL : (lits (H := H) .i64 (zs.take len)).length = len := by simp [lits]; omega
    rw [hL] at this
    simp only [reachBytes] at this
    omega
set_option maxRecDepth 100000 in
set_option maxHeartbeats 40000000 in
theorem asks_walk (rs rr hp sq ar lw st ix : Int) (ao : Option Addr) (cap : Nat) (l : List Int) (gv : Value) (G : List Int) (hv : Value) (H : List Int) (w : World) (hs : Si w (.slice ao l.length cap) l) (hG : Si w gv G) (hH : Si w hv H) (hGl : G.length ≤ 17592186044416) (hHl : H.length ≤ 17592186044416) :
    Calls Try.prog 6 #[.agg #[.int .i64 rs, .int .i64 rr, .int .i64 hp, .int .i64 sq, .int .i64 ar, .int .i64 lw, .int .i64 st, .int .i64 ix, .slice ao l.length cap], gv, hv] w fun e w' => e = .returned (.bool true) ∧ Mod (fun _ => False) w w' := by
  have HS : Hid (Si w (.slice ao l.length cap) l) := hs
  have HG : Hid (Si w gv G) := hG
  have HH : Hid (Si w hv H) := hH
  have HLN : Hid (G.length ≤ 17592186044416 ∧ H.length ≤ 17592186044416) := ⟨hGl, hHl⟩
  obtain ⟨ga, gc, rfl, _⟩ := hG.form
  obtain ⟨ha, hc, rfl, _⟩ := hH.form
  have HB0 : Hid (Bk _ _ _ _) := Bk.new w #[.int .i64 rs, .int .i64 rr, .int .i64 hp, .int .i64 sq, .int .i64 ar, .int .i64 lw, .int .i64 st, .int .i64 ix, .slice ao l.length cap] 26
  have HA0 : Hid (Mod (fun _ => False) w _) := (Mod.refl (fun _ => False) w).alloc (.cells #[.int .i64 rs, .int .i64 rr, .int .i64 hp, .int .i64 sq, .int .i64 ar, .int .i64 lw, .int .i64 st, .int .i64 ix, .slice ao l.length cap] 26)
  clear hs hG hH hGl hHl
  go_enter Try.func6, Try.ntmps6
  go_wp2_with (fail)
  refine (awake_any _).mono ?_
  rintro e w1 ⟨rfl, hm1⟩
  have HB1 : Hid (Bk w1 w.heap.size 26 #[.int .i64 rs, .int .i64 rr, .int .i64 hp, .int .i64 sq, .int .i64 ar, .int .i64 lw, .int .i64 st, .int .i64 ix, .slice ao l.length cap]) := HB0.out.mod hm1 (fun h => h)
  have HM1 : Hid (Mod (fun _ => False) w w1) := HA0.out.and hm1
  obtain ⟨bt, hbt⟩ : ∃ bt, bt = w.heap.size := ⟨_, rfl⟩
  rw [← hbt] at HB1 ⊢
  clear hm1 HB0 HA0 hbt
  have c2 := HB1.out.cellv (j := 2) rfl
  go_wp2_with (refine wpList_load_row infoT Try.underlying26 rfl rfl _ rfl bt rfl HB1.out rfl ?_; simp only [Act.put, List.setIfInBounds_toArray, List.set_cons_succ, List.set_cons_zero])
  refine (tCheck rs rr hp sq ar lw st ix ao cap l w1 (HS.out.sl.mod HM1.out fun _ _ h => h) HS.out.rng).mono ?_
  rintro e w2 ⟨rfl, hm2⟩
  have HM2 : Hid (Mod (fun _ => False) w w2) := HM1.out.and hm2
  by_cases hok : okT ⟨rs, rr, hp, sq, ar, lw, st, ix, l⟩ = true
  · have e0 : ckT ⟨rs, rr, hp, sq, ar, lw, st, ix, l⟩ = 0 := by rw [ckT, if_pos hok]
    rw [e0]
    have HOK : Hid (okT ⟨rs, rr, hp, sq, ar, lw, st, ix, l⟩ = true) := hok
    have HB2 : Hid (Bk w2 bt 26 #[.int .i64 rs, .int .i64 rr, .int .i64 hp, .int .i64 sq, .int .i64 ar, .int .i64 lw, .int .i64 st, .int .i64 ix, .slice ao l.length cap]) := HB1.out.mod hm2 (fun h => h)
    clear e0 hok HB1 HM1 c2 hm2
    have c2 := HB2.out.cellv (j := 2) rfl
    by_cases hfar : hp = 9007199254740991
    · have hfb : (hp == 9007199254740991) = true := by simp [hfar]
      clear hfar
      go_wp2_with (fail)
      go_ret
      exact ⟨rfl, HM2.out⟩
    · have hfb : (hp == 9007199254740991) = false := by simp [hfar]
      have HFA : Hid (hp ≠ 9007199254740991) := hfar
      clear hfar
      have HV := visit_ok rs rr hp sq ar lw st ix 1 0 ao cap l (.slice ga G.length gc) G w2 (HS.out.sl.mod HM2.out fun _ _ h => h) (HG.out.sl.mod HM2.out fun _ _ h => h) HOK.out HFA.out (by decide) (by decide)
      obtain ⟨q1, q2, q3, q4⟩ := lsk_ok (G := G) (okT_visit (n := 1) (a := 0) HOK.out HFA.out (by decide) (by decide))
      have HKEEP : Hid (∀ z, (lsk sq l G).length < 16 → z ∈ G → win z 1 sq = true → z ∈ lsk sq l G) := fun z h1 h2 h3 => lsk_keep sq G l z (okT_ask HOK.out).1 h1 (.inr ⟨h2, h3⟩)
      have HMEM : Hid (∀ z, z ∈ lsk sq l G → z ∈ l ∨ z ∈ G) := fun z hz => (lsk_mem sq G l z hz).imp id (fun h => h.1)
      have HGE : Hid (l.length ≤ (lsk sq l G).length) := lsk_ge sq G l (okT_ask HOK.out).1
      dsimp only [vT] at q1 q2 q3 q4
      obtain ⟨A1, eA1⟩ : ∃ A1, A1 = vA 0 1 sq ar lw := ⟨_, rfl⟩
      obtain ⟨L1, eL1⟩ : ∃ L1, L1 = vL 0 1 sq ar lw := ⟨_, rfl⟩
      rw [← eA1, ← eL1] at HV q1
      generalize lsk sq l G = A at *
      have HAOK : Hid (okT ⟨rs, rr, hp + 1, sq, A1, L1, st, ix, A⟩ = true ∧ A.length ≤ 16) := ⟨q1, q2⟩
      clear q1 q2 q3 q4 eA1 eL1
      go_wp2_with (refine wpList_load_row infoT Try.underlying26 rfl rfl _ rfl bt rfl HB2.out rfl ?_; simp only [Act.put, List.setIfInBounds_toArray, List.set_cons_succ, List.set_cons_zero])
      refine HV.mono ?_
      rintro e w3 ⟨a5, c5, rfl, hA3, hm3, -⟩
      have hZ3 := Bk.new w3 #[.int .i64 0, .int .i64 0, .int .i64 0, .int .i64 0, .int .i64 0, .int .i64 0, .int .i64 0, .int .i64 0, .slice none 0 0] 26
      have hz3 := (Mod.refl (fun _ => False) w3).alloc (.cells #[.int .i64 0, .int .i64 0, .int .i64 0, .int .i64 0, .int .i64 0, .int .i64 0, .int .i64 0, .int .i64 0, .slice none 0 0] 26)
      clear HV
      go_upto_region 6 with (refine wpList_store_row infoT rfl rfl _ _ rfl w3.heap.size #[.int .i64 rs, .int .i64 rr, .int .i64 (hp + 1), .int .i64 sq, .int .i64 A1, .int .i64 L1, .int .i64 st, .int .i64 ix, .slice a5 A.length c5] rfl rfl hZ3 rfl rfl rfl ?_; intro w4 hB4 hM4)
      have hm4 := hz3.trans hM4 (V := fun _ => False) (fun _ _ h => h) (fun i hi h => by omega)
      have HM4 : Hid (Mod (fun _ => False) w w4) := (HM2.out.and hm3).and hm4
      have HT4 : Hid (Bk w4 bt 26 #[.int .i64 rs, .int .i64 rr, .int .i64 hp, .int .i64 sq, .int .i64 ar, .int .i64 lw, .int .i64 st, .int .i64 ix, .slice ao l.length cap]) := (HB2.out.mod hm3 (fun h => h)).mod hm4 (fun h => h)
      have HA4 : Hid (Aw w4 (.slice a5 A.length c5) A) := hA3.mod hm4 (fun _ _ h => h)
      obtain ⟨ba, eba⟩ : ∃ ba, ba = w3.heap.size := ⟨_, rfl⟩
      rw [← eba] at hB4 ⊢
      have HBA4 : Hid (Bk w4 ba 26 #[.int .i64 rs, .int .i64 rr, .int .i64 (hp + 1), .int .i64 sq, .int .i64 A1, .int .i64 L1, .int .i64 st, .int .i64 ix, .slice a5 A.length c5]) := hB4
      clear hB4 hM4 hZ3 hz3 hm3 hm4 hA3 HM2 HB2 c2 eba hfb
      have HAN := answer_any rs rr (hp + 1) sq A1 L1 st ix a5 c5 A (.slice ha H.length hc) H w4 HA4.out.sl HAOK.out.2 (HH.out.sl.mod HM4.out fun _ _ h => h) HLN.out.2
      have HFH : Hid (∀ x, x ∈ A → (A.filter fun x => !H.contains x).contains x = !H.contains x) := fun x hx => fil_has A H hx
      have HFOK : Hid (okT ⟨rs, rr, hp + 1, sq, A1, L1, st, ix, A.filter fun x => !H.contains x⟩ = true) := fil_ok _ HAOK.out.1
      generalize (A.filter fun x => !H.contains x) = F at *
      go_wp2_with (refine wpList_load_row infoT Try.underlying26 rfl rfl _ rfl ba rfl HBA4.out rfl ?_; simp only [Act.put, List.setIfInBounds_toArray, List.set_cons_succ, List.set_cons_zero])
      refine HAN.mono ?_
      rintro e w5 ⟨a6, c6, rfl, hA5, hm5⟩
      have hZ5 := Bk.new w5 #[.int .i64 0, .int .i64 0, .int .i64 0, .int .i64 0, .int .i64 0, .int .i64 0, .int .i64 0, .int .i64 0, .slice none 0 0] 26
      have hz5 := (Mod.refl (fun _ => False) w5).alloc (.cells #[.int .i64 0, .int .i64 0, .int .i64 0, .int .i64 0, .int .i64 0, .int .i64 0, .int .i64 0, .int .i64 0, .slice none 0 0] 26)
      clear HAN
      go_upto_region 7 with (refine wpList_store_row infoT rfl rfl _ _ rfl w5.heap.size #[.int .i64 rs, .int .i64 rr, .int .i64 (hp + 1), .int .i64 sq, .int .i64 A1, .int .i64 L1, .int .i64 st, .int .i64 ix, .slice a6 F.length c6] rfl rfl hZ5 rfl rfl rfl ?_; intro w6 hB6 hM6)
      have hm6 := hz5.trans hM6 (V := fun _ => False) (fun _ _ h => h) (fun i hi h => by omega)
      have hm56 := hm5.and hm6
      have HM6 : Hid (Mod (fun _ => False) w w6) := HM4.out.and hm56
      have HT6 : Hid (Bk w6 bt 26 #[.int .i64 rs, .int .i64 rr, .int .i64 hp, .int .i64 sq, .int .i64 ar, .int .i64 lw, .int .i64 st, .int .i64 ix, .slice ao l.length cap]) := HT4.out.mod hm56 (fun h => h)
      have HBA6 : Hid (Bk w6 ba 26 #[.int .i64 rs, .int .i64 rr, .int .i64 (hp + 1), .int .i64 sq, .int .i64 A1, .int .i64 L1, .int .i64 st, .int .i64 ix, .slice a5 A.length c5]) := HBA4.out.mod hm56 (fun h => h)
      have HA6 : Hid (Aw w6 (.slice a5 A.length c5) A) := HA4.out.mod hm56 (fun _ _ h => h)
      have HF6 : Hid (Aw w6 (.slice a6 F.length c6) F) := hA5.mod hm6 (fun _ _ h => h)
      obtain ⟨bb, ebb⟩ : ∃ bb, bb = w5.heap.size := ⟨_, rfl⟩
      rw [← ebb] at hB6 ⊢
      have HBB6 : Hid (Bk w6 bb 26 #[.int .i64 rs, .int .i64 rr, .int .i64 (hp + 1), .int .i64 sq, .int .i64 A1, .int .i64 L1, .int .i64 st, .int .i64 ix, .slice a6 F.length c6]) := hB6
      clear hB6 hM6 hZ5 hz5 hm5 hm6 hm56 hA5 HM4 HT4 HBA4 HA4 ebb
      have HIA : Hid (∀ x ∈ A, I64 x) := fun x hx => by have := (okT_ask HAOK.out.1).2.2.1 x hx; have := (okT_ask HAOK.out.1).2.2.2; unfold I64; omega
      have HIF : Hid (∀ x ∈ F, I64 x) := fun x hx => by have := (okT_ask HFOK.out).2.2.1 x hx; have := (okT_ask HFOK.out).2.2.2; unfold I64; omega
      have HC1 := tCheck rs rr (hp + 1) sq A1 L1 st ix a5 c5 A w6 HA6.out.sl HIA.out
      rw [show ckT ⟨rs, rr, hp + 1, sq, A1, L1, st, ix, A⟩ = 0 by rw [ckT, if_pos HAOK.out.1]] at HC1
      go_wp2_with (refine wpList_load_row infoT Try.underlying26 rfl rfl _ rfl ba rfl HBA6.out rfl ?_; simp only [Act.put, List.setIfInBounds_toArray, List.set_cons_succ, List.set_cons_zero])
      refine HC1.mono ?_
      rintro e w7 ⟨rfl, hm7⟩
      have HM7 : Hid (Mod (fun _ => False) w w7) := HM6.out.and hm7
      have HT7 : Hid (Bk w7 bt 26 #[.int .i64 rs, .int .i64 rr, .int .i64 hp, .int .i64 sq, .int .i64 ar, .int .i64 lw, .int .i64 st, .int .i64 ix, .slice ao l.length cap]) := HT6.out.mod hm7 (fun h => h)
      have HBA7 : Hid (Bk w7 ba 26 #[.int .i64 rs, .int .i64 rr, .int .i64 (hp + 1), .int .i64 sq, .int .i64 A1, .int .i64 L1, .int .i64 st, .int .i64 ix, .slice a5 A.length c5]) := HBA6.out.mod hm7 (fun h => h)
      have HBB7 : Hid (Bk w7 bb 26 #[.int .i64 rs, .int .i64 rr, .int .i64 (hp + 1), .int .i64 sq, .int .i64 A1, .int .i64 L1, .int .i64 st, .int .i64 ix, .slice a6 F.length c6]) := HBB6.out.mod hm7 (fun h => h)
      have HA7 : Hid (Aw w7 (.slice a5 A.length c5) A) := HA6.out.mod hm7 (fun _ _ h => h)
      have HF7 : Hid (Aw w7 (.slice a6 F.length c6) F) := HF6.out.mod hm7 (fun _ _ h => h)
      clear HC1 hm7 HM6 HT6 HBA6 HBB6 HA6 HF6
      have HC2 := tCheck rs rr (hp + 1) sq A1 L1 st ix a6 c6 F w7 HF7.out.sl HIF.out
      rw [show ckT ⟨rs, rr, hp + 1, sq, A1, L1, st, ix, F⟩ = 0 by rw [ckT, if_pos HFOK.out]] at HC2
      have b0 := HBB7.out.cellv (j := 0) rfl
      have b1 := HBB7.out.cellv (j := 1) rfl
      have b2 := HBB7.out.cellv (j := 2) rfl
      have b3 := HBB7.out.cellv (j := 3) rfl
      have b4 := HBB7.out.cellv (j := 4) rfl
      have b5 := HBB7.out.cellv (j := 5) rfl
      have b6 := HBB7.out.cellv (j := 6) rfl
      have b7 := HBB7.out.cellv (j := 7) rfl
      have b8 := HBB7.out.cellv (j := 8) rfl
      go_wp2_with (fail)
      refine HC2.mono ?_
      rintro e w8 ⟨rfl, hm8⟩
      have HM8 : Hid (Mod (fun _ => False) w w8) := HM7.out.and hm8
      have HT8 : Hid (Bk w8 bt 26 #[.int .i64 rs, .int .i64 rr, .int .i64 hp, .int .i64 sq, .int .i64 ar, .int .i64 lw, .int .i64 st, .int .i64 ix, .slice ao l.length cap]) := HT7.out.mod hm8 (fun h => h)
      have HBA8 : Hid (Bk w8 ba 26 #[.int .i64 rs, .int .i64 rr, .int .i64 (hp + 1), .int .i64 sq, .int .i64 A1, .int .i64 L1, .int .i64 st, .int .i64 ix, .slice a5 A.length c5]) := HBA7.out.mod hm8 (fun h => h)
      have HBB8 : Hid (Bk w8 bb 26 #[.int .i64 rs, .int .i64 rr, .int .i64 (hp + 1), .int .i64 sq, .int .i64 A1, .int .i64 L1, .int .i64 st, .int .i64 ix, .slice a6 F.length c6]) := HBB7.out.mod hm8 (fun h => h)
      have HA8 : Hid (Aw w8 (.slice a5 A.length c5) A) := HA7.out.mod hm8 (fun _ _ h => h)
      have HF8 : Hid (Aw w8 (.slice a6 F.length c6) F) := HF7.out.mod hm8 (fun _ _ h => h)
      clear HC2 hm8 HM7 HT7 HBA7 HBB7 HA7 HF7 b0 b1 b2 b3 b4 b5 b6 b7 b8
      have t8 := HT8.out.cellv (j := 8) rfl
      have t3 := HT8.out.cellv (j := 3) rfl
      have a8 := HBA8.out.cellv (j := 8) rfl
      have b8 := HBB8.out.cellv (j := 8) rfl
      have hl16 : ¬ 16 < (A.length : Int) := by have := HAOK.out.2; omega
      have hge : ¬ (A.length : Int) < (l.length : Int) := by have := HGE.out; omega
      have hA16 : (A.length : Int) ≤ 16 := by have := HAOK.out.2; omega
      have hd16 : decide ((16 : Int) < (A.length : Int)) = false := decide_eq_false hl16
      have hdge : decide ((A.length : Int) < (l.length : Int)) = false := decide_eq_false hge
      have hdgeN : decide (A.length < l.length) = false := decide_eq_false (by have := hge; omega)
      go_wp2_with (fail)
      have HDR : Hid (∀ q, Mod (fun _ => False) w (w8.drewN q)) := fun q => HM8.out.drewN q
      have HLNS : Hid (l.length ≤ 140737488355328 ∧ G.length ≤ 140737488355328 ∧ H.length ≤ 140737488355328 ∧ A.length ≤ 140737488355328 ∧ F.length ≤ 140737488355328) := by
        have h1 := (okT_ask HOK.out).1
        have h2 := HLN.out
        have h3 := HAOK.out.2
        have h4 := (okT_ask HFOK.out).1
        exact ⟨by omega, by omega, by omega, by omega, by omega⟩
      have HHT : Hid (∀ x q, Calls Try.prog 20 #[.slice ao l.length cap, .int .i64 x] (w8.drewN q) fun e w' => e = .returned (.bool (l.contains x)) ∧ w' = w8.drewN q) := fun x q => has_any _ l x _ (HS.out.sl.mod (HDR.out q) fun _ _ h => h) HLNS.out.1
      have HHG : Hid (∀ x q, Calls Try.prog 20 #[.slice ga G.length gc, .int .i64 x] (w8.drewN q) fun e w' => e = .returned (.bool (G.contains x)) ∧ w' = w8.drewN q) := fun x q => has_any _ G x _ (HG.out.sl.mod (HDR.out q) fun _ _ h => h) HLNS.out.2.1
      have HHH : Hid (∀ x q, Calls Try.prog 20 #[.slice ha H.length hc, .int .i64 x] (w8.drewN q) fun e w' => e = .returned (.bool (H.contains x)) ∧ w' = w8.drewN q) := fun x q => has_any _ H x _ (HH.out.sl.mod (HDR.out q) fun _ _ h => h) HLNS.out.2.2.1
      have HHA : Hid (∀ x q, Calls Try.prog 20 #[.slice a5 A.length c5, .int .i64 x] (w8.drewN q) fun e w' => e = .returned (.bool (A.contains x)) ∧ w' = w8.drewN q) := fun x q => has_any _ A x _ (HA8.out.sl.mod ((Mod.refl (fun _ => False) w8).drewN q) fun _ _ h => h) HLNS.out.2.2.2.1
      have HHF : Hid (∀ x q, Calls Try.prog 20 #[.slice a6 F.length c6, .int .i64 x] (w8.drewN q) fun e w' => e = .returned (.bool (F.contains x)) ∧ w' = w8.drewN q) := fun x q => has_any _ F x _ (HF8.out.sl.mod ((Mod.refl (fun _ => False) w8).drewN q) fun _ _ h => h) HLNS.out.2.2.2.2
      go_loopw [9] (fun ci wr => ∃ (i q : Nat), ci = .int .i64 (i : Int) ∧ i ≤ A.length ∧ wr = w8.drewN q) (fun ci _ => A.length - (intOf ci).toNat)
      case atStart => exact ⟨0, 0, rfl, Nat.zero_le _, rfl⟩
      case round =>
        obtain ⟨i, q, rfl, hi, rfl⟩ := hrel
        by_cases hlt : i < A.length
        · have hlt' : (i : Int) < (A.length : Int) := by omega
          have hi0 : (0 : Int) ≤ (i : Int) := by omega
          obtain ⟨a5', c5', e5, _, _, _, h5⟩ := HA8.out.sl
          cases e5
          obtain ⟨g5, o5, rfl, hc5⟩ := h5 (by intro e; rw [e] at hlt; simp at hlt)
          have cx := hc5 i hlt
          have hxA : A.getD i 0 ∈ A := by rw [List.getD_eq_getElem?_getD, List.getElem?_eq_getElem hlt]; exact List.getElem_mem hlt
          obtain ⟨x, hx⟩ : ∃ x, A.getD i 0 = x := ⟨_, rfl⟩
          rw [hx] at cx hxA
          have HLT : Hid (i < A.length) := hlt
          have HT1 := HHT.out x
          have HG1 := HHG.out x
          have HH1 := HHH.out x
          have HF1 := HHF.out x
          rw [HFH.out x hxA] at HF1
          have HOR : Hid (l.contains x = true ∨ G.contains x = true) := (HMEM.out x hxA).imp (fun h => by simpa using h) (fun h => by simpa using h)
          generalize l.contains x = bl at *
          generalize G.contains x = bg at *
          generalize H.contains x = bh at *
          clear h5 hc5 hxA hx hlt
          go_upto_region 12 with (fail)
          go_cut [10] (fun v wx => v = .bool true ∧ ∃ q', wx = w8.drewN q')
          case first =>
            clear HHT HHG HHH HHA HHF HKEEP HMEM HGE HFH HA8 HF8 HH1 HF1
            cases bl with
            | true =>
              go_quiet (first | (go_at_call 20; exact (HT1 _).mono fun e w' h => ⟨h.1, _, h.2⟩))
              go_wp2
              go_meet
              exact ⟨rfl, _, by first | rfl | (simp; rfl)⟩
            | false =>
              obtain rfl : bg = true := by rcases HOR.out with h | h; cases h; exact h
              go_quiet (first | (go_at_call_of 20 ao; exact (HT1 _).mono fun e w' h => ⟨h.1, _, h.2⟩) | (go_at_call_of 20 ga; exact (HG1 _).mono fun e w' h => ⟨h.1, _, h.2⟩))
              go_wp2
              go_meet
              exact ⟨rfl, _, by first | rfl | (simp; rfl)⟩
          case rest =>
          obtain ⟨rfl, q2, rfl⟩ := hcut
          clear HT1 HG1 HOR
          go_upto_region 13 with (fail)
          go_cut [94] (fun v wx => v = .bool false ∧ ∃ q', wx = w8.drewN q')
          case first =>
            clear HHT HHG HHH HHA HHF HKEEP HMEM HGE HFH HA8 HF8
            cases bh with
            | true =>
              rw [Bool.not_true] at HF1
              go_quiet (first | (go_at_call_of 20 a6; exact (HF1 _).mono fun e w' h => ⟨h.1, _, h.2⟩) | (go_at_call_of 20 ha; exact (HH1 _).mono fun e w' h => ⟨h.1, _, h.2⟩))
              go_wp2
              go_meet
              exact ⟨rfl, _, by first | rfl | (simp; rfl)⟩
            | false =>
              rw [Bool.not_false] at HF1
              go_quiet (first | (go_at_call_of 20 a6; exact (HF1 _).mono fun e w' h => ⟨h.1, _, h.2⟩) | (go_at_call_of 20 ha; exact (HH1 _).mono fun e w' h => ⟨h.1, _, h.2⟩))
              go_wp2
              go_meet
              exact ⟨rfl, _, by first | rfl | (simp; rfl)⟩
          case rest =>
          obtain ⟨rfl, q3, rfl⟩ := hcut
          clear HF1 HH1
          go_wp2_with (fail)
          go_roundw
          case rel => exact ⟨i + 1, q3, by go_num, HLT.out, rfl⟩
          case measure =>
            have := HLT.out
            simp [intOf]
            omega
        · have hnl : ¬ (i : Int) < (A.length : Int) := by omega
          clear hlt
          go_wp2_with (fail)
          go_loopw [11] (fun ci wr => ∃ (j q : Nat), ci = .int .i64 (j : Int) ∧ j ≤ G.length ∧ wr = w8.drewN q) (fun ci _ => G.length - (intOf ci).toNat)
          case atStart => exact ⟨0, q, rfl, Nat.zero_le _, rfl⟩
          case round =>
            clear hnl hi
            obtain ⟨j, q2, rfl, hj, rfl⟩ := hrel
            by_cases hjl : j < G.length
            · have hjl' : (j : Int) < (G.length : Int) := by omega
              have hj0 : (0 : Int) ≤ (j : Int) := by omega
              have hjb : (j : Int) ≤ 17592186044416 := by have := HLN.out.1; omega
              have hGs := HG.out.sl.mod HM8.out fun _ _ h => h
              obtain ⟨ga', gc', eG, _, _, _, h6⟩ := hGs
              cases eG
              obtain ⟨g6, o6, rfl, hc6⟩ := h6 (by intro e; rw [e] at hjl; simp at hjl)
              have cg := hc6 j hjl
              have hzG : G.getD j 0 ∈ G := by rw [List.getD_eq_getElem?_getD, List.getElem?_eq_getElem hjl]; exact List.getElem_mem hjl
              obtain ⟨z, hz⟩ : ∃ z, G.getD j 0 = z := ⟨_, rfl⟩
              rw [hz] at cg hzG
              have HJL : Hid (j < G.length) := hjl
              have HA1 := HHA.out z
              have HIN : Hid (1 ≤ z → z ≤ sq → (A.length : Int) < 16 → A.contains z = true) := fun h1 h2 h3 => by
                have := HKEEP.out z (by omega) hzG (by simp [win, h1, h2])
                simpa using this
              clear h6 hc6 hzG hz hjl
              go_upto_region 18 with (fail)
              go_cut [130] (fun v wx => v = .bool false ∧ ∃ q', wx = w8.drewN q')
              case first =>
                clear HHT HHG HHH HHA HHF HKEEP HMEM HGE HFH HA8 HF8
                by_cases h1 : 1 ≤ z
                · by_cases h2 : z ≤ sq
                  · by_cases h3 : (A.length : Int) < 16
                    · rw [HIN.out h1 h2 h3] at HA1
                      go_quiet (first | (go_at_call 20; exact (HA1 _).mono fun e w' h => ⟨h.1, _, h.2⟩))
                      go_wp2
                      go_meet
                      exact ⟨rfl, _, by first | rfl | (simp; rfl)⟩
                    · go_quiet (fail)
                      go_wp2
                      go_meet
                      exact ⟨rfl, _, by first | rfl | (simp; rfl)⟩
                  · go_quiet (fail)
                    go_wp2
                    go_meet
                    exact ⟨rfl, _, by first | rfl | (simp; rfl)⟩
                · go_quiet (fail)
                  go_wp2
                  go_meet
                  exact ⟨rfl, _, by first | rfl | (simp; rfl)⟩
              case rest =>
              obtain ⟨rfl, q3, rfl⟩ := hcut
              clear HA1 HIN
              go_wp2_with (fail)
              go_roundw
              case rel => exact ⟨j + 1, q3, by go_num, HJL.out, rfl⟩
              case measure =>
                have := HJL.out
                simp [intOf]
                omega
            · have hnl : ¬ (j : Int) < (G.length : Int) := by omega
              clear hjl
              go_wp2_with (fail)
              go_ret
              exact ⟨rfl, HDR.out _⟩
  · have e0 : ckT ⟨rs, rr, hp, sq, ar, lw, st, ix, l⟩ = 2 := by rw [ckT, if_neg hok]
    rw [e0]
    clear e0 hok HB1 HM1 c2 hm2
    go_wp2_with (fail)
    go_ret
    exact ⟨rfl, HM2.out⟩
namespace tokenAsks
open Go.ChangeShapes Go.WideShapes Go.ChangeAt Go.RowKit
set_option maxRecDepth 100000 in
theorem lifted (os : Os) (started : os.Started) (H : Type) (enc : TypeId × Value → H) :
    ReturnsInHanded {} Try.checked os 6 .any (Rows.tokenAsksSpec.pre6 enc Try.prog Try.f6 Rows.tokenAsksRow.domain false) (Rows.tokenAsksSpec.post enc Try.prog Try.f6 false true false false) := by
  refine returnsInHanded_of_change_sized (C := Try.checked) own started (by kernel_rfl) Try.func6
    (ChangeSpec.witness6 (enc := enc) (C := Try.checked) false ⟨#[], #[.agg #[.int .i64 0, .int .i64 0, .int .i64 0, .int .i64 0, .int .i64 0, .int .i64 0, .int .i64 0, .int .i64 0, .slice none 0 0], .slice none 0 0, .slice none 0 0], []⟩ 8 (by kernel_rfl) (by kernel_rfl) (by kernel_rfl) (by kernel_rfl)) ?_
  intro W base args ds gs before hval0 hW hcnd hsz0 _
  have hval : ∀ (j : Nat) t v, Try.f6.params[j]? = some t → args[j]? = some v → Value.okWide Try.prog W .any base t v := hval0
  have hsz : (DataW.weightsEach Try.prog (Try.f6.params.toList ++ Rows.tokenAsksSpec.plain.varTypes Try.prog) (ds ++ gs)).all (· ≤ reachBytes) = true := hsz0
  have hW' := hW
  obtain ⟨p, q, hA0, hV, rfl, hfz, hnd⟩ := hW
  have hA : DataW.TrodAll enc Try.prog W 0 (fun _ => true) true Try.f6.params.toList args.toList ds p := hA0
  rw [Try.params6] at hA hval hsz
  obtain ⟨v0, vs0, d0, ds0, p0, q0, hargs, rfl, rfl, h0, r0⟩ := trodAll_cons hA
  obtain ⟨v1, vs1, d1, ds1, p1, q1, rfl, rfl, rfl, h1, r1⟩ := trodAll_cons r0
  obtain ⟨v2, vs2, d2, ds2, p2, q2, rfl, rfl, rfl, h2, r2⟩ := trodAll_cons r1
  obtain ⟨rfl, rfl, rfl⟩ := trodAll_nil r2
  obtain rfl : args = #[v0, v1, v2] := by cases args; simp_all
  obtain ⟨rfl, rfl⟩ := trodVars_none hV
  have k0 := h0
  have lt0 : ∀ x ∈ p0, x.block < W.heap.size := by obtain ⟨m, hm⟩ := k0; exact DataW.trod_lt m _ _ _ hm
  obtain ⟨rs0, rr0, hp0, sq0, ar0, lw0, st0, ix0, ao0, cap0, l0, rfl, hB0, _⟩ := open_token (hval 0 26 v0 rfl rfl) h0
  have k1 := h1
  have lt1 : ∀ x ∈ p1, x.block < W.heap.size := by obtain ⟨m, hm⟩ := k1; exact DataW.trod_lt m _ _ _ hm
  obtain ⟨B1, hB1, hL1⟩ := open_lw h1 (okWide_slice Try.underlying24 (hval 1 24 v1 rfl rfl)) (by
    rw [List.all_eq_true] at hsz
    intro n hn
    have := hsz n (DataW.weights_mem_each (t := 24) (j := 1) rfl rfl n hn)
    simpa using this)
  have k2 := h2
  have lt2 : ∀ x ∈ p2, x.block < W.heap.size := by obtain ⟨m, hm⟩ := k2; exact DataW.trod_lt m _ _ _ hm
  obtain ⟨B2, hB2, hL2⟩ := open_lw h2 (okWide_slice Try.underlying24 (hval 2 24 v2 rfl rfl)) (by
    rw [List.all_eq_true] at hsz
    intro n hn
    have := hsz n (DataW.weights_mem_each (t := 24) (j := 2) rfl rfl n hn)
    simpa using this)
  clear hA0 hval0
  refine (asks_walk rs0 rr0 hp0 sq0 ar0 lw0 st0 ix0 ao0 cap0 l0 v1 B1 v2 B2 W hB0 hB1 hB2 hL1 hL2).mono fun e W' ⟨he, hm⟩ => ?_
  subst he
  have bel : Below W.heap.size W W' := hm.below _ (Nat.le_refl _) (fun _ h => h.elim)
  exact ⟨_, rfl, _, _, _, [], _, [], hW', trodAll_mk1 (shut_bool Try.underlying4 _), (trodAll_cons_mk (Below.trod laidOut (by kernel_rfl) (of_decide_eq_true (by kernel_rfl)) k0 bel lt0) (trodAll_cons_mk (Below.trod laidOut (by kernel_rfl) (of_decide_eq_true (by kernel_rfl)) k1 bel lt1) (trodAll_cons_mk (Below.trod laidOut (by kernel_rfl) (of_decide_eq_true (by kernel_rfl)) k2 bel lt2) trodAll_mk0))), rfl, bel.frame _, fun h => by cases h⟩

theorem over : Rows.tokenAsksRow.holds Try.pinned (OpenSpec.ofChange Rows.tokenAsksSpec) :=
  OpenClaim.holds_of_wide 6 Try.f6 rfl rfl rfl rfl rfl rfl rfl ⟨rfl, rfl, rfl, rfl, rfl⟩ rfl rfl rfl rfl rfl (by kernel_rfl) Try.func6 (by kernel_rfl)
    (of_decide_eq_true (by kernel_rfl)) (by unfold Func.isWrapper; first | (rw [if_pos (by decide +kernel)]; kernel_rfl) | (rw [if_neg (by decide +kernel)]; exact ⟨rfl, rfl⟩))
    (fun os started H enc _ => lifted os started H enc)
end tokenAsks
theorem tokenAsks_holds : Rows.TokenAsksSaid := tokenAsks.over
end Go.Proofs.Ytbjkncfpddhpkaa
