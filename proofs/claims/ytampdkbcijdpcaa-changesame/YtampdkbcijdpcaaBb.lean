/- Contracts of change's isNoWindow, waits, delivered. Conditions: as many data as a slice can have. -/
import Derived.Test.YtampdkbcijdpcaaBa
namespace Go.Proofs.Ytampdkbcijdpcaa
open Go.RowKit Go.Maps
theorem noWinC {w : World} {p : Nat} {X : Nat → Prop} {J : Int → Option Dt} {a h : Int} {n : Nat} (hw : Wn w p X J a h n) : Calls Try.prog 35 #[.pointer (some ⟨p, 0, none⟩)] w fun e w' => e = .returned (.bool false) ∧ w' = w := by
  have HN := See_neg hw
  clear hw
  go_enter Try.func35, Try.ntmps35
  go_wp2_with (go_at_call 56; refine HN.mono ?_; rintro e w' ⟨rfl, rfl⟩)
  go_ret
  exact ⟨rfl, rfl⟩
/-- Whether data have to wait. -/
def wt (d : Dt) (s : Int) : Bool := d.m.safe && decide (s < d.n) && (d.m.kind != 5)
theorem waits_w (d : Dt) (u : Value) (s : Int) (w : World) (hu : ∃ ao cp, u = .slice ao d.m.body.length cp) : Calls Try.prog 60 #[dv d u, .int .i64 s] w fun e w' => e = .returned (.bool (wt d s)) ∧ Mod (fun _ => False) w w' := by
  obtain ⟨ao, cp, rfl⟩ := hu
  obtain ⟨wb, ewb⟩ : ∃ W, W = w.alloc (.cells #[.int .i64 d.q, .int .i64 d.r, .int .i64 d.n, .int .i64 d.s, .int .i64 d.t, .int .i64 d.m.kind, .int .i64 d.m.origin, .int .i64 d.m.life, .int .i64 d.m.id, .int .i64 d.m.part, .int .i64 d.m.parts, .int .i64 d.m.groups, .bool d.m.safe, .int .i64 d.m.st, .int .i64 d.m.rs, .int .i64 d.m.rr, .int .i64 d.m.sq, .slice ao d.m.body.length cp] 44) := ⟨_, rfl⟩
  obtain ⟨kb, ekb⟩ : ∃ k, k = w.heap.size := ⟨_, rfl⟩
  have hM : Hid (Mod (fun _ => False) w wb) := by show Mod _ _ _; rw [ewb]; exact (Mod.refl _ w).alloc _
  have hB : Bk wb kb 44 #[.int .i64 d.q, .int .i64 d.r, .int .i64 d.n, .int .i64 d.s, .int .i64 d.t, .int .i64 d.m.kind, .int .i64 d.m.origin, .int .i64 d.m.life, .int .i64 d.m.id, .int .i64 d.m.part, .int .i64 d.m.parts, .int .i64 d.m.groups, .bool d.m.safe, .int .i64 d.m.st, .int .i64 d.m.rs, .int .i64 d.m.rr, .int .i64 d.m.sq, .slice ao d.m.body.length cp] := by rw [ewb, ekb]; exact Bk.new w _ _
  have k2 := hB.cellv (j := 2) rfl
  have k5 := hB.cellv (j := 5) rfl
  have k12 := hB.cellv (j := 12) rfl
  clear hB
  unfold dv wt
  rcases Bool.eq_false_or_eq_true d.m.safe with hsf | hsf
  · by_cases h1 : s < d.n
    · by_cases h2 : d.m.kind = 5
      · have HZ : Hid (d.m.kind = 5 ∧ d.m.safe = true ∧ s < d.n) := ⟨h2, hsf, h1⟩
        rw [hsf] at k12
        rw [h2] at k5
        clear hsf h2
        go_enter Try.func60, Try.ntmps60
        go_upto_region 1 with (fail)
        rw [← ewb, ← ekb]
        clear ewb ekb
        go_wp2
        go_ret
        exact ⟨by simp [HZ.out.1], hM.out⟩
      · have HZ : Hid ((d.m.kind != 5) = true ∧ d.m.safe = true) := ⟨by simp [h2], hsf⟩
        have h2' : (d.m.kind == 5) = false := by simp [h2]
        rw [hsf] at k12
        clear hsf h2
        go_enter Try.func60, Try.ntmps60
        go_upto_region 1 with (fail)
        rw [← ewb, ← ekb]
        clear ewb ekb
        go_wp2
        go_ret
        refine ⟨?_, hM.out⟩
        rw [HZ.out.1, HZ.out.2, decide_eq_true h1]
        rfl
    · have HZ : Hid (d.m.safe = true) := hsf
      rw [hsf] at k12
      clear hsf
      go_enter Try.func60, Try.ntmps60
      go_upto_region 1 with (fail)
      rw [← ewb, ← ekb]
      clear ewb ekb
      go_wp2
      go_ret
      refine ⟨?_, hM.out⟩
      rw [HZ.out, decide_eq_false (show ¬ s < d.n by omega)]
      rfl
  · have HZ : Hid (d.m.safe = false) := hsf
    rw [hsf] at k12
    clear hsf
    go_enter Try.func60, Try.ntmps60
    go_upto_region 1 with (fail)
    rw [← ewb, ← ekb]
    clear ewb ekb
    go_wp2
    go_ret
    refine ⟨?_, hM.out⟩
    rw [HZ.out]
    rfl
/-- Whether it goes on over the number k. -/
def cgo (J : Int → Option Dt) (s k : Int) : Bool := match J k with | none => false | some d => !wt d s
theorem cgo_some {J : Int → Option Dt} {s k : Int} (h : cgo J s k = true) : (J k).isSome = true := by
  unfold cgo at h
  split at h
  · cases h
  · rename_i e; simp [e]
/-- Behind N it goes on for just t numbers. -/
structure Nc (J : Int → Option Dt) (s N : Int) (t : Nat) : Prop where
  on : ∀ i : Nat, i < t → cgo J s (N + i + 1) = true
  off : cgo J s (N + t + 1) = false
theorem on_nextC {J : Int → Option Dt} {s N M : Int} {t : Nat} (h : M = N + (t : Int)) (ho : ∀ i : Nat, i < t → cgo J s (N + i + 1) = true) (hg : cgo J s (M + 1) = true) : ∀ i : Nat, i < t + 1 → cgo J s (N + i + 1) = true := fun i hi => by
  rcases Nat.lt_or_ge i t with h1 | h1
  · exact ho i h1
  · obtain rfl : i = t := by omega
    rw [← h]
    exact hg
theorem Tb.ge {w : World} {b t : Nat} {v : Value} {es : List (Ev × Value)} (h : Tl w b t v es) (ht : b ≤ t) : ∀ i, Tb t v i → b ≤ i := fun i hi => by
  rcases hi with rfl | hi
  · exact ht
  · exact h.row.new i hi
/-- As many rounds as there may be. -/
def Few (J : Int → Option Dt) (N : Int) (K : Nat) : Prop := ∀ m : Nat, (∀ i : Nat, i < m → (J (N + i + 1)).isSome = true) → m ≤ K
set_option maxRecDepth 100000 in
set_option maxHeartbeats 8000000 in
theorem delivered_w {w : World} {p b t : Nat} {X : Nat → Prop} {J : Int → Option Dt} {a h : Int} {n : Nat} {v : Value} {es : List (Ev × Value)} (hw : Wn w p X J a h n) (hT : Tl w b t v es) (hX : ∀ i, X i → i < b) (ht : b ≤ t) (hb : b ≤ w.heap.size) (c : Cg) (N s : Int) (hN : 0 ≤ N ∧ N ≤ 9223372036854775807) (hK : Few J N 1000000) (hes : es.length ≤ 1000000) :
    Calls Try.prog 38 #[.pointer (some ⟨t, 0, none⟩), .agg #[.int .i64 c.q, .int .i64 c.r, .int .i64 c.oq, .int .i64 c.or_, .int .i64 c.mem, .bool c.tr, .int .i64 c.st, .int .i64 N, .int .i64 s], .pointer (some ⟨p, 0, none⟩)] w fun e w' => ∃ (k : Nat) (v' : Value) (es' : List (Ev × Value)), e = .returned (.int .i64 (N + (k : Int))) ∧ N + (k : Int) ≤ 9223372036854775807 ∧ es'.map (·.1) = es.map (·.1) ++ (dl J N k).map evD ∧ Nc J s N k ∧ Tp w w' b t v v' es' := by
  have HK : Hid (Few J N 1000000) := hK
  have HN : Hid (0 ≤ N ∧ N ≤ 9223372036854775807) := hN
  have HX : Hid (∀ i, X i → i < b) := hX
  have HTB : Hid (b ≤ t) := ht
  have HES : Hid (es.length ≤ 1000000) := hes
  obtain ⟨w1, ew1⟩ : ∃ W, W = w.alloc (.cells #[.int .i64 c.q, .int .i64 c.r, .int .i64 c.oq, .int .i64 c.or_, .int .i64 c.mem, .bool c.tr, .int .i64 c.st, .int .i64 N, .int .i64 s] 27) := ⟨_, rfl⟩
  obtain ⟨kb, ekb⟩ : ∃ k, k = w.heap.size := ⟨_, rfl⟩
  have hmw : Mod (fun _ => False) w w1 := by rw [ew1]; exact (Mod.refl _ w).alloc _
  have hkB : Bk w1 kb 27 #[.int .i64 c.q, .int .i64 c.r, .int .i64 c.oq, .int .i64 c.or_, .int .i64 c.mem, .bool c.tr, .int .i64 c.st, .int .i64 N, .int .i64 s] := by rw [ew1, ekb]; exact Bk.new w _ _
  have hne : ∀ i, Tb t v i → i < kb := fun i hi => by
    rw [ekb]
    rcases hi with rfl | hi
    · exact hT.blk.lt
    · exact hT.row.row.lt i hi
  have HW : Hid (Wn w1 p X J a h n) := hw.keep hmw
  have HT : Hid (Tl w1 b t v es) := hT.keep hmw
  have HB1 : Hid (b ≤ w1.heap.size) := Nat.le_trans hb hmw.size
  have HMW : Hid (Mod (fun _ => False) w w1) := hmw
  have HOLD : Hid (Bk w1 kb 27 #[.int .i64 c.q, .int .i64 c.r, .int .i64 c.oq, .int .i64 c.or_, .int .i64 c.mem, .bool c.tr, .int .i64 c.st, .int .i64 N, .int .i64 s]) := hkB
  have HNE : Hid (∀ i, Tb t v i → i < kb) := hne
  have k7 : w1.cell? ⟨kb, 7, none⟩ = some (.int .i64 N) := hkB.cellv (j := 7) rfl
  clear hw hT hX ht hb hN hK hes hmw hkB hne
  go_enter Try.func38, Try.ntmps38
  go_upto_region 1 with (fail)
  rw [← ew1, ← ekb]
  clear ew1 ekb
  go_wp2_with (fail)
  go_loopw [7] (fun l wr => ∃ (k : Nat) (v' : Value) (es' : List (Ev × Value)), l = .int .i64 (N + (k : Int)) ∧ Hid (es'.map (·.1) = es.map (·.1) ++ (dl J N k).map evD) ∧ Hid (∀ i : Nat, i < k → cgo J s (N + i + 1) = true) ∧ Tp w1 wr b t v v' es') (fun l _ => (1000000 - (intOf l - N)).toNat)
  case atStart => exact ⟨0, v, es, by simp, (by show _ = _; simp [dl]), (fun i hi => by omega), ⟨HT.out, Mod.refl _ _, Fr.refl _ _⟩⟩
  case round =>
    obtain ⟨k, v', es', rfl, hmap, hall, hP⟩ := hrel
    have hkK : k ≤ 1000000 := HK.out k (fun i hi => cgo_some (hall.out i hi))
    obtain ⟨M, hM⟩ : ∃ M : Int, M = N + (k : Int) := ⟨_, rfl⟩
    have HME : Hid (M = N + (k : Int)) := hM
    have hM0 : 0 ≤ M := by have := HN.out; omega
    have hM1 : M ≤ 9223372036854775807 := by
      have := HN.out
      rcases Nat.eq_zero_or_pos k with e | e
      · subst e; omega
      · have h1 := HW.out.wp.some_i (cgo_some (hall.out (k - 1) (by omega)))
        omega
    have HM1 : Hid (0 ≤ M ∧ M ≤ 9223372036854775807) := ⟨hM0, hM1⟩
    rw [← hM]
    have hWr := HW.out.mod hP.mod (fun i hi hq => by have h1 := HX.out i hi; have h2 := Tb.ge HT.out HTB.out i hq; omega)
    have hOr := HOLD.out.mod hP.mod (fun hq => by have := HNE.out kb hq; omega)
    have HP : Hid (Tp w1 wr b t v v' es') := hP
    have HLN : Hid (es'.length ≤ 2000000) := by
      have h1 := dl_len J N k
      have h2 := congrArg List.length hmap.out
      simp only [List.length_map, List.length_append] at h2
      have := HES.out
      show _ ≤ _
      omega
    have HKK : Hid (k ≤ 1000000) := hkK
    have k8 : wr.cell? ⟨kb, 8, none⟩ = some (.int .i64 s) := hOr.cellv (j := 8) rfl
    have HOR : Hid (Bk wr kb 27 #[.int .i64 c.q, .int .i64 c.r, .int .i64 c.oq, .int .i64 c.or_, .int .i64 c.mem, .bool c.tr, .int .i64 c.st, .int .i64 N, .int .i64 s]) := hOr
    clear hP hOr hM k7
    rcases Int.lt_or_le M 9223372036854775807 with hlt | hge
    · have HG := Get_w hWr (M + 1) (by unfold I64; omega)
      have HLT : Hid (M < 9223372036854775807) := hlt
      go_wp2_with (fail)
      refine HG.mono ?_
      rintro e w2 ⟨u, rfl, hou, hm2, hg2⟩
      clear k8
      have hP2 : Tp w1 w2 b t v v' es' := ⟨HP.out.tl.keep hm2, HP.out.mod.trans hm2 (fun _ _ h => h) (fun _ _ h => h.elim), HP.out.fr⟩
      have HU : Hid (∀ g, u.ownBlock = some g → b ≤ g) := fun g hg => Nat.le_trans HB1.out (Nat.le_trans HP.out.mod.size (hg2 g hg))
      have hO2 := HOR.out.mod hm2 (fun h => h)
      have hZ : Hid (Bk _ _ _ _) := Bk.new w2 #[.int .i64 0, .int .i64 0, .int .i64 0, .int .i64 0, .int .i64 0, .int .i64 0, .int .i64 0, .int .i64 0, .int .i64 0, .int .i64 0, .int .i64 0, .int .i64 0, .bool false, .int .i64 0, .int .i64 0, .int .i64 0, .int .i64 0, .slice none 0 0] 44
      have hA := (Mod.refl (fun _ => False) w2).alloc (.cells #[.int .i64 0, .int .i64 0, .int .i64 0, .int .i64 0, .int .i64 0, .int .i64 0, .int .i64 0, .int .i64 0, .int .i64 0, .int .i64 0, .int .i64 0, .int .i64 0, .bool false, .int .i64 0, .int .i64 0, .int .i64 0, .int .i64 0, .slice none 0 0] 44)
      clear hm2 hg2 hWr
      clear HG
      cases hJ : J (M + 1) with
      | none =>
        rw [hJ] at hou
        simp only [Option.isSome_none, Option.getD_none] at hou ⊢
        obtain ⟨ao, cp, rfl⟩ : ∃ ao cp, u = .slice ao 0 cp := hou.shape
        have HGO : Hid (cgo J s (M + 1) = false) := by simp [Hid, cgo, hJ]
        have HP2 : Hid (Tp w1 w2 b t v v' es') := hP2
        clear hJ hou hP2
        unfold dv d0
        go_wp2_with (refine wpList_store_row info18 rfl rfl _ _ rfl w2.heap.size #[.int .i64 0, .int .i64 0, .int .i64 0, .int .i64 0, .int .i64 0, .int .i64 0, .int .i64 0, .int .i64 0, .int .i64 0, .int .i64 0, .int .i64 0, .int .i64 0, .bool false, .int .i64 0, .int .i64 0, .int .i64 0, .int .i64 0, .slice ao 0 cp] rfl rfl hZ.out rfl rfl rfl ?_; intro wF hBF hMF)
        go_ret
        have hq : Mod (fun _ => False) w2 wF := hA.trans hMF (V := fun _ => False) (fun _ _ h => h) (fun i hi h => by omega)
        exact ⟨k, v', es', by rw [HME.out]; rfl, by have := HM1.out; have := HME.out; omega, hmap.out, ⟨hall.out, by rw [← HME.out]; exact HGO.out⟩, ⟨HP2.out.tl.keep hq, HMW.out.trans (HP2.out.mod.trans hq (V := Tb t v) (fun _ _ h => h) (fun _ _ h => h.elim)) (fun _ _ h => h.elim) (fun _ _ h => h), HP2.out.fr.early HMW.out.size⟩⟩
      | some d =>
        rw [hJ] at hou
        simp only [Option.isSome_some, Option.getD_some] at hou ⊢
        obtain ⟨ao, cp, rfl⟩ := hou.shape
        obtain ⟨hdn, hk1, hk2, hrng, -⟩ := HW.out.wp.each _ d hJ
        have HMB : Hid (M + 1 ≤ 9007199254740991) := hk2
        have HRNG : Hid (∀ c ∈ d.m.body, 0 ≤ c ∧ c ≤ 255) := hrng
        have HJ : Hid (J (M + 1) = some d) := hJ
        have hou2 := hou.mod hA (fun _ _ h => h)
        clear hJ hdn hrng hk1 hk2
        have HWT := fun W => waits_w d (.slice ao d.m.body.length cp) s W ⟨ao, cp, rfl⟩
        unfold dv at HWT
        unfold dv
        go_upto_region 3 with (refine wpList_store_row info18 rfl rfl _ _ rfl w2.heap.size #[.int .i64 d.q, .int .i64 d.r, .int .i64 d.n, .int .i64 d.s, .int .i64 d.t, .int .i64 d.m.kind, .int .i64 d.m.origin, .int .i64 d.m.life, .int .i64 d.m.id, .int .i64 d.m.part, .int .i64 d.m.parts, .int .i64 d.m.groups, .bool d.m.safe, .int .i64 d.m.st, .int .i64 d.m.rs, .int .i64 d.m.rr, .int .i64 d.m.sq, .slice ao d.m.body.length cp] rfl rfl hZ.out rfl rfl rfl ?_; intro wF hBF hMF)
        have hq : Mod (fun _ => False) w2 wF := hA.trans hMF (V := fun _ => False) (fun _ _ h => h) (fun i hi h => by omega)
        have hP3 : Tp w1 wF b t v v' es' := ⟨hP2.tl.keep hq, hP2.mod.trans hq (fun _ _ h => h) (fun _ _ h => h.elim), hP2.fr⟩
        have hO3 := hO2.mod hq (fun h => h)
        have ho3 := hou.mod hq (fun _ _ h => h)
        obtain ⟨db, edb⟩ : ∃ db, db = w2.heap.size := ⟨_, rfl⟩
        rw [← edb] at hBF ⊢
        clear hP2 hO2 hou hou2 hA hMF hq hZ edb
        have k8 : wF.cell? ⟨kb, 8, none⟩ = some (.int .i64 s) := hO3.cellv (j := 8) rfl
        have x0 := hBF.cellv (j := 0) rfl
        have x1 := hBF.cellv (j := 1) rfl
        have x2 := hBF.cellv (j := 2) rfl
        have x3 := hBF.cellv (j := 3) rfl
        have x4 := hBF.cellv (j := 4) rfl
        have x5 := hBF.cellv (j := 5) rfl
        have x6 := hBF.cellv (j := 6) rfl
        have x7 := hBF.cellv (j := 7) rfl
        have x8 := hBF.cellv (j := 8) rfl
        have x9 := hBF.cellv (j := 9) rfl
        have x10 := hBF.cellv (j := 10) rfl
        have x11 := hBF.cellv (j := 11) rfl
        have x12 := hBF.cellv (j := 12) rfl
        have x13 := hBF.cellv (j := 13) rfl
        have x14 := hBF.cellv (j := 14) rfl
        have x15 := hBF.cellv (j := 15) rfl
        have x16 := hBF.cellv (j := 16) rfl
        have x17 := hBF.cellv (j := 17) rfl
        have HBF : Hid (Bk wF db 44 #[.int .i64 d.q, .int .i64 d.r, .int .i64 d.n, .int .i64 d.s, .int .i64 d.t, .int .i64 d.m.kind, .int .i64 d.m.origin, .int .i64 d.m.life, .int .i64 d.m.id, .int .i64 d.m.part, .int .i64 d.m.parts, .int .i64 d.m.groups, .bool d.m.safe, .int .i64 d.m.st, .int .i64 d.m.rs, .int .i64 d.m.rr, .int .i64 d.m.sq, .slice ao d.m.body.length cp]) := hBF
        have HP3 : Hid (Tp w1 wF b t v v' es') := hP3
        have HO3 : Hid (Own wF (.slice ao d.m.body.length cp) d.m.body) := ho3
        clear hBF hP3 ho3 hO3
        go_wp2_with (fail)
        refine (HWT _).mono ?_
        rintro e w4 ⟨rfl, hm4⟩
        have hP4 : Tp w1 w4 b t v v' es' := ⟨HP3.out.tl.keep hm4, HP3.out.mod.trans hm4 (fun _ _ h => h) (fun _ _ h => h.elim), HP3.out.fr⟩
        have hB4 := HBF.out.mod hm4 (fun h => h)
        have ho4 := HO3.out.mod hm4 (fun _ _ h => h)
        clear x0 x1 x2 x3 x4 x5 x6 x7 x8 x9 x10 x11 x12 x13 x14 x15 x16 x17 k8 hm4 HWT
        cases hwt : wt d s with
        | true =>
          have HGO : Hid (cgo J s (M + 1) = false) := by simp [Hid, cgo, HJ.out, hwt]
          have HP4 : Hid (Tp w1 w4 b t v v' es') := hP4
          clear hP4 hB4 ho4 hwt
          go_wp2
          go_ret
          exact ⟨k, v', es', by rw [HME.out]; rfl, by have := HM1.out; have := HME.out; omega, hmap.out, ⟨hall.out, by rw [← HME.out]; exact HGO.out⟩, ⟨HP4.out.tl, HMW.out.trans HP4.out.mod (V := Tb t v) (fun _ _ h => h.elim) (fun _ _ h => h), HP4.out.fr.early HMW.out.size⟩⟩
        | false =>
          have HGO : Hid (cgo J s (M + 1) = true) := by simp [Hid, cgo, HJ.out, hwt]
          have HMS := message_w hP4.tl (Nat.le_trans HB1.out hP4.mod.size) (by have := HLN.out; omega) d (.slice ao d.m.body.length cp) ho4 HU.out HRNG.out
          unfold dv at HMS
          have HP4 : Hid (Tp w1 w4 b t v v' es') := hP4
          have HB4 : Hid (Bk w4 db 44 #[.int .i64 d.q, .int .i64 d.r, .int .i64 d.n, .int .i64 d.s, .int .i64 d.t, .int .i64 d.m.kind, .int .i64 d.m.origin, .int .i64 d.m.life, .int .i64 d.m.id, .int .i64 d.m.part, .int .i64 d.m.parts, .int .i64 d.m.groups, .bool d.m.safe, .int .i64 d.m.st, .int .i64 d.m.rs, .int .i64 d.m.rr, .int .i64 d.m.sq, .slice ao d.m.body.length cp]) := hB4
          clear hP4 hB4 ho4 hwt
          go_upto_region 5 with (fail)
          go_wp2_with (refine wpList_load_row info18 Try.underlying44 rfl rfl _ rfl db rfl HB4.out rfl ?_; simp only [Act.put, List.setIfInBounds_toArray, List.set_cons_succ, List.set_cons_zero])
          refine HMS.mono ?_
          rintro e w5 ⟨rfl, v5, hP5⟩
          have HPE : Hid (Tp w1 w5 b t v v5 (if d.m.kind = 5 then es' else es' ++ [(evD d, .slice ao d.m.body.length cp)])) := ⟨hP5.tl, Tb.and HP4.out.mod HP4.out.fr hP5.mod, Fr.and HP4.out.mod.size HP4.out.fr hP5.fr⟩
          have HMAP : Hid ((if d.m.kind = 5 then es' else es' ++ [(evD d, .slice ao d.m.body.length cp)]).map (·.1) = es.map (·.1) ++ (dl J N (k + 1)).map evD) := by
            show _ = _
            rw [dl_next HME.out, List.map_append, ← List.append_assoc, ← hmap.out]
            simp only [dk, HJ.out]
            by_cases h5 : d.m.kind = 5
            · simp [h5]
            · simp [h5]
          clear hP5 HMS
          have hw5 : IntKind.i64.wrap (M + 1) = M + 1 := by
            have := HM1.out; have := HMB.out
            unfold IntKind.wrap; simp [IntKind.signed, IntKind.bits]; omega
          go_wp2
          go_roundw
          case rel => exact ⟨k + 1, v5, _, by rw [HME.out] at *; go_num, HMAP, on_nextC HME.out hall.out HGO.out, HPE.out⟩
          case measure =>
            have := HKK.out
            have := HME.out
            have := HM1.out
            have := HMB.out
            have h9 := HK.out (k + 1) (fun i hi => cgo_some (on_nextC HME.out hall.out HGO.out i hi))
            simp [intOf]
            omega
    · have e : M = 9223372036854775807 := by omega
      subst e
      have n1 : ∀ z : Int, (z < 1 ∨ 9007199254740991 < z) → J z = none := fun z hz => by
        cases hJ : J z with
        | none => rfl
        | some d => have := HW.out.wp.some_i (k := z) (by simp [hJ]); omega
      have hJ : J (9223372036854775807 + 1) = none := n1 _ (.inr (by omega))
      have HG := Get_w hWr (-9223372036854775808) (by unfold I64; omega)
      rw [n1 (-9223372036854775808) (.inl (by omega))] at HG
      clear n1
      go_wp2_with (fail)
      rw [show wrap64 9223372036854775808 = -9223372036854775808 by decide +kernel]
      refine HG.mono ?_
      rintro e w2 ⟨u, rfl, hou, hm2, hg2⟩
      clear k8
      have hP2 : Tp w1 w2 b t v v' es' := ⟨HP.out.tl.keep hm2, HP.out.mod.trans hm2 (fun _ _ h => h) (fun _ _ h => h.elim), HP.out.fr⟩
      have HU : Hid (∀ g, u.ownBlock = some g → b ≤ g) := fun g hg => Nat.le_trans HB1.out (Nat.le_trans HP.out.mod.size (hg2 g hg))
      have hO2 := HOR.out.mod hm2 (fun h => h)
      have hZ : Hid (Bk _ _ _ _) := Bk.new w2 #[.int .i64 0, .int .i64 0, .int .i64 0, .int .i64 0, .int .i64 0, .int .i64 0, .int .i64 0, .int .i64 0, .int .i64 0, .int .i64 0, .int .i64 0, .int .i64 0, .bool false, .int .i64 0, .int .i64 0, .int .i64 0, .int .i64 0, .slice none 0 0] 44
      have hA := (Mod.refl (fun _ => False) w2).alloc (.cells #[.int .i64 0, .int .i64 0, .int .i64 0, .int .i64 0, .int .i64 0, .int .i64 0, .int .i64 0, .int .i64 0, .int .i64 0, .int .i64 0, .int .i64 0, .int .i64 0, .bool false, .int .i64 0, .int .i64 0, .int .i64 0, .int .i64 0, .slice none 0 0] 44)
      clear hm2 hg2 hWr
      clear HG
      simp only [Option.isSome_none, Option.getD_none] at hou ⊢
      obtain ⟨ao, cp, rfl⟩ : ∃ ao cp, u = .slice ao 0 cp := hou.shape
      have HGO : Hid (cgo J s (9223372036854775807 + 1) = false) := by show cgo J s (9223372036854775807 + 1) = false; unfold cgo; rw [hJ]
      have HP2 : Hid (Tp w1 w2 b t v v' es') := hP2
      clear hJ hou hP2
      unfold dv d0
      go_wp2_with (refine wpList_store_row info18 rfl rfl _ _ rfl w2.heap.size #[.int .i64 0, .int .i64 0, .int .i64 0, .int .i64 0, .int .i64 0, .int .i64 0, .int .i64 0, .int .i64 0, .int .i64 0, .int .i64 0, .int .i64 0, .int .i64 0, .bool false, .int .i64 0, .int .i64 0, .int .i64 0, .int .i64 0, .slice ao 0 cp] rfl rfl hZ.out rfl rfl rfl ?_; intro wF hBF hMF)
      go_ret
      have hq : Mod (fun _ => False) w2 wF := hA.trans hMF (V := fun _ => False) (fun _ _ h => h) (fun i hi h => by omega)
      exact ⟨k, v', es', by rw [HME.out]; rfl, by have := HM1.out; have := HME.out; omega, hmap.out, ⟨hall.out, by rw [← HME.out]; exact HGO.out⟩, ⟨HP2.out.tl.keep hq, HMW.out.trans (HP2.out.mod.trans hq (V := Tb t v) (fun _ _ h => h) (fun _ _ h => h.elim)) (fun _ _ h => h.elim) (fun _ _ h => h), HP2.out.fr.early HMW.out.size⟩⟩
end Go.Proofs.Ytampdkbcijdpcaa
