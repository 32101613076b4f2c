/- TokenSettles: when nobody sends any more, and all have all, two rounds later each node knows it; of every token and number, as the statement says it. No conditions. -/
import Derived.Test.YtbjkncfpddhpkaaAi
namespace Go.Proofs.Ytbjkncfpddhpkaa
open Go.RowKit
/-- The token, and what each node left with and holds safe, ahead of visit i. -/
structure St (w0 w : World) (Z : Nat → Prop) (bt bl bs n : Nat) (rs rr hp sq st ix : Int) (l : List Int) (i : Nat) (ar lw : Int) (lf sf : Nat → Int) : Prop where
  tz : Tz w0 w Z bt ⟨rs, rr, hp, sq, ar, lw, st, ix, l⟩
  ok : okT ⟨rs, rr, hp, sq, ar, lw, st, ix, l⟩ = true
  left : Ar w bl lf
  safe : Ar w bs sf
  zb : Z bl ∧ Z bs ∧ bt ≠ bl ∧ bt ≠ bs ∧ bl ≠ bs
  pl : Pl n sq i ar lw lf sf
/-- .. behind Safe. -/
structure St2 (w0 w : World) (Z : Nat → Prop) (bt bl bs n : Nat) (rs rr hp sq st ix : Int) (l : List Int) (i k : Nat) (ar lw : Int) (lf sf : Nat → Int) : Prop where
  tz : Tz w0 w Z bt ⟨rs, rr, hp, sq, ar, lw, st, ix, l⟩
  ok : okT ⟨rs, rr, hp, sq, ar, lw, st, ix, l⟩ = true
  left : Ar w bl lf
  safe : Ar w bs (if 2 * n ≤ i then (fun j => if j = k then max (sf k) (min (lf k) ar) else sf j) else sf)
  zb : Z bl ∧ Z bs ∧ bt ≠ bl ∧ bt ≠ bs ∧ bl ≠ bs
  pl : Pl n sq i ar lw lf sf
set_option maxRecDepth 100000 in
set_option maxHeartbeats 40000000 in
theorem settles_walk (rs rr hp sq ar lw st ix nn : Int) (ao : Option Addr) (cap : Nat) (l : List Int) (w : World) (hs : Si w (.slice ao l.length cap) l) (hn : I64 nn) : Calls Try.prog 5 #[.agg #[.int .i64 rs, .int .i64 rr, .int .i64 hp, .int .i64 sq, .int .i64 ar, .int .i64 lw, .int .i64 st, .int .i64 ix, .slice ao l.length cap], .int .i64 nn] w fun e w' => e = .returned (.bool true) ∧ Mod (fun _ => False) w w' := by
  have HS : Hid (Si w (.slice ao l.length cap) l) := hs
  have hA0 := (Mod.refl (fun _ => False) w).alloc (.cells #[.int .i64 rs, .int .i64 rr, .int .i64 hp, .int .i64 sq, .int .i64 ar, .int .i64 lw, .int .i64 st, .int .i64 ix, .slice ao l.length cap] 26)
  have HB0 : Hid (Bk _ _ _ _) := Bk.new w #[.int .i64 rs, .int .i64 rr, .int .i64 hp, .int .i64 sq, .int .i64 ar, .int .i64 lw, .int .i64 st, .int .i64 ix, .slice ao l.length cap] 26
  have HA0 : Hid (Mod (fun _ => False) w _) := hA0
  clear hs hA0
  go_enter Try.func5, Try.ntmps5
  go_wp2_with (fail)
  refine (awake_any _).mono ?_
  rintro e w1 ⟨rfl, hm1⟩
  have HB1 : Hid (Bk w1 w.heap.size 26 _) := HB0.out.mod hm1 (fun h => h)
  have HM1 : Hid (Mod (fun _ => False) w w1) := HA0.out.and hm1
  obtain ⟨bt, hbt⟩ : ∃ bt, bt = w.heap.size := ⟨_, rfl⟩
  have HBT : Hid (bt = w.heap.size) := hbt
  rw [← hbt] at HB1 ⊢
  clear hm1 HB0 HA0 hbt
  have c2 := HB1.out.cellv (j := 2) rfl
  have c5 := HB1.out.cellv (j := 5) rfl
  go_wp2_with (refine wpList_load_row infoT Try.underlying26 rfl rfl _ rfl bt rfl HB1.out rfl ?_; simp only [Act.put, List.setIfInBounds_toArray, List.set_cons_succ, List.set_cons_zero])
  refine (tCheck rs rr hp sq ar lw st ix ao cap l w1 (HS.out.sl.mod HM1.out fun _ _ h => h) HS.out.rng).mono ?_
  rintro e w2 ⟨rfl, hm2⟩
  by_cases hok : okT ⟨rs, rr, hp, sq, ar, lw, st, ix, l⟩ = true
  · have e0 : ckT ⟨rs, rr, hp, sq, ar, lw, st, ix, l⟩ = 0 := by rw [ckT, if_pos hok]
    rw [e0]
    have HOK : Hid (okT ⟨rs, rr, hp, sq, ar, lw, st, ix, l⟩ = true) := hok
    obtain ⟨p1, p2, p3, p4, p5, p6, p7, p8⟩ := okT_parts hok
    dsimp only at p1 p2 p3 p4 p5 p6 p7 p8
    have HP : Hid (1 ≤ hp ∧ hp ≤ 9007199254740991 ∧ 0 ≤ sq ∧ sq ≤ 9007199254740991 ∧ 0 ≤ ar ∧ ar ≤ sq ∧ 0 ≤ lw ∧ lw ≤ 8) := ⟨p1, p2, p3, p4, p5, p6, p7, p8⟩
    have HB2 : Hid (Bk w2 bt 26 _) := HB1.out.mod hm2 (fun h => h)
    have HM2 : Hid (Mod (fun _ => False) w w2) := HM1.out.and hm2
    clear e0 hok HB1 HM1 c2 c5 p1 p2 p3 p4 p5 p6 p7 p8 hm2
    have c2 := HB2.out.cellv (j := 2) rfl
    have c5 := HB2.out.cellv (j := 5) rfl
    by_cases hfar : 9007199254740951 < hp
    · go_wp2_with (fail)
      go_ret
      exact ⟨rfl, HM2.out⟩
    · have HFA : Hid (¬ 9007199254740951 < hp) := hfar
      go_wp2_with (fail)
      refine (bring nn 8 _ (by omega) (by omega) hn).mono ?_
      rintro e w3 ⟨rfl, rfl⟩
      have hz := br_rng nn 8 (by omega)
      obtain ⟨z, ez⟩ : ∃ z, z = br nn (8 : Nat) := ⟨_, rfl⟩
      rw [← ez] at hz ⊢
      obtain ⟨n, hnz⟩ : ∃ n : Nat, 1 + z = (n : Int) := ⟨(1 + z).toNat, by omega⟩
      have HN : Hid (1 ≤ n ∧ n ≤ 8) := ⟨by omega, by omega⟩
      obtain ⟨hz0, hz1⟩ : 0 ≤ z ∧ z < 8 := by omega
      clear hz ez
      by_cases hlow : (n : Int) < lw
      · go_wp2_with (fail)
        go_ret
        exact ⟨rfl, HM2.out⟩
      · have hn0 : ¬ (n : Int) = 0 := by have := HN.out; omega
        have hn1 : (1 : Int) ≤ (n : Int) := by have := HN.out; omega
        have hn8 : (n : Int) ≤ 8 := by have := HN.out; omega
        have HLO : Hid (¬ (n : Int) < lw) := hlow
        have HS0 : Hid (St w ((w3.alloc (.cells #[.int .i64 0, .int .i64 0, .int .i64 0, .int .i64 0, .int .i64 0, .int .i64 0, .int .i64 0, .int .i64 0] 41)).alloc (.cells #[.int .i64 0, .int .i64 0, .int .i64 0, .int .i64 0, .int .i64 0, .int .i64 0, .int .i64 0, .int .i64 0] 41)) (fun i => i = bt ∨ i = w3.heap.size ∨ i = w3.heap.size + 1) bt w3.heap.size (w3.heap.size + 1) n rs rr (hp + ((0 : Nat) : Int)) sq st ix l 0 ar lw (fun _ => 0) (fun _ => 0)) := by
          have hlt : bt < w3.heap.size := HB2.out.lt
          have m1 := (Mod.refl (fun _ => False) w3).alloc (.cells #[.int .i64 0, .int .i64 0, .int .i64 0, .int .i64 0, .int .i64 0, .int .i64 0, .int .i64 0, .int .i64 0] 41)
          have m2 := m1.alloc (.cells #[.int .i64 0, .int .i64 0, .int .i64 0, .int .i64 0, .int .i64 0, .int .i64 0, .int .i64 0, .int .i64 0] 41)
          have s0 : w.heap.size ≤ w3.heap.size := HM2.out.size
          have eb := HBT.out
          rw [show hp + ((0 : Nat) : Int) = hp by simp]
          refine ⟨⟨⟨ao, cap, HB2.out.mod m2 (fun h => h), (HS.out.sl.mod HM2.out fun _ _ h => h).mod m2 (fun _ _ h => h), fun hl g hg => ?_⟩, fun i hi => ?_, .inl rfl, HM2.out.and m2⟩, ?_, ?_, ?_, ⟨.inr (.inl rfl), .inr (.inr rfl), by omega, by omega, by omega⟩, Pl.start (by have := HLO.out; omega) HP.out.2.2.1 (by omega)⟩
          · have := HS.out.sl.lt hl g hg
            omega
          · simp
            omega
          · exact HOK.out
          · exact (Ar.new w3).mod ((Mod.refl (fun _ => False) _).alloc _) (fun h => h)
          · have := Ar.new (w3.alloc (.cells #[.int .i64 0, .int .i64 0, .int .i64 0, .int .i64 0, .int .i64 0, .int .i64 0, .int .i64 0, .int .i64 0] 41))
            simpa using this
        clear HB2 hn
        go_wp2_with (fail)
        clear c2 c5 hfar hlow hnz hz0 hz1
        go_loopw [8] (fun ci wr => ∃ (i : Nat) (ar lw : Int) (lf sf : Nat → Int), ci = .int .i64 (i : Int) ∧ i ≤ 4 * n ∧ Hid (St w wr (fun i => i = bt ∨ i = w3.heap.size ∨ i = w3.heap.size + 1) bt w3.heap.size (w3.heap.size + 1) n rs rr (hp + (i : Int)) sq st ix l i ar lw lf sf)) (fun ci _ => 4 * n - (intOf ci).toNat)
        case atStart => exact ⟨0, _, _, _, _, rfl, Nat.zero_le _, HS0⟩
        case round =>
          clear HS0
          obtain ⟨i, ar, lw, lf, sf, rfl, hi, hSt⟩ := hrel
          obtain ⟨bs, ebs⟩ : ∃ bs, bs = w3.heap.size + 1 := ⟨_, rfl⟩
          have HBS : Hid (bs = w3.heap.size + 1) := ebs
          rw [← ebs] at hSt ⊢
          obtain ⟨bl, ebl⟩ : ∃ bl, bl = w3.heap.size := ⟨_, rfl⟩
          have HBL : Hid (bl = w3.heap.size) := ebl
          rw [← ebl] at hSt ⊢
          clear ebs ebl
          have hi32 : (i : Int) ≤ 32 := by have := HN.out; omega
          by_cases hlt : (i : Int) < 4 * (n : Int)
          · obtain ⟨k, hk⟩ : ∃ k : Nat, k = i % n := ⟨_, rfl⟩
            have HK : Hid (k = i % n) := hk
            have hkn : k < n := by rw [hk]; exact Nat.mod_lt _ (by have := HN.out; omega)
            have hmod : (i : Int).tmod (n : Int) = (k : Int) := by rw [Int.tmod_eq_emod_of_nonneg (by omega), hk]; omega
            have hk8 : (k : Int) < 8 := by have := HN.out; omega
            have hk0 : (0 : Int) ≤ (k : Int) := by omega
            have HK8 : Hid (k < 8 ∧ k < n) := ⟨by have := HN.out; omega, hkn⟩
            have HLT : Hid (i < 4 * n) := by show _ < _; omega
            clear hk hkn
            go_upto_if 40 with (fail)
            go_cut [] (fun wx => St2 w wx (fun i => i = bt ∨ i = bl ∨ i = bs) bt bl bs n rs rr (hp + (i : Int)) sq st ix l i k ar lw lf sf)
            case first =>
              by_cases h2 : 2 * (n : Int) ≤ (i : Int)
              · obtain ⟨ao2, cap2, hB, _, _⟩ := hSt.out.tz.tok
                have c4 : wr.cell? ⟨bt, 4, none⟩ = some (.int .i64 ar) := hB.cellv (j := 4) rfl
                have cs := hSt.out.safe.cell HK8.out.1
                have fs := hSt.out.safe.frz k
                have cl := hSt.out.left.cell HK8.out.1
                have HSF := safe_st (sf k) (lf k) ar
                have H2 : Hid (2 * n ≤ i) := by show _ ≤ _; omega
                clear hB
                go_upto_region 14 with (fail)
                clear hlt hmod hi32 hn0 hn1 hn8 h2
                go_region_law (refine step_c3 (fun args w => by simp [go_sem]) (by rfl) _ _ _ (by rfl) (by rfl) _ _ _ (by rfl) (by rfl) (by rfl) _ (HSF _) ?_; rintro r w6 ⟨rfl, rfl⟩)
                all_goals go_wp2
                all_goals go_meet
                all_goals
                  have hd := (Mod.refl (fun _ => False) wr).drew
                  have HNE := hSt.out.zb
                  exact ⟨(hSt.out.tz.keep hd).put k _ HNE.2.1 HNE.2.2.2.1, hSt.out.ok, (hSt.out.left.mod hd (fun h => h)).other _ _ (fun e => HNE.2.2.2.2 e.symm), by rw [if_pos H2.out]; exact (hSt.out.safe.mod hd (fun h => h)).set HK8.out.1 _, HNE, hSt.out.pl⟩
              · have H2 : Hid (¬ 2 * n ≤ i) := by show ¬ _; omega
                go_wp2_with (fail)
                go_meet
                exact ⟨hSt.out.tz, hSt.out.ok, hSt.out.left, by rw [if_neg H2.out]; exact hSt.out.safe, hSt.out.zb, hSt.out.pl⟩
            case rest =>
            have HC : Hid (St2 w wc (fun i => i = bt ∨ i = bl ∨ i = bs) bt bl bs n rs rr (hp + (i : Int)) sq st ix l i k ar lw lf sf) := hcut
            clear hcut hSt
            generalize wc = w4 at *
            obtain ⟨ao2, cap2, hB4, hSl4, _⟩ := HC.out.tz.tok
            have HB4 : Hid (Bk w4 bt 26 #[.int .i64 rs, .int .i64 rr, .int .i64 (hp + (i : Int)), .int .i64 sq, .int .i64 ar, .int .i64 lw, .int .i64 st, .int .i64 ix, .slice ao2 l.length cap2]) := hB4
            have c3 := HB4.out.cellv (j := 3) rfl
            have HV : Calls Try.prog 9 #[.agg #[.int .i64 rs, .int .i64 rr, .int .i64 (hp + (i : Int)), .int .i64 sq, .int .i64 ar, .int .i64 lw, .int .i64 st, .int .i64 ix, .slice ao2 l.length cap2], .int .i64 (1 + (k : Int)), .int .i64 sq, .slice none 0 0] w4 _ := tvisit HC.out.tz hSl4 (1 + (k : Int)) sq HC.out.ok (by have := HFA.out; show hp + (i : Int) ≠ _; omega) (by have := HK8.out; have := HN.out; simp only [nd, decide_eq_true_eq]; omega) HP.out.2.2.1
            clear hB4 hSl4
            go_wp2_with (refine wpList_load_row infoT Try.underlying26 rfl rfl _ rfl bt rfl HB4.out rfl ?_; simp only [Act.put, List.setIfInBounds_toArray, List.set_cons_succ, List.set_cons_zero])
            refine HV.mono ?_
            rintro e w5 ⟨ao3, cap3, rfl, hT5, hm5, hset⟩
            have hB5 := HB4.out.mod hm5 (fun h => h)
            have hL5 := HC.out.left.mod hm5 (fun h => h)
            have hS5 := HC.out.safe.mod hm5 (fun h => h)
            have HNE := HC.out.zb
            unfold tcl vT
            dsimp only
            clear HV hT5 c3
            go_wp2_with (refine wpList_store_row infoT rfl rfl _ _ rfl bt #[.int .i64 rs, .int .i64 rr, .int .i64 (hp + (i : Int) + 1), .int .i64 sq, .int .i64 (vA sq (1 + (k : Int)) sq ar lw), .int .i64 (vL sq (1 + (k : Int)) sq ar lw), .int .i64 st, .int .i64 ix, .slice ao3 l.length cap3] rfl rfl hB5 rfl rfl rfl ?_; intro wF hBF hMF; have c4 := hBF.cellv (j := 4) rfl; have hLF := hL5.mod hMF (fun e => HNE.2.2.1 e.symm); have cl := hLF.cell HK8.out.1; have fl := hLF.frz k)
            have HZ : Hid (St w (wF.setCell ⟨bl, k, none⟩ (.int .i64 (vA sq (1 + (k : Int)) sq ar lw))) (fun i => i = bt ∨ i = bl ∨ i = bs) bt bl bs n rs rr (hp + ((i + 1 : Nat) : Int)) sq st ix l (i + 1) (vA sq (1 + (k : Int)) sq ar lw) (vL sq (1 + (k : Int)) sq ar lw) (fun j => if j = k then vA sq (1 + (k : Int)) sq ar lw else lf j) (if 2 * n ≤ i then (fun j => if j = k then max (sf k) (min (lf k) ar) else sf j) else sf)) := by
              obtain ⟨q1, q2, q3, q4, q5, q6, q7, q8⟩ := okT_parts HC.out.ok
              dsimp only at q1 q2 q3 q4 q5 q6 q7 q8
              have e1 : hp + ((i + 1 : Nat) : Int) = hp + (i : Int) + 1 := by omega
              rw [e1]
              exact ⟨(hset.out wF hMF hBF).put k _ HNE.1 HNE.2.2.1, okT_visit HC.out.ok (by have := HFA.out; show hp + (i : Int) ≠ _; omega) (by have := HK8.out; have := HN.out; simp only [nd, decide_eq_true_eq]; omega) HP.out.2.2.1, hLF.set HK8.out.1 _, (hS5.mod hMF (fun e => HNE.2.2.2.1 e.symm)).other _ _ (fun e => HNE.2.2.2.2 e), HNE, HC.out.pl.step (by have := HN.out; omega) HLT.out HK.out q6 q7⟩
            clear hLF hBF hMF hB5 hL5 hS5 hset cl fl c4
            go_roundw
            case rel => exact ⟨i + 1, _, _, _, _, by go_num, HLT.out, HZ⟩
            case measure =>
              have := HLT.out
              simp [intOf]
              omega
          · obtain rfl : i = 4 * n := by omega
            obtain ⟨ao2, cap2, hB, _, _⟩ := hSt.out.tz.tok
            have c3 : wr.cell? ⟨bt, 3, none⟩ = some (.int .i64 sq) := hB.cellv (j := 3) rfl
            have HCS : Hid (∀ j, j < n → wr.cell? ⟨bs, j, none⟩ = some (.int .i64 sq)) := fun j hj => by
              have := hSt.out.safe.cell (j := j) (by have := HN.out; omega)
              rw [hSt.out.pl.done j hj] at this
              exact this
            have HM : Hid (Mod (fun _ => False) w wr) := hSt.out.tz.mod
            have hsq : (sq != sq) = false := by simp
            clear hB hSt
            obtain ⟨w9, e9⟩ : ∃ w9, w9 = wr := ⟨_, rfl⟩
            subst e9
            go_wp2_with (fail)
            go_loopw [10] (fun cj wr => ∃ (j q : Nat), cj = .int .i64 (j : Int) ∧ j ≤ n ∧ wr = w9.drewN q) (fun cj _ => n - (intOf cj).toNat)
            case atStart => exact ⟨0, 0, rfl, Nat.zero_le _, rfl⟩
            case round =>
              obtain ⟨j, q, rfl, hj, rfl⟩ := hrel
              by_cases hjn : j < n
              · have hjn' : (j : Int) < (n : Int) := by omega
                have hj8 : (j : Int) < 8 := by omega
                have hj0 : (0 : Int) ≤ (j : Int) := by omega
                have cj := HCS.out j hjn
                have HJN : Hid (j < n) := hjn
                go_wp2
                go_quiet (fail)
                go_wp2
                go_roundw
                case rel => exact ⟨j + 1, q + nq, by go_num, HJN.out, by simp⟩
                case measure =>
                  have := HJN.out
                  simp [intOf]
                  omega
              · have hjn' : ¬ (j : Int) < (n : Int) := by omega
                go_wp2
                go_ret
                exact ⟨rfl, HM.out.drewN q⟩
  · have e0 : ckT ⟨rs, rr, hp, sq, ar, lw, st, ix, l⟩ = 2 := by rw [ckT, if_neg hok]
    rw [e0]
    have HM2 : Hid (Mod (fun _ => False) w w2) := HM1.out.and hm2
    clear e0 hok HB1 HM1 c2 c5 hm2
    go_wp2_with (fail)
    go_ret
    exact ⟨rfl, HM2.out⟩
namespace tokenSettles
open Go.ChangeShapes Go.WideShapes Go.ChangeAt Go.RowKit
set_option maxRecDepth 100000 in
theorem lifted (os : Os) (started : os.Started) (H : Type) (enc : TypeId × Value → H) :
    ReturnsInHanded {} Try.checked os 5 .any (Rows.tokenSettlesSpec.pre6 enc Try.prog Try.f5 Rows.tokenSettlesRow.domain false) (Rows.tokenSettlesSpec.post enc Try.prog Try.f5 false true false false) := by
  refine returnsInHanded_of_change_sized (C := Try.checked) own started (by kernel_rfl) Try.func5
    (ChangeSpec.witness6 (enc := enc) (C := Try.checked) false ⟨#[], #[.agg #[.int .i64 0, .int .i64 0, .int .i64 0, .int .i64 0, .int .i64 0, .int .i64 0, .int .i64 0, .int .i64 0, .slice none 0 0], .int .i64 0], []⟩ 8 (by kernel_rfl) (by kernel_rfl) (by kernel_rfl) (by kernel_rfl)) ?_
  intro W base args ds gs before hval0 hW hcnd hsz0 _
  have hval : ∀ (j : Nat) t v, Try.f5.params[j]? = some t → args[j]? = some v → Value.okWide Try.prog W .any base t v := hval0
  have hsz : (DataW.weightsEach Try.prog (Try.f5.params.toList ++ Rows.tokenSettlesSpec.plain.varTypes Try.prog) (ds ++ gs)).all (· ≤ reachBytes) = true := hsz0
  have hW' := hW
  obtain ⟨p, q, hA0, hV, rfl, hfz, hnd⟩ := hW
  have hA : DataW.TrodAll enc Try.prog W 0 (fun _ => true) true Try.f5.params.toList args.toList ds p := hA0
  rw [Try.params5] at hA hval hsz
  obtain ⟨v0, vs0, d0, ds0, p0, q0, hargs, rfl, rfl, h0, r0⟩ := trodAll_cons hA
  obtain ⟨v1, vs1, d1, ds1, p1, q1, rfl, rfl, rfl, h1, r1⟩ := trodAll_cons r0
  obtain ⟨rfl, rfl, rfl⟩ := trodAll_nil r1
  obtain rfl : args = #[v0, v1] := by cases args; simp_all
  obtain ⟨rfl, rfl⟩ := trodVars_none hV
  have k0 := h0
  have lt0 : ∀ x ∈ p0, x.block < W.heap.size := by obtain ⟨m, hm⟩ := k0; exact DataW.trod_lt m _ _ _ hm
  obtain ⟨rs0, rr0, hp0, sq0, ar0, lw0, st0, ix0, ao0, cap0, l0, rfl, hB0, _⟩ := open_token (hval 0 26 v0 rfl rfl) h0
  obtain ⟨a1, rfl, rfl, rfl, w1⟩ := open_int Try.underlying3 (hval 1 3 v1 rfl rfl) h1
  clear hA0 hval0
  refine (settles_walk rs0 rr0 hp0 sq0 ar0 lw0 st0 ix0 a1 ao0 cap0 l0 W hB0 (i64_of_wf w1)).mono fun e W' ⟨he, hm⟩ => ?_
  subst he
  have bel : Below W.heap.size W W' := hm.below _ (Nat.le_refl _) (fun _ h => h.elim)
  exact ⟨_, rfl, _, _, _, [], _, [], hW', trodAll_mk1 (shut_bool Try.underlying4 _), (trodAll_cons_mk (Below.trod laidOut (by kernel_rfl) (of_decide_eq_true (by kernel_rfl)) k0 bel lt0) (trodAll_cons_mk (shut_int Try.underlying3 w1) trodAll_mk0)), rfl, bel.frame _, fun h => by cases h⟩

theorem over : Rows.tokenSettlesRow.holds Try.pinned (OpenSpec.ofChange Rows.tokenSettlesSpec) :=
  OpenClaim.holds_of_wide 5 Try.f5 rfl rfl rfl rfl rfl rfl rfl ⟨rfl, rfl, rfl, rfl, rfl⟩ rfl rfl rfl rfl rfl (by kernel_rfl) Try.func5 (by kernel_rfl)
    (of_decide_eq_true (by kernel_rfl)) (by unfold Func.isWrapper; first | (rw [if_pos (by decide +kernel)]; kernel_rfl) | (rw [if_neg (by decide +kernel)]; exact ⟨rfl, rfl⟩))
    (fun os started H enc _ => lifted os started H enc)
end tokenSettles
theorem tokenSettles_holds : Rows.TokenSettlesSaid := tokenSettles.over
end Go.Proofs.Ytbjkncfpddhpkaa
