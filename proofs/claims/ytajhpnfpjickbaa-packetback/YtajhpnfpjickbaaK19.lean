/- Contracts of packet's fieldsOf, isKind, hasMessage, hasData, hasToken, hasCommit. No conditions. -/
import Derived.Test.YtajhpnfpjickbaaK17
import Derived.Test.YtajhpnfpjickbaaK18
namespace Go.Proofs.Ytajhpnfpjickbaa
open Go.RowKit
theorem eqFields (a0 a1 a2 a3 a4 b0 b1 b2 b3 b4 : Bool) (w : World) : (Op.equalIn 10000 118 (.agg #[.bool a0, .bool a1, .bool a2, .bool a3, .bool a4]) (.agg #[.bool b0, .bool b1, .bool b2, .bool b3, .bool b4])).run Try.prog w = .ok ((a0 == b0) && ((a1 == b1) && ((a2 == b2) && ((a3 == b3) && (a4 == b4))))) w := by
  cases h0 : (a0 == b0) <;> cases h1 : (a1 == b1) <;> cases h2 : (a2 == b2) <;> cases h3 : (a3 == b3) <;> cases h4 : (a4 == b4) <;> simp [go_sem, h0, h1, h2, h3, h4]
theorem resT {t t' : TypeId} {n : Nat} {d : TypeDesc} (hi : (Try.prog.info? t).map (·.size) = some n) (hu : Try.prog.underlying t = some d) (hd : d.isRow = true) {fn : Func} {pp : Tmp} (h : fn.results = #[.cell pp t]) {tmps : Array Value} {w : World} {b : Nat} {xs : Array Value} (hp : tmps.getD pp undef = .pointer (some ⟨b, 0, none⟩)) (hb : Bk w b t' xs) (hs : xs.size = n) :
    (results fn tmps).run Try.prog w = .ok (.agg xs) w := by
  rw [results_cell1 h, hp]
  have hl := run_loadVar_mid (P := Try.prog) w b 0 t xs.toList _ hb.row hu hd (by rw [hi]; simp [hs])
  simp only [asAddr, Sem.run_pure, Result.andThen]
  rw [hl]
theorem infoF : (Try.prog.info? 118).map (·.size) = some 5 := by kernel_rfl
theorem fieldsOf_any (k : Int) (w : World) : Calls Try.prog 75 #[.int .i64 k] w fun e w' => e = .returned (.agg #[.bool (k == 1), .bool (k == 2), .bool (k == 3), .bool (k == 4), .bool (k == 5)]) ∧ Mod (fun _ => False) w w' := by
  go_enter Try.func75, Try.ntmps75
  go_wp2
  exact bodyPost_ret (resT infoF Try.underlying118 rfl rfl rfl (Bk.new w #[.bool (k == 1), .bool (k == 2), .bool (k == 3), .bool (k == 4), .bool (k == 5)] 118) rfl) rfl ⟨rfl, (Mod.refl _ _).alloc _⟩
theorem isKind_any (k : Int) (w : World) : Calls Try.prog 101 #[.int .i64 k] w fun e w' => e = .returned (.bool (decide (1 ≤ k ∧ k ≤ 5))) ∧ Mod (fun _ => False) w w' := by
  have H := fieldsOf_any k
  have hA := (Mod.refl (fun _ => False) w).alloc (.cells #[.bool false, .bool false, .bool false, .bool false, .bool false] 118)
  have hB := Bk.new w #[.bool false, .bool false, .bool false, .bool false, .bool false] 118
  have hd : decide (1 ≤ k ∧ k ≤ 5) = !(((k == 1) == false) && (((k == 2) == false) && (((k == 3) == false) && (((k == 4) == false) && ((k == 5) == false))))) := by
    rw [Bool.eq_iff_iff]
    simp
    omega
  rw [hd]
  have EF := eqFields (k == 1) (k == 2) (k == 3) (k == 4) (k == 5) false false false false false
  clear hd
  generalize (((k == 1) == false) && (((k == 2) == false) && (((k == 3) == false) && (((k == 4) == false) && ((k == 5) == false))))) = R at EF ⊢
  generalize (k == 1) = c1 at H EF
  generalize (k == 2) = c2 at H EF
  generalize (k == 3) = c3 at H EF
  generalize (k == 4) = c4 at H EF
  generalize (k == 5) = c5 at H EF
  have a0 := hB.cellv (j := 0) rfl
  have a1 := hB.cellv (j := 1) rfl
  have a2 := hB.cellv (j := 2) rfl
  have a3 := hB.cellv (j := 3) rfl
  have a4 := hB.cellv (j := 4) rfl
  replace hA := hA.drew
  clear hB
  go_enter Try.func101, Try.ntmps101
  go_wp2_with (fail)
  go_region_held3 (fun y => y.cell? ⟨w.heap.size, 0, none⟩ = some (.bool false) ∧ y.cell? ⟨w.heap.size, 1, none⟩ = some (.bool false) ∧ y.cell? ⟨w.heap.size, 2, none⟩ = some (.bool false) ∧ y.cell? ⟨w.heap.size, 3, none⟩ = some (.bool false) ∧ y.cell? ⟨w.heap.size, 4, none⟩ = some (.bool false)) (first | exact ⟨a0, a1, a2, a3, a4⟩ | go_keep)
    ((go_at_call 75; refine (H _).mono ?_; rintro e w1 ⟨rfl, hm1⟩; replace a0 := hm1.cell a0 (fun h => h); replace a1 := hm1.cell a1 (fun h => h); replace a2 := hm1.cell a2 (fun h => h); replace a3 := hm1.cell a3 (fun h => h); replace a4 := hm1.cell a4 (fun h => h)))
  go_wp2
  go_ret
  exact ⟨rfl, hA.trans hm1 (V := fun _ => False) (fun _ _ h => h) (fun _ _ h => h)⟩
set_option maxRecDepth 100000 in
set_option maxHeartbeats 4000000 in
theorem hasMessage_any (k o lf i p ps g : Int) (s : Bool) (st rs rr sq : Int) (ao : Option Addr) (cap : Nat) (l : List Int) (w : World) : Calls Try.prog 133 #[.agg #[.int .i64 k, .int .i64 o, .int .i64 lf, .int .i64 i, .int .i64 p, .int .i64 ps, .int .i64 g, .bool s, .int .i64 st, .int .i64 rs, .int .i64 rr, .int .i64 sq, .slice ao l.length cap]] w fun e w' => e = .returned (.bool (hasM ⟨k, o, lf, i, p, ps, g, s, st, rs, rr, sq, l⟩)) ∧ Mod (fun _ => False) w w' := by
  have hA1 := (Mod.refl (fun _ => False) w).alloc (.cells #[.int .i64 k, .int .i64 o, .int .i64 lf, .int .i64 i, .int .i64 p, .int .i64 ps, .int .i64 g, .bool s, .int .i64 st, .int .i64 rs, .int .i64 rr, .int .i64 sq, .slice ao l.length cap] 28)
  have hA := hA1.alloc (.cells #[.int .i64 0, .int .i64 0, .int .i64 0, .int .i64 0] 25)
  have EQ := eqKey st rs rr sq 0 0 0 0
  have HN := hasNumbers_any ((w.alloc (.cells #[.int .i64 k, .int .i64 o, .int .i64 lf, .int .i64 i, .int .i64 p, .int .i64 ps, .int .i64 g, .bool s, .int .i64 st, .int .i64 rs, .int .i64 rr, .int .i64 sq, .slice ao l.length cap] 28)).alloc (.cells #[.int .i64 0, .int .i64 0, .int .i64 0, .int .i64 0] 25)).heap.size [k, o, lf, i, p, ps, g, (l.length : Int)] 8 (((w.alloc (.cells #[.int .i64 k, .int .i64 o, .int .i64 lf, .int .i64 i, .int .i64 p, .int .i64 ps, .int .i64 g, .bool s, .int .i64 st, .int .i64 rs, .int .i64 rr, .int .i64 sq, .slice ao l.length cap] 28)).alloc (.cells #[.int .i64 0, .int .i64 0, .int .i64 0, .int .i64 0] 25)).alloc (.cells #[.int .i64 k, .int .i64 o, .int .i64 lf, .int .i64 i, .int .i64 p, .int .i64 ps, .int .i64 g, .int .i64 (l.length : Int)] 3)) (by simp) (ints_new ((w.alloc (.cells #[.int .i64 k, .int .i64 o, .int .i64 lf, .int .i64 i, .int .i64 p, .int .i64 ps, .int .i64 g, .bool s, .int .i64 st, .int .i64 rs, .int .i64 rr, .int .i64 sq, .slice ao l.length cap] 28)).alloc (.cells #[.int .i64 0, .int .i64 0, .int .i64 0, .int .i64 0] 25)) [k, o, lf, i, p, ps, g, (l.length : Int)])
  have hB := hA.alloc (.cells #[.int .i64 k, .int .i64 o, .int .i64 lf, .int .i64 i, .int .i64 p, .int .i64 ps, .int .i64 g, .int .i64 (l.length : Int)] 3)
  have e2 : ((w.alloc (.cells #[.int .i64 k, .int .i64 o, .int .i64 lf, .int .i64 i, .int .i64 p, .int .i64 ps, .int .i64 g, .bool s, .int .i64 st, .int .i64 rs, .int .i64 rr, .int .i64 sq, .slice ao l.length cap] 28)).alloc (.cells #[.int .i64 0, .int .i64 0, .int .i64 0, .int .i64 0] 25)).heap.size = w.heap.size + 1 + 1 := by simp
  rw [e2] at HN
  have hv : hasM ⟨k, o, lf, i, p, ps, g, s, st, rs, rr, sq, l⟩ = (!(decide (st = 0) && (decide (rs = 0) && (decide (rr = 0) && decide (sq = 0)))) || (s || (hsn [k, o, lf, i, p, ps, g, (l.length : Int)]))) := by simp [hasM, Bool.or_assoc]
  rw [hv]
  clear hv e2 hA1
  generalize (decide (st = 0) && (decide (rs = 0) && (decide (rr = 0) && decide (sq = 0)))) = z at EQ ⊢
  generalize hsn [k, o, lf, i, p, ps, g, (l.length : Int)] = c at HN ⊢
  cases z
  case false =>
    go_enter Try.func133, Try.ntmps133
    go_wp2
    go_ret
    exact ⟨rfl, hA⟩
  case true =>
  cases s
  case true =>
    go_enter Try.func133, Try.ntmps133
    go_wp2
    go_ret
    exact ⟨rfl, hA⟩
  case false =>
  go_enter Try.func133, Try.ntmps133
  go_wp2_with (fail)
  refine HN.mono ?_
  rintro e w1 ⟨rfl, rfl⟩
  go_wp2
  go_ret
  exact ⟨by simp, hB⟩
set_option maxRecDepth 100000 in
set_option maxHeartbeats 4000000 in
theorem hasData_any (dq dr ds dn dt : Int) (k o lf i p ps g : Int) (s : Bool) (st rs rr sq : Int) (ao : Option Addr) (cap : Nat) (l : List Int) (w : World) : Calls Try.prog 108 #[.agg #[.int .i64 dq, .int .i64 dr, .int .i64 ds, .int .i64 dn, .int .i64 dt, .int .i64 k, .int .i64 o, .int .i64 lf, .int .i64 i, .int .i64 p, .int .i64 ps, .int .i64 g, .bool s, .int .i64 st, .int .i64 rs, .int .i64 rr, .int .i64 sq, .slice ao l.length cap]] w fun e w' => e = .returned (.bool (hasD ⟨dq, dr, ds, dn, dt, ⟨k, o, lf, i, p, ps, g, s, st, rs, rr, sq, l⟩⟩)) ∧ Mod (fun _ => False) w w' := by
  have hA1 := (Mod.refl (fun _ => False) w).alloc (.cells #[.int .i64 dq, .int .i64 dr, .int .i64 ds, .int .i64 dn, .int .i64 dt, .int .i64 k, .int .i64 o, .int .i64 lf, .int .i64 i, .int .i64 p, .int .i64 ps, .int .i64 g, .bool s, .int .i64 st, .int .i64 rs, .int .i64 rr, .int .i64 sq, .slice ao l.length cap] 49)
  have hA := hA1.alloc (.cells #[.int .i64 0, .int .i64 0] 23)
  have EQ := eqRing dq dr 0 0
  have HN := hasNumbers_any ((w.alloc (.cells #[.int .i64 dq, .int .i64 dr, .int .i64 ds, .int .i64 dn, .int .i64 dt, .int .i64 k, .int .i64 o, .int .i64 lf, .int .i64 i, .int .i64 p, .int .i64 ps, .int .i64 g, .bool s, .int .i64 st, .int .i64 rs, .int .i64 rr, .int .i64 sq, .slice ao l.length cap] 49)).alloc (.cells #[.int .i64 0, .int .i64 0] 23)).heap.size [ds, dn, dt] 3 (((w.alloc (.cells #[.int .i64 dq, .int .i64 dr, .int .i64 ds, .int .i64 dn, .int .i64 dt, .int .i64 k, .int .i64 o, .int .i64 lf, .int .i64 i, .int .i64 p, .int .i64 ps, .int .i64 g, .bool s, .int .i64 st, .int .i64 rs, .int .i64 rr, .int .i64 sq, .slice ao l.length cap] 49)).alloc (.cells #[.int .i64 0, .int .i64 0] 23)).alloc (.cells #[.int .i64 ds, .int .i64 dn, .int .i64 dt] 3)) (by simp) (ints_new ((w.alloc (.cells #[.int .i64 dq, .int .i64 dr, .int .i64 ds, .int .i64 dn, .int .i64 dt, .int .i64 k, .int .i64 o, .int .i64 lf, .int .i64 i, .int .i64 p, .int .i64 ps, .int .i64 g, .bool s, .int .i64 st, .int .i64 rs, .int .i64 rr, .int .i64 sq, .slice ao l.length cap] 49)).alloc (.cells #[.int .i64 0, .int .i64 0] 23)) [ds, dn, dt])
  have hB := hA.alloc (.cells #[.int .i64 ds, .int .i64 dn, .int .i64 dt] 3)
  have e2 : ((w.alloc (.cells #[.int .i64 dq, .int .i64 dr, .int .i64 ds, .int .i64 dn, .int .i64 dt, .int .i64 k, .int .i64 o, .int .i64 lf, .int .i64 i, .int .i64 p, .int .i64 ps, .int .i64 g, .bool s, .int .i64 st, .int .i64 rs, .int .i64 rr, .int .i64 sq, .slice ao l.length cap] 49)).alloc (.cells #[.int .i64 0, .int .i64 0] 23)).heap.size = w.heap.size + 1 + 1 := by simp
  rw [e2] at HN
  have hv : hasD ⟨dq, dr, ds, dn, dt, ⟨k, o, lf, i, p, ps, g, s, st, rs, rr, sq, l⟩⟩ = (!(decide (dq = 0) && decide (dr = 0)) || ((hsn [ds, dn, dt] || hasM ⟨k, o, lf, i, p, ps, g, s, st, rs, rr, sq, l⟩))) := by simp [hasD, rn0, Bool.or_assoc]
  rw [hv]
  clear hv e2 hA1
  generalize (decide (dq = 0) && decide (dr = 0)) = z at EQ ⊢
  generalize hsn [ds, dn, dt] = c at HN ⊢
  have HT := hasMessage_any k o lf i p ps g s st rs rr sq ao cap l
  have hBk := (Bk.new w #[.int .i64 dq, .int .i64 dr, .int .i64 ds, .int .i64 dn, .int .i64 dt, .int .i64 k, .int .i64 o, .int .i64 lf, .int .i64 i, .int .i64 p, .int .i64 ps, .int .i64 g, .bool s, .int .i64 st, .int .i64 rs, .int .i64 rr, .int .i64 sq, .slice ao l.length cap] 49).mod (((Mod.refl (fun _ => False) (w.alloc (.cells #[.int .i64 dq, .int .i64 dr, .int .i64 ds, .int .i64 dn, .int .i64 dt, .int .i64 k, .int .i64 o, .int .i64 lf, .int .i64 i, .int .i64 p, .int .i64 ps, .int .i64 g, .bool s, .int .i64 st, .int .i64 rs, .int .i64 rr, .int .i64 sq, .slice ao l.length cap] 49))).alloc (.cells #[.int .i64 0, .int .i64 0] 23)).alloc (.cells #[.int .i64 ds, .int .i64 dn, .int .i64 dt] 3)) (fun h => h)
  generalize hasM ⟨k, o, lf, i, p, ps, g, s, st, rs, rr, sq, l⟩ = ct at HT ⊢
  cases z
  case false =>
    go_enter Try.func108, Try.ntmps108
    go_wp2
    go_ret
    exact ⟨rfl, hA⟩
  case true =>
  go_enter Try.func108, Try.ntmps108
  go_wp2_with (fail)
  refine HN.mono ?_
  rintro e w1 ⟨rfl, rfl⟩
  cases c
  case true =>
    go_wp2
    go_ret
    exact ⟨rfl, hB⟩
  case false =>
  have a5 := hBk.cellv (j := 5) rfl
  have a6 := hBk.cellv (j := 6) rfl
  have a7 := hBk.cellv (j := 7) rfl
  have a8 := hBk.cellv (j := 8) rfl
  have a9 := hBk.cellv (j := 9) rfl
  have a10 := hBk.cellv (j := 10) rfl
  have a11 := hBk.cellv (j := 11) rfl
  have a12 := hBk.cellv (j := 12) rfl
  have a13 := hBk.cellv (j := 13) rfl
  have a14 := hBk.cellv (j := 14) rfl
  have a15 := hBk.cellv (j := 15) rfl
  have a16 := hBk.cellv (j := 16) rfl
  have a17 := hBk.cellv (j := 17) rfl
  clear hBk
  go_wp2_with (fail)
  refine (HT _).mono ?_
  rintro e w2 ⟨rfl, hm2⟩
  go_wp2
  go_ret
  exact ⟨by simp, hB.trans hm2 (V := fun _ => False) (fun _ _ h => h) (fun _ _ h => h)⟩
set_option maxRecDepth 100000 in
set_option maxHeartbeats 4000000 in
theorem hasToken_any (rs rr hp sq ar lw st id : Int) (ao : Option Addr) (cap : Nat) (l : List Int) (w : World) : Calls Try.prog 109 #[.agg #[.int .i64 rs, .int .i64 rr, .int .i64 hp, .int .i64 sq, .int .i64 ar, .int .i64 lw, .int .i64 st, .int .i64 id, .slice ao l.length cap]] w fun e w' => e = .returned (.bool (hasT ⟨rs, rr, hp, sq, ar, lw, st, id, l⟩)) ∧ Mod (fun _ => False) w w' := by
  have hA1 := (Mod.refl (fun _ => False) w).alloc (.cells #[.int .i64 rs, .int .i64 rr, .int .i64 hp, .int .i64 sq, .int .i64 ar, .int .i64 lw, .int .i64 st, .int .i64 id, .slice ao l.length cap] 67)
  have hA := hA1.alloc (.cells #[.int .i64 0, .int .i64 0] 23)
  have EQ := eqRing rs rr 0 0
  have HN := hasNumbers_any ((w.alloc (.cells #[.int .i64 rs, .int .i64 rr, .int .i64 hp, .int .i64 sq, .int .i64 ar, .int .i64 lw, .int .i64 st, .int .i64 id, .slice ao l.length cap] 67)).alloc (.cells #[.int .i64 0, .int .i64 0] 23)).heap.size [hp, sq, ar, lw, st, id, (l.length : Int)] 7 (((w.alloc (.cells #[.int .i64 rs, .int .i64 rr, .int .i64 hp, .int .i64 sq, .int .i64 ar, .int .i64 lw, .int .i64 st, .int .i64 id, .slice ao l.length cap] 67)).alloc (.cells #[.int .i64 0, .int .i64 0] 23)).alloc (.cells #[.int .i64 hp, .int .i64 sq, .int .i64 ar, .int .i64 lw, .int .i64 st, .int .i64 id, .int .i64 (l.length : Int)] 3)) (by simp) (ints_new ((w.alloc (.cells #[.int .i64 rs, .int .i64 rr, .int .i64 hp, .int .i64 sq, .int .i64 ar, .int .i64 lw, .int .i64 st, .int .i64 id, .slice ao l.length cap] 67)).alloc (.cells #[.int .i64 0, .int .i64 0] 23)) [hp, sq, ar, lw, st, id, (l.length : Int)])
  have hB := hA.alloc (.cells #[.int .i64 hp, .int .i64 sq, .int .i64 ar, .int .i64 lw, .int .i64 st, .int .i64 id, .int .i64 (l.length : Int)] 3)
  have e2 : ((w.alloc (.cells #[.int .i64 rs, .int .i64 rr, .int .i64 hp, .int .i64 sq, .int .i64 ar, .int .i64 lw, .int .i64 st, .int .i64 id, .slice ao l.length cap] 67)).alloc (.cells #[.int .i64 0, .int .i64 0] 23)).heap.size = w.heap.size + 1 + 1 := by simp
  rw [e2] at HN
  have hv : hasT ⟨rs, rr, hp, sq, ar, lw, st, id, l⟩ = (!(decide (rs = 0) && decide (rr = 0)) || ((hsn [hp, sq, ar, lw, st, id, (l.length : Int)]))) := by simp [hasT, rn0, Bool.or_assoc]
  rw [hv]
  clear hv e2 hA1
  generalize (decide (rs = 0) && decide (rr = 0)) = z at EQ ⊢
  generalize hsn [hp, sq, ar, lw, st, id, (l.length : Int)] = c at HN ⊢
  cases z
  case false =>
    go_enter Try.func109, Try.ntmps109
    go_wp2
    go_ret
    exact ⟨rfl, hA⟩
  case true =>
  go_enter Try.func109, Try.ntmps109
  go_wp2_with (fail)
  refine HN.mono ?_
  rintro e w1 ⟨rfl, rfl⟩
  go_wp2
  go_ret
  exact ⟨by simp, hB⟩
set_option maxRecDepth 100000 in
set_option maxHeartbeats 4000000 in
theorem hasCommit_any (rs rr mm hp : Int) (ao : Option Addr) (cap : Nat) (l : List Ey) (w : World) : Calls Try.prog 110 #[.agg #[.int .i64 rs, .int .i64 rr, .int .i64 mm, .int .i64 hp, .slice ao l.length cap]] w fun e w' => e = .returned (.bool (hasC ⟨rs, rr, mm, hp, l⟩)) ∧ Mod (fun _ => False) w w' := by
  have hA1 := (Mod.refl (fun _ => False) w).alloc (.cells #[.int .i64 rs, .int .i64 rr, .int .i64 mm, .int .i64 hp, .slice ao l.length cap] 72)
  have hA := hA1.alloc (.cells #[.int .i64 0, .int .i64 0] 23)
  have EQ := eqRing rs rr 0 0
  have HN := hasNumbers_any ((w.alloc (.cells #[.int .i64 rs, .int .i64 rr, .int .i64 mm, .int .i64 hp, .slice ao l.length cap] 72)).alloc (.cells #[.int .i64 0, .int .i64 0] 23)).heap.size [mm, hp, (l.length : Int)] 3 (((w.alloc (.cells #[.int .i64 rs, .int .i64 rr, .int .i64 mm, .int .i64 hp, .slice ao l.length cap] 72)).alloc (.cells #[.int .i64 0, .int .i64 0] 23)).alloc (.cells #[.int .i64 mm, .int .i64 hp, .int .i64 (l.length : Int)] 3)) (by simp) (ints_new ((w.alloc (.cells #[.int .i64 rs, .int .i64 rr, .int .i64 mm, .int .i64 hp, .slice ao l.length cap] 72)).alloc (.cells #[.int .i64 0, .int .i64 0] 23)) [mm, hp, (l.length : Int)])
  have hB := hA.alloc (.cells #[.int .i64 mm, .int .i64 hp, .int .i64 (l.length : Int)] 3)
  have e2 : ((w.alloc (.cells #[.int .i64 rs, .int .i64 rr, .int .i64 mm, .int .i64 hp, .slice ao l.length cap] 72)).alloc (.cells #[.int .i64 0, .int .i64 0] 23)).heap.size = w.heap.size + 1 + 1 := by simp
  rw [e2] at HN
  have hv : hasC ⟨rs, rr, mm, hp, l⟩ = (!(decide (rs = 0) && decide (rr = 0)) || ((hsn [mm, hp, (l.length : Int)]))) := by simp [hasC, rn0, Bool.or_assoc]
  rw [hv]
  clear hv e2 hA1
  generalize (decide (rs = 0) && decide (rr = 0)) = z at EQ ⊢
  generalize hsn [mm, hp, (l.length : Int)] = c at HN ⊢
  cases z
  case false =>
    go_enter Try.func110, Try.ntmps110
    go_wp2
    go_ret
    exact ⟨rfl, hA⟩
  case true =>
  go_enter Try.func110, Try.ntmps110
  go_wp2_with (fail)
  refine HN.mono ?_
  rintro e w1 ⟨rfl, rfl⟩
  go_wp2
  go_ret
  exact ⟨by simp, hB⟩
end Go.Proofs.Ytajhpnfpjickbaa
