/- The document's Same and Check of a packet that is a commit. Conditions: sizes that a slice has. -/
import Derived.Test.YtlekmgjjjniomaaUu
namespace Go.Proofs.Ytlekmgjjjniomaa
open Go.RowKit
theorem infoD18 : (Try.prog.info? 65).map (·.size) = some 18 := by kernel_rfl
theorem infoT9 : (Try.prog.info? 67).map (·.size) = some 9 := by kernel_rfl
theorem infoJ3 : (Try.prog.info? 69).map (·.size) = some 3 := by kernel_rfl
theorem infoB3 : (Try.prog.info? 71).map (·.size) = some 3 := by kernel_rfl
theorem eqJ0 (w : World) : (Op.equalIn 10000 69 (.agg #[.int .i64 0, .int .i64 0, .int .i64 0]) (.agg #[.int .i64 0, .int .i64 0, .int .i64 0])).run Try.prog w = .ok true w := by simp [go_sem]
theorem eqB0 (w : World) : (Op.equalIn 10000 71 (.agg #[.int .i64 0, .int .i64 0, .int .i64 0]) (.agg #[.int .i64 0, .int .i64 0, .int .i64 0])).run Try.prog w = .ok true w := by simp [go_sem]
theorem pxC_range {w : World} {b : Nat} {tw rs rr mm hp : Int} {cao : Option Addr} {n ccap : Nat} (h : Bk w b 73 (pxC tw rs rr mm hp cao n ccap)) (o : Nat) (cs : List Value) (hc : ((pxC tw rs rr mm hp cao n ccap).toList.drop o).take cs.length = cs) : w.rangeAt b o cs := h.range o cs fun j v hj => by
  rw [← hc] at hj
  rw [List.getElem?_take] at hj
  split at hj
  · rw [List.getElem?_drop] at hj
    simpa using hj
  · cases hj
set_option maxRecDepth 100000 in
set_option maxHeartbeats 8000000 in
theorem same_c (tw rs rr mm hp : Int) (cao : Option Addr) (ccap : Nat) (ce : List Ey) (w : World) (hs : SlE w (.slice cao ce.length ccap) ce) : Calls Try.prog 53 #[.agg (pxC tw rs rr mm hp cao ce.length ccap), .agg (pxC tw rs rr mm hp cao ce.length ccap)] w fun e w' => e = .returned (.bool true) ∧ Mod (fun _ => False) w w' := by
  have hM := ((Mod.refl (fun _ => False) w).alloc (.cells (pxC tw rs rr mm hp cao ce.length ccap) 73)).alloc (.cells (pxC tw rs rr mm hp cao ce.length ccap) 73)
  have hb1 := (Bk.new w (pxC tw rs rr mm hp cao ce.length ccap) 73).mod ((Mod.refl (fun _ => False) _).alloc (.cells (pxC tw rs rr mm hp cao ce.length ccap) 73)) (fun h => h)
  have hb2 := Bk.new (w.alloc (.cells (pxC tw rs rr mm hp cao ce.length ccap) 73)) (pxC tw rs rr mm hp cao ce.length ccap) 73
  simp only [World.size_alloc] at hb2
  have hcv : Cv w (.agg #[.int .i64 rs, .int .i64 rr, .int .i64 mm, .int .i64 hp, .slice cao ce.length ccap]) ⟨rs, rr, mm, hp, ce⟩ := ⟨cao, ccap, rfl, hs⟩
  replace hcv := hcv.keep hM
  have EJ := eqJ0
  have EB := eqB0
  clear hs
  obtain ⟨n, hn⟩ : ∃ n, n = ce.length := ⟨_, rfl⟩
  rw [← hn] at hM hb1 hb2 hcv ⊢
  clear hn
  go_enter Try.func53, Try.ntmps53
  go_upto_region 1 with fail
  obtain ⟨W1, hW⟩ : ∃ W1, W1 = (w.alloc (.cells (pxC tw rs rr mm hp cao n ccap) 73)).alloc (.cells (pxC tw rs rr mm hp cao n ccap) 73) := ⟨_, rfl⟩
  rw [← hW] at hM hb1 hb2 hcv ⊢
  clear hW
  have a0 := hb1.cellv (j := 0) (v := .int .i64 4) rfl
  have a1 := hb1.cellv (j := 1) (v := .int .i64 tw) rfl
  have d0 := hb2.cellv (j := 0) (v := .int .i64 4) rfl
  have d1 := hb2.cellv (j := 1) (v := .int .i64 tw) rfl
  go_wp2_with (first | (refine wpList_load_rangeg infoD18 Try.underlying65 rfl rfl _ rfl w.heap.size 2 rfl [.int .i64 0, .int .i64 0, .int .i64 0, .int .i64 0, .int .i64 0, .int .i64 0, .int .i64 0, .int .i64 0, .int .i64 0, .int .i64 0, .int .i64 0, .int .i64 0, .bool false, .int .i64 0, .int .i64 0, .int .i64 0, .int .i64 0, .slice none 0 0] (pxC_range hb1 2 _ rfl) rfl ?_; simp only [Act.put, List.setIfInBounds_toArray, List.set_cons_succ, List.set_cons_zero]) | (refine wpList_load_rangeg infoD18 Try.underlying65 rfl rfl _ rfl (w.heap.size + 1) 2 rfl [.int .i64 0, .int .i64 0, .int .i64 0, .int .i64 0, .int .i64 0, .int .i64 0, .int .i64 0, .int .i64 0, .int .i64 0, .int .i64 0, .int .i64 0, .int .i64 0, .bool false, .int .i64 0, .int .i64 0, .int .i64 0, .int .i64 0, .slice none 0 0] (pxC_range hb2 2 _ rfl) rfl ?_; simp only [Act.put, List.setIfInBounds_toArray, List.set_cons_succ, List.set_cons_zero]))
  refine (sameD_z _).mono ?_
  rintro e w2 ⟨rfl, hm2⟩
  clear a0 a1 d0 d1
  replace hM := hM.and hm2
  replace hb1 := hb1.mod hm2 (fun h => h)
  replace hb2 := hb2.mod hm2 (fun h => h)
  replace hcv := hcv.keep hm2
  clear hm2
  go_wp2_with (first | (refine wpList_load_rangeg infoT9 Try.underlying67 rfl rfl _ rfl w.heap.size 20 rfl [.int .i64 0, .int .i64 0, .int .i64 0, .int .i64 0, .int .i64 0, .int .i64 0, .int .i64 0, .int .i64 0, .slice none 0 0] (pxC_range hb1 20 _ rfl) rfl ?_; simp only [Act.put, List.setIfInBounds_toArray, List.set_cons_succ, List.set_cons_zero]) | (refine wpList_load_rangeg infoT9 Try.underlying67 rfl rfl _ rfl (w.heap.size + 1) 20 rfl [.int .i64 0, .int .i64 0, .int .i64 0, .int .i64 0, .int .i64 0, .int .i64 0, .int .i64 0, .int .i64 0, .slice none 0 0] (pxC_range hb2 20 _ rfl) rfl ?_; simp only [Act.put, List.setIfInBounds_toArray, List.set_cons_succ, List.set_cons_zero]))
  refine (sameT_z _).mono ?_
  rintro e w3 ⟨rfl, hm2⟩
  replace hM := hM.and hm2
  replace hb1 := hb1.mod hm2 (fun h => h)
  replace hb2 := hb2.mod hm2 (fun h => h)
  replace hcv := hcv.keep hm2
  clear hm2
  go_wp2_with (first | (refine wpList_load_rangeg infoJ3 Try.underlying69 rfl rfl _ rfl w.heap.size 29 rfl [.int .i64 0, .int .i64 0, .int .i64 0] (pxC_range hb1 29 _ rfl) rfl ?_; simp only [Act.put, List.setIfInBounds_toArray, List.set_cons_succ, List.set_cons_zero]) | (refine wpList_load_rangeg infoJ3 Try.underlying69 rfl rfl _ rfl (w.heap.size + 1) 29 rfl [.int .i64 0, .int .i64 0, .int .i64 0] (pxC_range hb2 29 _ rfl) rfl ?_; simp only [Act.put, List.setIfInBounds_toArray, List.set_cons_succ, List.set_cons_zero]) | (refine wpList_load_rangeg infoC Try.underlying26 rfl rfl _ rfl w.heap.size 32 rfl [.int .i64 rs, .int .i64 rr, .int .i64 mm, .int .i64 hp, .slice cao n ccap] (pxC_range hb1 32 _ rfl) rfl ?_; simp only [Act.put, List.setIfInBounds_toArray, List.set_cons_succ, List.set_cons_zero]) | (refine wpList_load_rangeg infoC Try.underlying26 rfl rfl _ rfl (w.heap.size + 1) 32 rfl [.int .i64 rs, .int .i64 rr, .int .i64 mm, .int .i64 hp, .slice cao n ccap] (pxC_range hb2 32 _ rfl) rfl ?_; simp only [Act.put, List.setIfInBounds_toArray, List.set_cons_succ, List.set_cons_zero]))
  refine (sameC_eq _ _ _ _ hcv hcv).mono ?_
  rintro e w4 ⟨rfl, hm2⟩
  replace hM := hM.and hm2
  replace hb1 := hb1.mod hm2 (fun h => h)
  replace hb2 := hb2.mod hm2 (fun h => h)
  clear hm2 hcv
  go_wp2_with (first | (refine wpList_load_rangeg infoB3 Try.underlying71 rfl rfl _ rfl w.heap.size 37 rfl [.int .i64 0, .int .i64 0, .int .i64 0] (pxC_range hb1 37 _ rfl) rfl ?_; simp only [Act.put, List.setIfInBounds_toArray, List.set_cons_succ, List.set_cons_zero]) | (refine wpList_load_rangeg infoB3 Try.underlying71 rfl rfl _ rfl (w.heap.size + 1) 37 rfl [.int .i64 0, .int .i64 0, .int .i64 0] (pxC_range hb2 37 _ rfl) rfl ?_; simp only [Act.put, List.setIfInBounds_toArray, List.set_cons_succ, List.set_cons_zero]))
  go_ret
  exact ⟨rfl, hM⟩
/-- What is said of a slot. -/
def p_rc1 (_g : Nat) (xs : Array Value) (sb : Bool) (i : Nat) (v : Value) (_w : World) : Prop :=
  match i with
  | 0 => v = .agg xs
  | 1 => v = .agg xs
  | 2 => v = .agg xs
  | 3 => v = .bool sb
  | 4 => v = .bool (!sb)
  | _ => True
/-- Its operations. -/
structure O_rc1 (ops : Array Oper) : Prop where
  e0 : Is ops 0 (some 6) (Op.load 73 (Operand.tmp 1)) none []
  e1 : Is ops 1 (some 7) (Op.load 73 (Operand.tmp 1)) none []
  e2 : Is ops 2 (some 8) (Op.call { callee := Callee.value (Operand.func 54), args := #[Operand.tmp 7], argTypes := #[73] }) none [1]
  e3 : Is ops 3 (some 9) (Op.call { callee := Callee.value (Operand.func 53), args := #[Operand.tmp 6, Operand.tmp 8], argTypes := #[73, 73] }) none [0, 2]
  e4 : Is ops 4 (some 10) (Op.unOp UnOp.not 4 (Operand.tmp 9)) none [3]
set_option maxRecDepth 100000 in
set_option maxHeartbeats 4000000 in
theorem rc1 {ops : Array Oper} {id : Nat} {aZ : Act} {w0 : World} {Q : Exit → Act → World → Prop} (g : Nat) (xs : Array Value) (sb : Bool)
    (E : O_rc1 ops) (hN : ops.size = 5) (hlow : lowB ops = true) (hds : dsts ops = [some 6, some 7, some 8, some 9, some 10]) (hnd : injB ops = true) (ha0 : aZ.tmps.size = 117)
    (bS1 : aZ.tmps.getD 1 undef = .pointer (some ⟨g, 0, none⟩))
    (hBk : Bk w0 g 73 xs)
    (hxs : xs.size = 40)
    (H2 : ∀ (W : World), Mod (fun _ => False) w0 W → Calls Try.prog 54 #[.agg xs] W fun e w' => e = .returned (.agg xs) ∧ Mod (fun _ => False) W w')
    (H3 : ∀ (W : World), Mod (fun _ => False) w0 W → Calls Try.prog 53 #[.agg xs, .agg xs] W fun e w' => e = .returned (.bool sb) ∧ Mod (fun _ => False) W w')
    (hend : ∀ (_f : Nat → Value) (w : World), Mod (fun _ => False) w0 w → Q .normal (puts aZ [(6, .agg xs), (7, .agg xs), (8, .agg xs), (9, .bool sb), (10, .bool (!sb))]) w) :
    (Code.region id ops true).wp Try.prog Q aZ w0 := by
  obtain ⟨E0, E1, E2, E3, E4⟩ := E
  have hstay : ∀ (i : Nat) (v : Value) (w w1 : World), Mod (fun _ => False) w w1 → (p_rc1 g xs sb) i v w → (p_rc1 g xs sb) i v w1 := fun _ _ _ _ _ h => h
  have s0 : ∀ o, ops[0]? = some o → StepI Try.prog ops (p_rc1 g xs sb) (fun (_ : Array Bool) (_ : Act) (w : World) => Mod (fun _ => False) w0 w) aZ Q 0 o := by
    refine E0.stepI fun o hd ho hg hw => ?_
    intro y w listed hsz hls hun hwt hdown D' hRR hinv K hK
    have f1 : y.eval (Operand.tmp 1) = .pointer (some ⟨g, 0, none⟩)   := (hRR 1 (not_of (by rw [hds]; decide))).trans bS1
    exact .inl ⟨wanted_none hg, wp_value (ox_load (v := .agg xs) ho f1 (ldp (hBk.mod hinv (fun h => h)) hxs)) (hK _ _ (fun _ _ _ _ _ _ h => h) rfl hinv)⟩
  have s1 : ∀ o, ops[1]? = some o → StepI Try.prog ops (p_rc1 g xs sb) (fun (_ : Array Bool) (_ : Act) (w : World) => Mod (fun _ => False) w0 w) aZ Q 1 o := by
    refine E1.stepI fun o hd ho hg hw => ?_
    intro y w listed hsz hls hun hwt hdown D' hRR hinv K hK
    have f1 : y.eval (Operand.tmp 1) = .pointer (some ⟨g, 0, none⟩)   := (hRR 1 (not_of (by rw [hds]; decide))).trans bS1
    exact .inl ⟨wanted_none hg, wp_value (ox_load (v := .agg xs) ho f1 (ldp (hBk.mod hinv (fun h => h)) hxs)) (hK _ _ (fun _ _ _ _ _ _ h => h) rfl hinv)⟩
  have s2 : ∀ o, ops[2]? = some o → StepI Try.prog ops (p_rc1 g xs sb) (fun (_ : Array Bool) (_ : Act) (w : World) => Mod (fun _ => False) w0 w) aZ Q 2 o := by
    refine E2.stepI fun o hd ho hg hw => ?_
    intro y w listed hsz hls hun hwt hdown D' hRR hinv K hK
    have f7 : y.eval (Operand.tmp 7) = .agg xs := E1.postI (Post := (p_rc1 g xs sb)) (a := y) (w := w) D' (hwt 1 (hw 1 (by simp)))
    refine .inl ⟨wanted_none hg, wp_enter (f := 54) (args := #[.agg xs]) ?_ (H2 w  hinv ) ?_⟩
    · have h := exec_call1 y.eval (fun args w => by simp [go_sem]) rfl ho (w := w)
      rw [f7] at h
      exact h
    · rintro e w' ⟨rfl, hm⟩
      exact ⟨_, rfl, hK _ _ (fun j oj d _ _ _ h => hstay _ _ _ _ hm h) rfl (hinv.and hm)⟩
  have s3 : ∀ o, ops[3]? = some o → StepI Try.prog ops (p_rc1 g xs sb) (fun (_ : Array Bool) (_ : Act) (w : World) => Mod (fun _ => False) w0 w) aZ Q 3 o := by
    refine E3.stepI fun o hd ho hg hw => ?_
    intro y w listed hsz hls hun hwt hdown D' hRR hinv K hK
    have f6 : y.eval (Operand.tmp 6) = .agg xs := E0.postI (Post := (p_rc1 g xs sb)) (a := y) (w := w) D' (hwt 0 (hw 0 (by simp)))
    have f8 : y.eval (Operand.tmp 8) = .agg xs := E2.postI (Post := (p_rc1 g xs sb)) (a := y) (w := w) D' (hwt 2 (hw 2 (by simp)))
    refine .inl ⟨wanted_none hg, wp_enter (f := 53) (args := #[.agg xs, .agg xs]) ?_ (H3 w  hinv ) ?_⟩
    · have h := exec_call2 y.eval (fun args w => by simp [go_sem]) rfl ho (w := w)
      rw [f6, f8] at h
      exact h
    · rintro e w' ⟨rfl, hm⟩
      exact ⟨_, rfl, hK _ _ (fun j oj d _ _ _ h => hstay _ _ _ _ hm h) rfl (hinv.and hm)⟩
  have s4 : ∀ o, ops[4]? = some o → StepI Try.prog ops (p_rc1 g xs sb) (fun (_ : Array Bool) (_ : Act) (w : World) => Mod (fun _ => False) w0 w) aZ Q 4 o := by
    refine E4.stepI fun o hd ho hg hw => ?_
    intro y w listed hsz hls hun hwt hdown D' hRR hinv K hK
    have f9 : y.eval (Operand.tmp 9) = .bool sb := E3.postI (Post := (p_rc1 g xs sb)) (a := y) (w := w) D' (hwt 3 (hw 3 (by simp)))
    exact .inl ⟨wanted_none hg, wp_value (ox_not ho f9) (hK _ _ (fun _ _ _ _ _ _ h => h) rfl hinv)⟩
  refine region_freeI (Post := (p_rc1 g xs sb)) (Inv := (fun (_ : Array Bool) (_ : Act) (w : World) => Mod (fun _ => False) w0 w)) mixed (low_of hlow) (fun i o ho => by rw [ha0]; exact dst_of (by rw [hds]; decide) i o ho) (inj_of hnd) (Mod.refl _ _).drew ?_ ?_
  · intro i o ho
    have hi : i < 5 := by
      rw [← hN]
      rcases Nat.lt_or_ge i ops.size with h | h
      · exact h
      · rw [Array.getElem?_eq_none h] at ho; cases ho
    clear hend
    by_cases e0 : i = 0
    · subst e0; exact s0 o ho
    by_cases e1 : i = 1
    · subst e1; exact s1 o ho
    by_cases e2 : i = 2
    · subst e2; exact s2 o ho
    by_cases e3 : i = 3
    · subst e3; exact s3 o ho
    by_cases e4 : i = 4
    · subst e4; exact s4 o ho
    omega
  · intro y w listed hsz hdf hls hall hinv hPO hRE
    have e : y = puts aZ [(6, .agg xs), (7, .agg xs), (8, .agg xs), (9, .bool sb), (10, .bool (!sb))] := by
      refine eq_puts hsz hdf (nodup_of (D := [some 6, some 7, some 8, some 9, some 10]) rfl (by decide)) (by rw [ha0]; simp) ?_ ?_
      · intro q hq
        simp only [List.mem_cons, List.not_mem_nil, or_false] at hq
        rcases hq with rfl | rfl | rfl | rfl | rfl
        · obtain ⟨o, h1, h2, _⟩ := E0.ex
          exact hPO 0 o _ h1 h2
        · obtain ⟨o, h1, h2, _⟩ := E1.ex
          exact hPO 1 o _ h1 h2
        · obtain ⟨o, h1, h2, _⟩ := E2.ex
          exact hPO 2 o _ h1 h2
        · obtain ⟨o, h1, h2, _⟩ := E3.ex
          exact hPO 3 o _ h1 h2
        · obtain ⟨o, h1, h2, _⟩ := E4.ex
          exact hPO 4 o _ h1 h2
      · intro t ht
        exact hRE t (not_of (by rw [hds]; exact not_cont rfl ht))
    rw [e]
    exact hend (fun d => y.tmps.getD d undef) w hinv
set_option maxRecDepth 100000 in
set_option maxHeartbeats 8000000 in
theorem dCheck4 (tw rs rr mm hp : Int) (cao : Option Addr) (ccap : Nat) (ce : List Ey) (w : World) (hs : SlE w (.slice cao ce.length ccap) ce) (hhp : I64 hp) : Calls Try.prog 41 #[.agg (pxC tw rs rr mm hp cao ce.length ccap)] w fun e w' => e = .returned (.int .i64 (if dC ⟨rs, rr, mm, hp, ce⟩ tw = true then 0 else 2)) ∧ Mod (fun _ => False) w w' := by
  have hM := ((Mod.refl (fun _ => False) w).alloc (.cells (pxC tw rs rr mm hp cao ce.length ccap) 73))
  have hb1 := Bk.new w (pxC tw rs rr mm hp cao ce.length ccap) 73
  have hs1 := hs.keep hM
  have HK := kept_c tw rs rr mm hp cao ce.length ccap
  have HSM := fun W h => same_c tw rs rr mm hp cao ccap ce W h
  have HD := fun W h => dCommit rs rr mm hp tw cao ccap ce W h hhp
  generalize dC ⟨rs, rr, mm, hp, ce⟩ tw = R at HD ⊢
  go_enter Try.func41, Try.ntmps41
  go_upto_region 1 with fail
  obtain ⟨W1, hW⟩ : ∃ W1, W1 = w.alloc (.cells (pxC tw rs rr mm hp cao ce.length ccap) 73) := ⟨_, rfl⟩
  rw [← hW] at hM hb1 hs1 ⊢
  clear hW hs
  refine rc1 w.heap.size (pxC tw rs rr mm hp cao ce.length ccap) true ⟨⟨⟨_, rfl, rfl, rfl, rfl, by decide +kernel⟩⟩, ⟨⟨_, rfl, rfl, rfl, rfl, by decide +kernel⟩⟩, ⟨⟨_, rfl, rfl, rfl, rfl, by decide +kernel⟩⟩, ⟨⟨_, rfl, rfl, rfl, rfl, by decide +kernel⟩⟩, ⟨⟨_, rfl, rfl, rfl, rfl, by decide +kernel⟩⟩⟩ rfl (by decide +kernel) rfl (by decide +kernel) rfl rfl hb1 rfl (fun W _ => HK W) (fun W hW => HSM W (hs1.keep hW)) ?_
  intro f w2 hm2
  simp only [puts, Act.put, List.setIfInBounds_toArray, List.set_cons_succ, List.set_cons_zero, Bool.not_true]
  replace hM := hM.and hm2
  replace hb1 := hb1.mod hm2 (fun h => h)
  replace hs1 := hs1.keep hm2
  have a0 := hb1.cellv (j := 0) (v := .int .i64 4) rfl
  have a1 := hb1.cellv (j := 1) (v := .int .i64 tw) rfl
  clear hm2 HK HSM
  generalize Value.agg (pxC tw rs rr mm hp cao ce.length ccap) = PV
  go_wp2_with ((refine wpList_load_rangeg infoC Try.underlying26 rfl rfl _ rfl w.heap.size 32 rfl [.int .i64 rs, .int .i64 rr, .int .i64 mm, .int .i64 hp, .slice cao ce.length ccap] (pxC_range hb1 32 _ rfl) rfl ?_; simp only [Act.put, List.setIfInBounds_toArray, List.set_cons_succ, List.set_cons_zero]))
  refine (HD _ hs1).mono ?_
  rintro e w3 ⟨rfl, hm3⟩
  clear a0 a1 hb1 hs1 HD
  cases R
  · go_wp2
    go_ret
    exact ⟨rfl, hM.and hm3⟩
  · go_wp2
    go_ret
    exact ⟨rfl, hM.and hm3⟩
end Go.Proofs.Ytlekmgjjjniomaa
