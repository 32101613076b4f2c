/- GatherBoth's statement that draws its order and asks two gatherings what they say. Conditions: what is said of the slots that it reads, and of memory. -/
import Derived.Test.YtmfdgbdcbfppcaaDbs
import Derived.Test.YtmfdgbdcbfppcaaFri
namespace Go.Proofs.Ytmfdgbdcbfppcaa
open Go.RowKit
theorem mixedD : Try.prog.follows .mixedOrders = true := by kernel_rfl
theorem ox_allocJ {o : Oper} {ρ : Operand → Value} {w : World} (ho : o.op = .alloc 34) : (execOp ρ o).run Try.prog w = .ok (.value (.pointer (some ⟨w.heap.size, 0, none⟩))) (w.alloc (.cells #[.int .i64 0, .int .i64 0, .int .i64 0] 34)) := by
  simp [execOp, ho, go_sem]
/-- What is said of a slot. -/
def p31 (H qg a b pa pb : Nat) (Ra Rb : Int) (i : Nat) (v : Value) (w : World) : Prop :=
  match i with
  | 0 => v = .int .i64 (a : Int)
  | 1 => v = .pointer (some ⟨qg, a, none⟩)
  | 2 => v = .pointer (some ⟨pa, 0, none⟩)
  | 3 => v = .agg #[.int .i64 (a : Int), .int .i64 Ra, .int .i64 (a : Int)]
  | 4 => v = .int .i64 (b : Int)
  | 5 => v = .pointer (some ⟨qg, b, none⟩)
  | 6 => v = .pointer (some ⟨pb, 0, none⟩)
  | 7 => v = .agg #[.int .i64 (b : Int), .int .i64 Rb, .int .i64 (b : Int)]
  | 8 => ∃ z xs, v = .pointer (some ⟨z, 0, none⟩) ∧ H ≤ z ∧ Bk w z 34 xs ∧ xs.size = 3
  | 9 => ∃ z xs, v = .pointer (some ⟨z, 0, none⟩) ∧ H ≤ z ∧ Bk w z 34 xs ∧ xs.size = 3
  | _ => True
theorem p31_stab (H qg a b pa pb : Nat) (Ra Rb : Int) : ∀ i v w w', Mod (fun _ => False) w w' → p31 H qg a b pa pb Ra Rb i v w → p31 H qg a b pa pb Ra Rb i v w' := by
  intro i v w w' hm h
  unfold p31 at h ⊢
  split at h
  case h_9 =>
    obtain ⟨z, xs, h1, h2, h3, h4⟩ := h
    exact ⟨z, xs, h1, h2, h3.mod hm (fun h => h), h4⟩
  case h_10 =>
    obtain ⟨z, xs, h1, h2, h3, h4⟩ := h
    exact ⟨z, xs, h1, h2, h3.mod hm (fun h => h), h4⟩
  all_goals exact h
/-- What is said of memory. -/
structure I31 (w0 : World) (a b : Nat) (Ra Rb : Int) (listed : Array Bool) (y : Act) (w : World) : Prop where
  mod : Mod (fun _ => False) w0 w
  ne : listed.getD 8 false = true → listed.getD 9 false = true → ∀ z z', y.tmps.getD 17 undef = .pointer (some ⟨z, 0, none⟩) → y.tmps.getD 18 undef = .pointer (some ⟨z', 0, none⟩) → z ≠ z'
  c10 : listed.getD 10 false = true → ∀ z, y.tmps.getD 17 undef = .pointer (some ⟨z, 0, none⟩) → Bk w z 34 #[.int .i64 (a : Int), .int .i64 Ra, .int .i64 (a : Int)]
  c11 : listed.getD 11 false = true → ∀ z, y.tmps.getD 18 undef = .pointer (some ⟨z, 0, none⟩) → Bk w z 34 #[.int .i64 (b : Int), .int .i64 Rb, .int .i64 (b : Int)]
theorem I31.keep {w0 w w' : World} {a b : Nat} {Ra Rb : Int} {listed : Array Bool} {y : Act} (h : I31 w0 a b Ra Rb listed y w) {i : Nat} {d : Tmp} (hl : listed.size = 12) (hi : i < 8) (hd : d ≠ 17 ∧ d ≠ 18) (v : Value) (hm : Mod (fun _ => False) w w') : I31 w0 a b Ra Rb (listed.setIfInBounds i true) (y.put (some d) v) w' := by
  have e : ∀ j, 8 ≤ j → (listed.setIfInBounds i true).getD j false = listed.getD j false := fun j hj => by
    rw [getD_set (by omega), if_neg (by omega)]
  refine ⟨h.mod.and hm, ?_, ?_, ?_⟩
  · rw [e 8 (by omega), e 9 (by omega), put_other hd.1, put_other hd.2]
    exact h.ne
  · rw [e 10 (by omega), put_other hd.1]
    exact fun h1 z hz => (h.c10 h1 z hz).mod hm (fun h => h)
  · rw [e 11 (by omega), put_other hd.2]
    exact fun h1 z hz => (h.c11 h1 z hz).mod hm (fun h => h)
set_option maxRecDepth 100000 in
set_option maxHeartbeats 4000000 in
theorem region31 {ops : Array Oper} {id : Nat} {a0 : Act} {w0 : World} {Q : Exit → Act → World → Prop} (qg a b pa pb : Nat) (Ra Rb : Int)
    (E0 : Is ops 0 (some 99) (Op.move (Operand.tmp 15)) none [])
    (E1 : Is ops 1 (some 100) (Op.indexAddr 43 (Operand.tmp 3) (Operand.tmp 99)) none [0])
    (E2 : Is ops 2 (some 101) (Op.load 23 (Operand.tmp 100)) none [1])
    (E3 : Is ops 3 (some 102) (Op.call { callee := Callee.value (Operand.func 13), args := #[Operand.tmp 101], argTypes := #[23] }) none [2])
    (E4 : Is ops 4 (some 103) (Op.move (Operand.tmp 16)) none [])
    (E5 : Is ops 5 (some 104) (Op.indexAddr 43 (Operand.tmp 3) (Operand.tmp 103)) none [4])
    (E6 : Is ops 6 (some 105) (Op.load 23 (Operand.tmp 104)) none [5])
    (E7 : Is ops 7 (some 106) (Op.call { callee := Callee.value (Operand.func 13), args := #[Operand.tmp 105], argTypes := #[23] }) none [3, 6])
    (E8 : Is ops 8 (some 17) (Op.alloc 34) none [])
    (E9 : Is ops 9 (some 18) (Op.alloc 34) none [])
    (E10 : Is ops 10 none (Op.store 34 (Operand.tmp 17) (Operand.tmp 102)) none [0, 1, 2, 3, 7, 8, 9])
    (E11 : Is ops 11 none (Op.store 34 (Operand.tmp 18) (Operand.tmp 106)) none [0, 1, 2, 3, 4, 5, 6, 7, 8, 9, 10])
    (hN : ops.size = 12) (hlow : lowB ops = true) (hds : dsts ops = [some 99, some 100, some 101, some 102, some 103, some 104, some 105, some 106, some 17, some 18, none, none]) (hnd : injB ops = true)
    (ha0 : a0.tmps.size = 159) (h3 : a0.tmps.getD 3 undef = .pointer (some ⟨qg, 0, none⟩)) (h15 : a0.tmps.getD 15 undef = .int .i64 (a : Int)) (h16 : a0.tmps.getD 16 undef = .int .i64 (b : Int))
    (ha : a < 9) (hb : b < 9) (ca : w0.cell? ⟨qg, a, none⟩ = some (.pointer (some ⟨pa, 0, none⟩))) (cb : w0.cell? ⟨qg, b, none⟩ = some (.pointer (some ⟨pb, 0, none⟩)))
    (HA : ∀ W, Mod (fun _ => False) w0 W → Calls Try.prog 13 #[.pointer (some ⟨pa, 0, none⟩)] W fun e w' => e = .returned (.agg #[.int .i64 (a : Int), .int .i64 Ra, .int .i64 (a : Int)]) ∧ Mod (fun _ => False) W w')
    (HB : ∀ W, Mod (fun _ => False) w0 W → Calls Try.prog 13 #[.pointer (some ⟨pb, 0, none⟩)] W fun e w' => e = .returned (.agg #[.int .i64 (b : Int), .int .i64 Rb, .int .i64 (b : Int)]) ∧ Mod (fun _ => False) W w')
    (hend : ∀ z z' w, Mod (fun _ => False) w0 w → Bk w z 34 #[.int .i64 (a : Int), .int .i64 Ra, .int .i64 (a : Int)] → Bk w z' 34 #[.int .i64 (b : Int), .int .i64 Rb, .int .i64 (b : Int)] → Q .normal (puts a0 [(99, .int .i64 (a : Int)), (100, .pointer (some ⟨qg, a, none⟩)), (101, .pointer (some ⟨pa, 0, none⟩)), (102, .agg #[.int .i64 (a : Int), .int .i64 Ra, .int .i64 (a : Int)]), (103, .int .i64 (b : Int)), (104, .pointer (some ⟨qg, b, none⟩)), (105, .pointer (some ⟨pb, 0, none⟩)), (106, .agg #[.int .i64 (b : Int), .int .i64 Rb, .int .i64 (b : Int)]), (17, .pointer (some ⟨z, 0, none⟩)), (18, .pointer (some ⟨z', 0, none⟩))]) w) :
    (Code.region id ops true).wp Try.prog Q a0 w0 := by
  have idxa : ∀ (W : World), (Instr.indexAt 43 (.pointer (some ⟨qg, 0, none⟩)) (.int .i64 (a : Int))).run Try.prog W = .ok (.pointer (some ⟨qg, a, none⟩)) W := fun W => by
    have hj' : (a : Int) < 9 := by omega
    have hj0 : (0 : Int) ≤ (a : Int) := by omega
    simp [go_sem, hj', hj0]
  have idxb : ∀ (W : World), (Instr.indexAt 43 (.pointer (some ⟨qg, 0, none⟩)) (.int .i64 (b : Int))).run Try.prog W = .ok (.pointer (some ⟨qg, b, none⟩)) W := fun W => by
    have hj' : (b : Int) < 9 := by omega
    have hj0 : (0 : Int) ≤ (b : Int) := by omega
    simp [go_sem, hj', hj0]
  have lda : ∀ (W : World), Mod (fun _ => False) w0 W → (Instr.loadAt 23 (.pointer (some ⟨qg, a, none⟩))).run Try.prog W = .ok (.pointer (some ⟨pa, 0, none⟩)) W := fun W hW => by
    have := hW.cell ca (fun h => h)
    simp [go_sem, this]
  have ldb : ∀ (W : World), Mod (fun _ => False) w0 W → (Instr.loadAt 23 (.pointer (some ⟨qg, b, none⟩))).run Try.prog W = .ok (.pointer (some ⟨pb, 0, none⟩)) W := fun W hW => by
    have := hW.cell cb (fun h => h)
    simp [go_sem, this]
  have s0 : ∀ o, ops[0]? = some o → StepI Try.prog ops (p31 w0.heap.size qg a b pa pb Ra Rb) (I31 w0 a b Ra Rb) a0 Q 0 o := by
    refine E0.stepI fun o hd ho hg hw => ?_
    intro y w listed hsz hls hun hwt hdown D' R hinv K hK
    refine .inl ⟨wanted_none hg, ?_⟩
    have hls12 : listed.size = 12 := hls.trans hN
    have f15 : y.eval (Operand.tmp 15) = .int .i64 (a : Int) := (R 15 (not_of (by rw [hds]; decide))).trans h15
    exact wp_value (ox_move ho f15) (hK _ _ (fun j oj d _ _ _ h => h) rfl (by rw [hd]; exact hinv.keep hls12 (by omega) ⟨by decide, by decide⟩ _ (Mod.refl _ _)))
  have s1 : ∀ o, ops[1]? = some o → StepI Try.prog ops (p31 w0.heap.size qg a b pa pb Ra Rb) (I31 w0 a b Ra Rb) a0 Q 1 o := by
    refine E1.stepI fun o hd ho hg hw => ?_
    intro y w listed hsz hls hun hwt hdown D' R hinv K hK
    refine .inl ⟨wanted_none hg, ?_⟩
    have hls12 : listed.size = 12 := hls.trans hN
    have f3 : y.eval (Operand.tmp 3) = .pointer (some ⟨qg, 0, none⟩) := (R 3 (not_of (by rw [hds]; decide))).trans h3
    have f99 : y.eval (Operand.tmp 99) = .int .i64 (a : Int) := E0.postI (Post := (p31 w0.heap.size qg a b pa pb Ra Rb)) (a := y) (w := w) D' (hwt 0 (hw 0 (by simp)))
    exact wp_value (ox_index ho f3 f99 (idxa w)) (hK _ _ (fun j oj d _ _ _ h => h) rfl (by rw [hd]; exact hinv.keep hls12 (by omega) ⟨by decide, by decide⟩ _ (Mod.refl _ _)))
  have s2 : ∀ o, ops[2]? = some o → StepI Try.prog ops (p31 w0.heap.size qg a b pa pb Ra Rb) (I31 w0 a b Ra Rb) a0 Q 2 o := by
    refine E2.stepI fun o hd ho hg hw => ?_
    intro y w listed hsz hls hun hwt hdown D' R hinv K hK
    refine .inl ⟨wanted_none hg, ?_⟩
    have hls12 : listed.size = 12 := hls.trans hN
    have f100 : y.eval (Operand.tmp 100) = .pointer (some ⟨qg, a, none⟩) := E1.postI (Post := (p31 w0.heap.size qg a b pa pb Ra Rb)) (a := y) (w := w) D' (hwt 1 (hw 1 (by simp)))
    exact wp_value (ox_load ho f100 (lda w hinv.mod)) (hK _ _ (fun j oj d _ _ _ h => h) rfl (by rw [hd]; exact hinv.keep hls12 (by omega) ⟨by decide, by decide⟩ _ (Mod.refl _ _)))
  have s3 : ∀ o, ops[3]? = some o → StepI Try.prog ops (p31 w0.heap.size qg a b pa pb Ra Rb) (I31 w0 a b Ra Rb) a0 Q 3 o := by
    refine E3.stepI fun o hd ho hg hw => ?_
    intro y w listed hsz hls hun hwt hdown D' R hinv K hK
    refine .inl ⟨wanted_none hg, ?_⟩
    have hls12 : listed.size = 12 := hls.trans hN
    have f101 : y.eval (Operand.tmp 101) = .pointer (some ⟨pa, 0, none⟩) := E2.postI (Post := (p31 w0.heap.size qg a b pa pb Ra Rb)) (a := y) (w := w) D' (hwt 2 (hw 2 (by simp)))
    refine wp_enter (f := 13) (args := #[.pointer (some ⟨pa, 0, none⟩)]) ?_ (HA w hinv.mod) ?_
    · rw [exec_call1 y.eval (fun args w => by simp [go_sem]) rfl ho, f101]
    · rintro e w' ⟨rfl, hm⟩
      exact ⟨_, rfl, hK _ _ (fun j oj d _ _ _ h => p31_stab _ _ _ _ _ _ _ _ _ _ _ _ hm h) rfl (by rw [hd]; exact hinv.keep hls12 (by omega) ⟨by decide, by decide⟩ _ hm)⟩
  have s4 : ∀ o, ops[4]? = some o → StepI Try.prog ops (p31 w0.heap.size qg a b pa pb Ra Rb) (I31 w0 a b Ra Rb) a0 Q 4 o := by
    refine E4.stepI fun o hd ho hg hw => ?_
    intro y w listed hsz hls hun hwt hdown D' R hinv K hK
    refine .inl ⟨wanted_none hg, ?_⟩
    have hls12 : listed.size = 12 := hls.trans hN
    have f16 : y.eval (Operand.tmp 16) = .int .i64 (b : Int) := (R 16 (not_of (by rw [hds]; decide))).trans h16
    exact wp_value (ox_move ho f16) (hK _ _ (fun j oj d _ _ _ h => h) rfl (by rw [hd]; exact hinv.keep hls12 (by omega) ⟨by decide, by decide⟩ _ (Mod.refl _ _)))
  have s5 : ∀ o, ops[5]? = some o → StepI Try.prog ops (p31 w0.heap.size qg a b pa pb Ra Rb) (I31 w0 a b Ra Rb) a0 Q 5 o := by
    refine E5.stepI fun o hd ho hg hw => ?_
    intro y w listed hsz hls hun hwt hdown D' R hinv K hK
    refine .inl ⟨wanted_none hg, ?_⟩
    have hls12 : listed.size = 12 := hls.trans hN
    have f3 : y.eval (Operand.tmp 3) = .pointer (some ⟨qg, 0, none⟩) := (R 3 (not_of (by rw [hds]; decide))).trans h3
    have f103 : y.eval (Operand.tmp 103) = .int .i64 (b : Int) := E4.postI (Post := (p31 w0.heap.size qg a b pa pb Ra Rb)) (a := y) (w := w) D' (hwt 4 (hw 4 (by simp)))
    exact wp_value (ox_index ho f3 f103 (idxb w)) (hK _ _ (fun j oj d _ _ _ h => h) rfl (by rw [hd]; exact hinv.keep hls12 (by omega) ⟨by decide, by decide⟩ _ (Mod.refl _ _)))
  have s6 : ∀ o, ops[6]? = some o → StepI Try.prog ops (p31 w0.heap.size qg a b pa pb Ra Rb) (I31 w0 a b Ra Rb) a0 Q 6 o := by
    refine E6.stepI fun o hd ho hg hw => ?_
    intro y w listed hsz hls hun hwt hdown D' R hinv K hK
    refine .inl ⟨wanted_none hg, ?_⟩
    have hls12 : listed.size = 12 := hls.trans hN
    have f104 : y.eval (Operand.tmp 104) = .pointer (some ⟨qg, b, none⟩) := E5.postI (Post := (p31 w0.heap.size qg a b pa pb Ra Rb)) (a := y) (w := w) D' (hwt 5 (hw 5 (by simp)))
    exact wp_value (ox_load ho f104 (ldb w hinv.mod)) (hK _ _ (fun j oj d _ _ _ h => h) rfl (by rw [hd]; exact hinv.keep hls12 (by omega) ⟨by decide, by decide⟩ _ (Mod.refl _ _)))
  have s7 : ∀ o, ops[7]? = some o → StepI Try.prog ops (p31 w0.heap.size qg a b pa pb Ra Rb) (I31 w0 a b Ra Rb) a0 Q 7 o := by
    refine E7.stepI fun o hd ho hg hw => ?_
    intro y w listed hsz hls hun hwt hdown D' R hinv K hK
    refine .inl ⟨wanted_none hg, ?_⟩
    have hls12 : listed.size = 12 := hls.trans hN
    have f105 : y.eval (Operand.tmp 105) = .pointer (some ⟨pb, 0, none⟩) := E6.postI (Post := (p31 w0.heap.size qg a b pa pb Ra Rb)) (a := y) (w := w) D' (hwt 6 (hw 6 (by simp)))
    refine wp_enter (f := 13) (args := #[.pointer (some ⟨pb, 0, none⟩)]) ?_ (HB w hinv.mod) ?_
    · rw [exec_call1 y.eval (fun args w => by simp [go_sem]) rfl ho, f105]
    · rintro e w' ⟨rfl, hm⟩
      exact ⟨_, rfl, hK _ _ (fun j oj d _ _ _ h => p31_stab _ _ _ _ _ _ _ _ _ _ _ _ hm h) rfl (by rw [hd]; exact hinv.keep hls12 (by omega) ⟨by decide, by decide⟩ _ hm)⟩
  have s8 : ∀ o, ops[8]? = some o → StepI Try.prog ops (p31 w0.heap.size qg a b pa pb Ra Rb) (I31 w0 a b Ra Rb) a0 Q 8 o := by
    refine E8.stepI fun o hd ho hg hw => ?_
    intro y w listed hsz hls hun hwt hdown D' R hinv K hK
    refine .inl ⟨wanted_none hg, ?_⟩
    have hls12 : listed.size = 12 := hls.trans hN
    have hA := (Mod.refl (fun _ => False) w).alloc (.cells #[.int .i64 0, .int .i64 0, .int .i64 0] 34)
    have n10 : listed.getD 10 false = false := E10.down hdown (j := 8) (by simp) hun
    have n11 : listed.getD 11 false = false := E11.down hdown (j := 8) (by simp) hun
    have e : ∀ j, j ≠ 8 → (listed.setIfInBounds 8 true).getD j false = listed.getD j false := fun j hj => by
      rw [getD_set (by omega), if_neg (by omega)]
    refine wp_value (ox_allocJ ho) (hK _ _ (fun j oj d _ _ _ h => p31_stab _ _ _ _ _ _ _ _ _ _ _ _ hA h) ⟨w.heap.size, _, rfl, hinv.mod.size, Bk.new w _ _, rfl⟩ ?_)
    rw [hd]
    refine ⟨hinv.mod.and hA, ?_, ?_, ?_⟩
    · rw [e 9 (by omega)]
      intro _ ho2 z z' hz hz'
      obtain ⟨zo, xo, fo, _, hBo, _⟩ := E9.postI (Post := (p31 w0.heap.size qg a b pa pb Ra Rb)) (a := y) (w := w) D' ho2
      have hlt := hBo.lt
      rw [put_other (by decide), fo] at hz'
      rw [put_same (by rw [hsz, ha0]; decide)] at hz
      simp only [Value.pointer.injEq, Option.some.injEq, Addr.mk.injEq] at hz hz'
      omega
    · rw [e 10 (by omega), n10]
      intro h; cases h
    · rw [e 11 (by omega), n11]
      intro h; cases h
  have s9 : ∀ o, ops[9]? = some o → StepI Try.prog ops (p31 w0.heap.size qg a b pa pb Ra Rb) (I31 w0 a b Ra Rb) a0 Q 9 o := by
    refine E9.stepI fun o hd ho hg hw => ?_
    intro y w listed hsz hls hun hwt hdown D' R hinv K hK
    refine .inl ⟨wanted_none hg, ?_⟩
    have hls12 : listed.size = 12 := hls.trans hN
    have hA := (Mod.refl (fun _ => False) w).alloc (.cells #[.int .i64 0, .int .i64 0, .int .i64 0] 34)
    have n10 : listed.getD 10 false = false := E10.down hdown (j := 9) (by simp) hun
    have n11 : listed.getD 11 false = false := E11.down hdown (j := 9) (by simp) hun
    have e : ∀ j, j ≠ 9 → (listed.setIfInBounds 9 true).getD j false = listed.getD j false := fun j hj => by
      rw [getD_set (by omega), if_neg (by omega)]
    refine wp_value (ox_allocJ ho) (hK _ _ (fun j oj d _ _ _ h => p31_stab _ _ _ _ _ _ _ _ _ _ _ _ hA h) ⟨w.heap.size, _, rfl, hinv.mod.size, Bk.new w _ _, rfl⟩ ?_)
    rw [hd]
    refine ⟨hinv.mod.and hA, ?_, ?_, ?_⟩
    · rw [e 8 (by omega)]
      intro ho2 _ z z' hz hz'
      obtain ⟨zo, xo, fo, _, hBo, _⟩ := E8.postI (Post := (p31 w0.heap.size qg a b pa pb Ra Rb)) (a := y) (w := w) D' ho2
      have hlt := hBo.lt
      rw [put_other (by decide), fo] at hz
      rw [put_same (by rw [hsz, ha0]; decide)] at hz'
      simp only [Value.pointer.injEq, Option.some.injEq, Addr.mk.injEq] at hz hz'
      omega
    · rw [e 10 (by omega), n10]
      intro h; cases h
    · rw [e 11 (by omega), n11]
      intro h; cases h
  have s10 : ∀ o, ops[10]? = some o → StepI Try.prog ops (p31 w0.heap.size qg a b pa pb Ra Rb) (I31 w0 a b Ra Rb) a0 Q 10 o := by
    refine E10.stepI fun o hd ho hg hw => ?_
    intro y w listed hsz hls hun hwt hdown D' R hinv K hK
    refine .inl ⟨wanted_none hg, ?_⟩
    have hls12 : listed.size = 12 := hls.trans hN
    obtain ⟨z17, xs17, f17, hz17, hB17, hx17⟩ := E8.postI (Post := (p31 w0.heap.size qg a b pa pb Ra Rb)) (a := y) (w := w) D' (hwt 8 (hw 8 (by simp)))
    have f102 : y.eval (Operand.tmp 102) = .agg #[.int .i64 (a : Int), .int .i64 Ra, .int .i64 (a : Int)] := E3.postI (Post := (p31 w0.heap.size qg a b pa pb Ra Rb)) (a := y) (w := w) D' (hwt 3 (hw 3 (by simp)))
    obtain ⟨zo, xo, fo, hzo, hBo, hxo⟩ := E9.postI (Post := (p31 w0.heap.size qg a b pa pb Ra Rb)) (a := y) (w := w) D' (hwt 9 (hw 9 (by simp)))
    have hne : z17 ≠ zo := (hinv.ne (hwt 8 (hw 8 (by simp))) (hwt 9 (hw 9 (by simp))) z17 zo f17 fo)
    have hS : Mod (fun k => k = z17) w (w.setCells z17 0 [.int .i64 (a : Int), .int .i64 Ra, .int .i64 (a : Int)]) := setCells_mod z17 _ 0 w
    have hW := hB17.whole #[.int .i64 (a : Int), .int .i64 Ra, .int .i64 (a : Int)] (by rw [hx17]; rfl)
    have e : ∀ j, j ≠ 10 → (listed.setIfInBounds 10 true).getD j false = listed.getD j false := fun j hj => by
      rw [getD_set (by omega), if_neg (by omega)]
    refine wp_store_mid (P := Try.prog) 34 _ _ ho z17 0 #[.int .i64 (a : Int), .int .i64 Ra, .int .i64 (a : Int)] f17 f102 (hB17.there (by rw [hx17]; show 0 + 3 ≤ 3; omega)) (by rw [info3c]; rfl) (by rw [← Array.all_toList]; rfl) (hK _ _ ?_ trivial ?_)
    · intro j oj d hj hlj hdj h
      unfold p31 at h ⊢
      split at h
      case h_9 =>
        obtain ⟨z, xs, h1, h2, h3, h4⟩ := h
        by_cases ez : z = z17
        · subst ez; exact ⟨_, _, h1, h2, hW, rfl⟩
        · exact ⟨z, xs, h1, h2, h3.mod hS ez, h4⟩
      case h_10 =>
        obtain ⟨z, xs, h1, h2, h3, h4⟩ := h
        by_cases ez : z = z17
        · subst ez; exact ⟨_, _, h1, h2, hW, rfl⟩
        · exact ⟨z, xs, h1, h2, h3.mod hS ez, h4⟩
      all_goals exact h
    · rw [hd, put_none]
      have hM := hinv.mod.trans hS (V := fun _ => False) (fun _ _ h => h) (fun k hk e => by omega)
      have n11 : listed.getD 11 false = false := E11.down hdown (j := 10) (by simp) hun
      refine ⟨hM, ?_, ?_, ?_⟩
      · rw [e 8 (by omega), e 9 (by omega)]
        exact hinv.ne
      · intro _ zz hzz
        have ez := (show y.tmps.getD 17 undef = _ from f17).symm.trans hzz
        simp only [Value.pointer.injEq, Option.some.injEq, Addr.mk.injEq] at ez
        rw [← ez.1]
        exact hW
      · rw [e 11 (by omega), n11]
        intro h; cases h
  have s11 : ∀ o, ops[11]? = some o → StepI Try.prog ops (p31 w0.heap.size qg a b pa pb Ra Rb) (I31 w0 a b Ra Rb) a0 Q 11 o := by
    refine E11.stepI fun o hd ho hg hw => ?_
    intro y w listed hsz hls hun hwt hdown D' R hinv K hK
    refine .inl ⟨wanted_none hg, ?_⟩
    have hls12 : listed.size = 12 := hls.trans hN
    obtain ⟨z18, xs18, f18, hz18, hB18, hx18⟩ := E9.postI (Post := (p31 w0.heap.size qg a b pa pb Ra Rb)) (a := y) (w := w) D' (hwt 9 (hw 9 (by simp)))
    have f106 : y.eval (Operand.tmp 106) = .agg #[.int .i64 (b : Int), .int .i64 Rb, .int .i64 (b : Int)] := E7.postI (Post := (p31 w0.heap.size qg a b pa pb Ra Rb)) (a := y) (w := w) D' (hwt 7 (hw 7 (by simp)))
    obtain ⟨zo, xo, fo, hzo, hBo, hxo⟩ := E8.postI (Post := (p31 w0.heap.size qg a b pa pb Ra Rb)) (a := y) (w := w) D' (hwt 8 (hw 8 (by simp)))
    have hne : z18 ≠ zo := fun e => hinv.ne (hwt 8 (hw 8 (by simp))) (hwt 9 (hw 9 (by simp))) zo z18 fo f18 e.symm
    have hS : Mod (fun k => k = z18) w (w.setCells z18 0 [.int .i64 (b : Int), .int .i64 Rb, .int .i64 (b : Int)]) := setCells_mod z18 _ 0 w
    have hW := hB18.whole #[.int .i64 (b : Int), .int .i64 Rb, .int .i64 (b : Int)] (by rw [hx18]; rfl)
    have e : ∀ j, j ≠ 11 → (listed.setIfInBounds 11 true).getD j false = listed.getD j false := fun j hj => by
      rw [getD_set (by omega), if_neg (by omega)]
    refine wp_store_mid (P := Try.prog) 34 _ _ ho z18 0 #[.int .i64 (b : Int), .int .i64 Rb, .int .i64 (b : Int)] f18 f106 (hB18.there (by rw [hx18]; show 0 + 3 ≤ 3; omega)) (by rw [info3c]; rfl) (by rw [← Array.all_toList]; rfl) (hK _ _ ?_ trivial ?_)
    · intro j oj d hj hlj hdj h
      unfold p31 at h ⊢
      split at h
      case h_9 =>
        obtain ⟨z, xs, h1, h2, h3, h4⟩ := h
        by_cases ez : z = z18
        · subst ez; exact ⟨_, _, h1, h2, hW, rfl⟩
        · exact ⟨z, xs, h1, h2, h3.mod hS ez, h4⟩
      case h_10 =>
        obtain ⟨z, xs, h1, h2, h3, h4⟩ := h
        by_cases ez : z = z18
        · subst ez; exact ⟨_, _, h1, h2, hW, rfl⟩
        · exact ⟨z, xs, h1, h2, h3.mod hS ez, h4⟩
      all_goals exact h
    · rw [hd, put_none]
      have hM := hinv.mod.trans hS (V := fun _ => False) (fun _ _ h => h) (fun k hk e => by omega)
      refine ⟨hM, ?_, ?_, ?_⟩
      · rw [e 8 (by omega), e 9 (by omega)]
        exact hinv.ne
      · rw [e 10 (by omega)]
        intro h10 zz hzz
        have ez := (show y.tmps.getD 17 undef = _ from fo).symm.trans hzz
        simp only [Value.pointer.injEq, Option.some.injEq, Addr.mk.injEq] at ez
        exact (hinv.c10 h10 zz hzz).mod hS (by omega)
      · intro _ zz hzz
        have ez := (show y.tmps.getD 18 undef = _ from f18).symm.trans hzz
        simp only [Value.pointer.injEq, Option.some.injEq, Addr.mk.injEq] at ez
        rw [← ez.1]
        exact hW
  refine region_freeI (Post := (p31 w0.heap.size qg a b pa pb Ra Rb)) (Inv := (I31 w0 a b Ra Rb)) mixedD (low_of hlow) (fun i o ho => by rw [ha0]; exact dst_of (by rw [hds]; decide) i o ho) (inj_of hnd) ⟨(Mod.refl _ _).drew, ?_, ?_, ?_⟩ ?_ ?_
  · intro h; rw [hN] at h; cases h
  · intro h; rw [hN] at h; cases h
  · intro h; rw [hN] at h; cases h
  · intro i o ho
    have hi : i < 12 := by
      rw [← hN]
      rcases Nat.lt_or_ge i ops.size with h | h
      · exact h
      · rw [Array.getElem?_eq_none h] at ho; cases ho
    clear hend
    by_cases e0 : i = 0
    · subst e0; exact s0 o ho
    by_cases e1 : i = 1
    · subst e1; exact s1 o ho
    by_cases e2 : i = 2
    · subst e2; exact s2 o ho
    by_cases e3 : i = 3
    · subst e3; exact s3 o ho
    by_cases e4 : i = 4
    · subst e4; exact s4 o ho
    by_cases e5 : i = 5
    · subst e5; exact s5 o ho
    by_cases e6 : i = 6
    · subst e6; exact s6 o ho
    by_cases e7 : i = 7
    · subst e7; exact s7 o ho
    by_cases e8 : i = 8
    · subst e8; exact s8 o ho
    by_cases e9 : i = 9
    · subst e9; exact s9 o ho
    by_cases e10 : i = 10
    · subst e10; exact s10 o ho
    by_cases e11 : i = 11
    · subst e11; exact s11 o ho
    omega
  · intro y w listed hsz hdf hls hall hinv hp hr
    have L8 := hall 8 (by rw [hN]; omega)
    have L9 := hall 9 (by rw [hN]; omega)
    have q17 : ∃ z xs, y.tmps.getD 17 undef = .pointer (some ⟨z, 0, none⟩) ∧ w0.heap.size ≤ z ∧ Bk w z 34 xs ∧ xs.size = 3 := by
      obtain ⟨o, h1, h2, _⟩ := E8.ex
      exact hp 8 o _ h1 h2
    have q18 : ∃ z xs, y.tmps.getD 18 undef = .pointer (some ⟨z, 0, none⟩) ∧ w0.heap.size ≤ z ∧ Bk w z 34 xs ∧ xs.size = 3 := by
      obtain ⟨o, h1, h2, _⟩ := E9.ex
      exact hp 9 o _ h1 h2
    obtain ⟨z, _, g17, _⟩ := q17
    obtain ⟨z', _, g18, _⟩ := q18
    have e : y = puts a0 [(99, .int .i64 (a : Int)), (100, .pointer (some ⟨qg, a, none⟩)), (101, .pointer (some ⟨pa, 0, none⟩)), (102, .agg #[.int .i64 (a : Int), .int .i64 Ra, .int .i64 (a : Int)]), (103, .int .i64 (b : Int)), (104, .pointer (some ⟨qg, b, none⟩)), (105, .pointer (some ⟨pb, 0, none⟩)), (106, .agg #[.int .i64 (b : Int), .int .i64 Rb, .int .i64 (b : Int)]), (17, .pointer (some ⟨z, 0, none⟩)), (18, .pointer (some ⟨z', 0, none⟩))] := by
      refine eq_puts hsz hdf (nodup_of (D := [some 99, some 100, some 101, some 102, some 103, some 104, some 105, some 106, some 17, some 18]) rfl (by decide)) (by rw [ha0]; simp) ?_ ?_
      · intro q hq
        simp only [List.mem_cons, List.not_mem_nil, or_false] at hq
        rcases hq with rfl | rfl | rfl | rfl | rfl | rfl | rfl | rfl | rfl | rfl
        · obtain ⟨o, h1, h2, _⟩ := E0.ex
          exact hp 0 o _ h1 h2
        · obtain ⟨o, h1, h2, _⟩ := E1.ex
          exact hp 1 o _ h1 h2
        · obtain ⟨o, h1, h2, _⟩ := E2.ex
          exact hp 2 o _ h1 h2
        · obtain ⟨o, h1, h2, _⟩ := E3.ex
          exact hp 3 o _ h1 h2
        · obtain ⟨o, h1, h2, _⟩ := E4.ex
          exact hp 4 o _ h1 h2
        · obtain ⟨o, h1, h2, _⟩ := E5.ex
          exact hp 5 o _ h1 h2
        · obtain ⟨o, h1, h2, _⟩ := E6.ex
          exact hp 6 o _ h1 h2
        · obtain ⟨o, h1, h2, _⟩ := E7.ex
          exact hp 7 o _ h1 h2
        · exact g17
        · exact g18
      · intro t ht
        refine hr t (not_of ?_)
        rw [hds]
        simp only [List.mem_cons, List.not_mem_nil, or_false, forall_eq_or_imp, forall_eq] at ht
        simp only [List.contains_cons, List.contains_nil, Bool.or_eq_false_iff, beq_eq_false_iff_ne, ne_eq, Option.some.injEq, Bool.or_false]
        simp only [eq_comm (a := t)]
        simp [ht]
    have c10 := hinv.c10 (hall 10 (by rw [hN]; omega)) z g17
    have c11 := hinv.c11 (hall 11 (by rw [hN]; omega)) z' g18
    rw [e]
    exact hend z z' w hinv.mod c10 c11
end Go.Proofs.Ytmfdgbdcbfppcaa
