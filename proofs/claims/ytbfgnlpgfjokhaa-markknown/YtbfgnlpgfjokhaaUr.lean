/- The statement of Unpack that draws its order. Conditions: what is said of the slots that it reads. -/
import Derived.Test.YtbfgnlpgfjokhaaPl
import Derived.Test.YtbfgnlpgfjokhaaFre
namespace Go.Proofs.Ytbfgnlpgfjokhaa
open Go.RowKit
/-- What low answers. -/
def lw (x k : Int) : Int := if k = 40 then wrap64 (bits .and .u64 x 1099511627775) else if k = 36 then wrap64 (bits .and .u64 x 68719476735) else wrap64 (bits .and .u64 x 15)
theorem low (x k : Int) (w : World) (hk : k = 40 ∨ k = 36 ∨ k = 4) : Calls Try.prog 29 #[.int .u64 x, .int .i64 k] w fun e w' => e = .returned (.int .i64 (lw x k)) ∧ w' = w := by
  rcases hk with rfl | rfl | rfl
  · have e : lw x 40 = wrap64 (bits .and .u64 x 1099511627775) := by rw [lw, if_pos rfl]
    have E : Hid (lw x 40 = wrap64 (bits .and .u64 x 1099511627775)) := e
    generalize lw x 40 = z at E ⊢
    clear e
    go_enter Try.func29, Try.ntmps29
    go_wp2
    go_ret
    exact ⟨by rw [E.out]; rfl, rfl⟩
  · have e : lw x 36 = wrap64 (bits .and .u64 x 68719476735) := by rw [lw, if_neg (by decide), if_pos rfl]
    have E : Hid (lw x 36 = wrap64 (bits .and .u64 x 68719476735)) := e
    generalize lw x 36 = z at E ⊢
    clear e
    go_enter Try.func29, Try.ntmps29
    go_wp2
    go_ret
    exact ⟨by rw [E.out]; rfl, rfl⟩
  · have e : lw x 4 = wrap64 (bits .and .u64 x 15) := by rw [lw, if_neg (by decide), if_neg (by decide)]
    have E : Hid (lw x 4 = wrap64 (bits .and .u64 x 15)) := e
    generalize lw x 4 = z at E ⊢
    clear e
    go_enter Try.func29, Try.ntmps29
    go_wp2
    go_ret
    exact ⟨by rw [E.out]; rfl, rfl⟩
section
variable {o : Oper} {w : World} {ρ : Operand → Value} {x y : Operand} (hc : ∀ v, ρ (.const v) = v)
theorem ex_shr16 {a : Int} (ho : o.op = .binOp .shr 33 x (.const (.int .u64 16)) 51) (hx : ρ x = .int .u64 a) (hc : ∀ v, ρ (.const v) = v) : (execOp ρ o).run Try.prog w = .ok (.value (.int .u64 (a / 65536))) w := by
  simp [execOp, ho, hx, hc, go_sem]
theorem ex_shr40 {a : Int} (ho : o.op = .binOp .shr 33 x (.const (.int .u64 40)) 51) (hx : ρ x = .int .u64 a) (hc : ∀ v, ρ (.const v) = v) : (execOp ρ o).run Try.prog w = .ok (.value (.int .u64 (a / 1099511627776))) w := by
  simp [execOp, ho, hx, hc, go_sem]
theorem ex_shr36 {a : Int} (ho : o.op = .binOp .shr 33 x (.const (.int .u64 36)) 51) (hx : ρ x = .int .u64 a) (hc : ∀ v, ρ (.const v) = v) : (execOp ρ o).run Try.prog w = .ok (.value (.int .u64 (a / 68719476736))) w := by
  simp [execOp, ho, hx, hc, go_sem]
theorem ex_shl24 {a : Int} (ho : o.op = .binOp .shl 33 x (.const (.int .u64 24)) 51) (hx : ρ x = .int .u64 a) (hc : ∀ v, ρ (.const v) = v) : (execOp ρ o).run Try.prog w = .ok (.value (.int .u64 (IntKind.u64.wrap (a * 16777216)))) w := by
  simp [execOp, ho, hx, hc, go_sem]
theorem ex_or {a b : Int} (ho : o.op = .binOp .or 33 x y 33) (hx : ρ x = .int .u64 a) (hy : ρ y = .int .u64 b) : (execOp ρ o).run Try.prog w = .ok (.value (.int .u64 (bits .or .u64 a b))) w := by
  simp [execOp, ho, hx, hy, go_sem]
theorem ex_index {b : Nat} {i : Nat} (hi : i < 2) (ho : o.op = .indexAddr 34 x (.const (.int .i64 i))) (hx : ρ x = .pointer (some ⟨b, 0, none⟩)) (hc : ∀ v, ρ (.const v) = v) : (execOp ρ o).run Try.prog w = .ok (.value (.pointer (some ⟨b, i, none⟩))) w := by
  rcases (show i = 0 ∨ i = 1 by omega) with rfl | rfl <;> simp [execOp, ho, hx, hc, go_sem]
theorem ex_load33 {p : Addr} {v : Int} (ho : o.op = .load 33 x) (hx : ρ x = .pointer (some p)) (h : w.cell? p = some (.int .u64 v)) : (execOp ρ o).run Try.prog w = .ok (.value (.int .u64 v)) w := by
  simp [execOp, ho, hx, h, go_sem]
theorem ex_build23 {a b : Int} (ho : o.op = .build 23 #[(0, x), (1, y)]) (hx : ρ x = .int .i64 a) (hy : ρ y = .int .i64 b) : (execOp ρ o).run Try.prog w = .ok (.value (.agg #[.int .i64 a, .int .i64 b])) w := by
  simp [execOp, ho, hx, hy, go_sem]
theorem ex_build25 {z : Operand} {a b c d : Int} (ho : o.op = .build 25 #[(0, x), (1, y), (2, z)]) (hx : ρ x = .int .i64 a) (hy : ρ y = .agg #[.int .i64 b, .int .i64 c]) (hz : ρ z = .int .i64 d) : (execOp ρ o).run Try.prog w = .ok (.value (.agg #[.int .i64 a, .int .i64 b, .int .i64 c, .int .i64 d])) w := by
  simp [execOp, ho, hx, hy, hz, go_sem]
theorem ex_alloc25 (ho : o.op = .alloc 25) : (execOp ρ o).run Try.prog w = .ok (.value (.pointer (some ⟨w.heap.size, 0, none⟩))) (w.alloc (.cells #[.int .i64 0, .int .i64 0, .int .i64 0, .int .i64 0] 25)) := by
  simp [execOp, ho, go_sem]
theorem ex_store25 {a b c d : Int} (ho : o.op = .store 25 x y) (hx : ρ x = .pointer (some ⟨w.heap.size, 0, none⟩)) (hy : ρ y = .agg #[.int .i64 a, .int .i64 b, .int .i64 c, .int .i64 d]) :
    (execOp ρ o).run Try.prog (w.alloc (.cells #[.int .i64 0, .int .i64 0, .int .i64 0, .int .i64 0] 25)) = .ok .skip (w.alloc (.cells #[.int .i64 a, .int .i64 b, .int .i64 c, .int .i64 d] 25)) := by
  simp [execOp, ho, hx, hy, go_sem]
theorem cf29 (args : Array Value) (w : World) : (callFunc 29 args).run Try.prog w = .ok (.enter 29 args) w := by simp [go_sem]
theorem ex_call2 {f : FuncId} (hcf : ∀ args w, (callFunc f args).run Try.prog w = .ok (.enter f args) w) (hf : ρ (.func f) = .func (.func f) #[] #[]) {ts : Array TypeId} (ho : o.op = .call { callee := .value (.func f), args := #[x, y], argTypes := ts }) : (execOp ρ o).run Try.prog w = .ok (.enter f #[ρ x, ρ y]) w := by
  simp [execOp, ho, resolve, invoke, hf, go_sem, hcf]
end
def vals20 (a b A1 A2 B1 C B2 : Int) (l : Int → Int → Int) (p : Nat) (W : World) : Nat → Value
  | 0 => .pointer (some ⟨p, 0, none⟩)
  | 1 => .int .u64 a
  | 2 => .int .u64 A1
  | 3 => .int .i64 (l A1 40)
  | 4 => .pointer (some ⟨p, 0, none⟩)
  | 5 => .int .u64 a
  | 6 => .int .u64 A2
  | 7 => .pointer (some ⟨p, 1, none⟩)
  | 8 => .int .u64 b
  | 9 => .int .u64 B1
  | 10 => .int .u64 C
  | 11 => .int .i64 (l C 40)
  | 12 => .pointer (some ⟨p, 1, none⟩)
  | 13 => .int .u64 b
  | 14 => .int .u64 B2
  | 15 => .int .i64 (l B2 4)
  | 16 => .agg #[.int .i64 (l C 40), .int .i64 (l B2 4)]
  | 17 => .pointer (some ⟨p, 1, none⟩)
  | 18 => .int .u64 b
  | 19 => .int .i64 (l b 36)
  | 20 => .agg #[.int .i64 (l A1 40), .int .i64 (l C 40), .int .i64 (l B2 4), .int .i64 (l b 36)]
  | 21 => .pointer (some ⟨W.heap.size, 0, none⟩)
  | _ => undef
def inv20 (_a b A1 _A2 _B1 C B2 : Int) (l : Int → Int → Int) (_p : Nat) (W : World) (listed : Array Bool) (w : World) : Prop :=
  w = if listed.getD 22 false = true then W.alloc (.cells #[.int .i64 (l A1 40), .int .i64 (l C 40), .int .i64 (l B2 4), .int .i64 (l b 36)] 25) else if listed.getD 21 false = true then W.alloc (.cells #[.int .i64 0, .int .i64 0, .int .i64 0, .int .i64 0] 25) else W
theorem inv20_cell {a b A1 A2 B1 C B2 : Int} {l : Int → Int → Int} {p : Nat} {W : World} {listed : Array Bool} {w : World} (h : inv20 a b A1 A2 B1 C B2 l p W listed w) {q : Addr} {v : Value} (hc : W.cell? q = some v) : w.cell? q = some v := by
  unfold inv20 at h
  subst h
  have hm : Mod (fun _ => False) W (W.alloc (.cells #[.int .i64 (l A1 40), .int .i64 (l C 40), .int .i64 (l B2 4), .int .i64 (l b 36)] 25)) := (Mod.refl _ _).alloc _
  have hm2 : Mod (fun _ => False) W (W.alloc (.cells #[.int .i64 0, .int .i64 0, .int .i64 0, .int .i64 0] 25)) := (Mod.refl _ _).alloc _
  split
  · exact hm.cell hc (fun h => h)
  · split
    · exact hm2.cell hc (fun h => h)
    · exact hc
theorem inv20_same {a b A1 A2 B1 C B2 : Int} {l : Int → Int → Int} {p : Nat} {W : World} {listed : Array Bool} {w : World} (h : inv20 a b A1 A2 B1 C B2 l p W listed w) (i : Nat) (hi : i < 21) (hl : listed.size = 23) : inv20 a b A1 A2 B1 C B2 l p W (listed.setIfInBounds i true) w := by
  unfold inv20 at h ⊢
  rw [getD_set (by omega), getD_set (by omega), if_neg (show ¬ i = 22 by omega), if_neg (show ¬ i = 21 by omega)]
  exact h
set_option maxRecDepth 100000 in
set_option maxHeartbeats 4000000 in
theorem region20 {ops : Array Oper} {id : Nat} {a0 : Act} {w0 : World} {Q : Exit → Act → World → Prop} (a b A1 A2 B1 C B2 : Int) (l : Int → Int → Int) (p : Nat) 
    (E0 : Is ops 0 (some 11) (Op.indexAddr 34 (Operand.tmp 1) (Operand.const (Value.int IntKind.i64 0))) none [])
    (E1 : Is ops 1 (some 12) (Op.load 33 (Operand.tmp 11)) none [0])
    (E2 : Is ops 2 (some 13) (Op.binOp BinOp.shr 33 (Operand.tmp 12) (Operand.const (Value.int IntKind.u64 16)) 51) none [1])
    (E3 : Is ops 3 (some 14) (Op.call { callee := Callee.value (Operand.func 29), args := #[Operand.tmp 13, Operand.const (Value.int IntKind.i64 40)], argTypes := #[33, 3] }) none [2])
    (E4 : Is ops 4 (some 15) (Op.indexAddr 34 (Operand.tmp 1) (Operand.const (Value.int IntKind.i64 0))) none [])
    (E5 : Is ops 5 (some 16) (Op.load 33 (Operand.tmp 15)) none [4])
    (E6 : Is ops 6 (some 17) (Op.binOp BinOp.shl 33 (Operand.tmp 16) (Operand.const (Value.int IntKind.u64 24)) 51) none [5])
    (E7 : Is ops 7 (some 18) (Op.indexAddr 34 (Operand.tmp 1) (Operand.const (Value.int IntKind.i64 1))) none [])
    (E8 : Is ops 8 (some 19) (Op.load 33 (Operand.tmp 18)) none [7])
    (E9 : Is ops 9 (some 20) (Op.binOp BinOp.shr 33 (Operand.tmp 19) (Operand.const (Value.int IntKind.u64 40)) 51) none [8])
    (E10 : Is ops 10 (some 21) (Op.binOp BinOp.or 33 (Operand.tmp 17) (Operand.tmp 20) 33) none [6, 9])
    (E11 : Is ops 11 (some 22) (Op.call { callee := Callee.value (Operand.func 29), args := #[Operand.tmp 21, Operand.const (Value.int IntKind.i64 40)], argTypes := #[33, 3] }) none [3, 10])
    (E12 : Is ops 12 (some 23) (Op.indexAddr 34 (Operand.tmp 1) (Operand.const (Value.int IntKind.i64 1))) none [])
    (E13 : Is ops 13 (some 24) (Op.load 33 (Operand.tmp 23)) none [12])
    (E14 : Is ops 14 (some 25) (Op.binOp BinOp.shr 33 (Operand.tmp 24) (Operand.const (Value.int IntKind.u64 36)) 51) none [13])
    (E15 : Is ops 15 (some 26) (Op.call { callee := Callee.value (Operand.func 29), args := #[Operand.tmp 25, Operand.const (Value.int IntKind.i64 4)], argTypes := #[33, 3] }) none [11, 14])
    (E16 : Is ops 16 (some 27) (Op.build 23 #[(0, Operand.tmp 22), (1, Operand.tmp 26)]) none [11, 15])
    (E17 : Is ops 17 (some 28) (Op.indexAddr 34 (Operand.tmp 1) (Operand.const (Value.int IntKind.i64 1))) none [])
    (E18 : Is ops 18 (some 29) (Op.load 33 (Operand.tmp 28)) none [17])
    (E19 : Is ops 19 (some 30) (Op.call { callee := Callee.value (Operand.func 29), args := #[Operand.tmp 29, Operand.const (Value.int IntKind.i64 36)], argTypes := #[33, 3] }) none [15, 18])
    (E20 : Is ops 20 (some 31) (Op.build 25 #[(0, Operand.tmp 14), (1, Operand.tmp 27), (2, Operand.tmp 30)]) none [3, 16, 19])
    (E21 : Is ops 21 (some 4) (Op.alloc 25) none [])
    (E22 : Is ops 22 (none) (Op.store 25 (Operand.tmp 4) (Operand.tmp 31)) none [19, 20, 21])
    (hN : ops.size = 23) (hlow : lowB ops = true) (hds : ((dsts ops).all fun d => (d.map fun t => decide (t < 39)).getD true) = true) (hnd : injB ops = true) (hb1 : (dsts ops).contains (some 1) = false)
    (hmx : Try.prog.follows .mixedOrders = true) (ha0 : a0.tmps.size = 39) (h1 : a0.tmps.getD 1 undef = .pointer (some ⟨p, 0, none⟩))
    (c0 : w0.cell? ⟨p, 0, none⟩ = some (.int .u64 a)) (c1 : w0.cell? ⟨p, 1, none⟩ = some (.int .u64 b))
    (L : ∀ (x k : Int) (w : World), k = 40 ∨ k = 36 ∨ k = 4 → Calls Try.prog 29 #[.int .u64 x, .int .i64 k] w fun e w' => e = .returned (.int .i64 (l x k)) ∧ w' = w)
    (k1 : a / 65536 = A1) (k2 : IntKind.u64.wrap (a * 16777216) = A2) (k3 : b / 1099511627776 = B1) (k4 : bits .or .u64 A2 B1 = C) (k5 : b / 68719476736 = B2)
    (hend : ∀ x, x.tmps.size = a0.tmps.size → x.defers = a0.defers → x.tmps.getD 4 undef = .pointer (some ⟨w0.heap.size, 0, none⟩) → (∀ t, t < 4 → x.tmps.getD t undef = a0.tmps.getD t undef) → Q .normal x (w0.drew.alloc (.cells #[.int .i64 (l A1 40), .int .i64 (l C 40), .int .i64 (l B2 4), .int .i64 (l b 36)] 25)))
    (hb0 : (dsts ops).contains (some 0) = false) (hb2 : (dsts ops).contains (some 2) = false) (hb3 : (dsts ops).contains (some 3) = false) :
    (Code.region id ops true).wp Try.prog Q a0 w0 := by
  have s0 : ∀ o, ops[0]? = some o → Step Try.prog ops (fun i v => v = vals20 a b A1 A2 B1 C B2 l p w0.drew i) (inv20 a b A1 A2 B1 C B2 l p w0.drew) a0 Q 0 o := by
    refine E0.step fun o hd ho hg hw => ?_
    intro x w listed hsz hls hun hwt hdown D R hinv K hK
    refine ⟨wanted_none hg, ?_⟩
    rw [hN] at hls
    have hi := inv20_same hinv 0 (by omega) hls
    have fb : x.tmps.getD 1 undef = .pointer (some ⟨p, 0, none⟩) := (R 1 (not_of hb1)).trans h1
    exact wp_value (ex_index (i := 0) (by omega) ho fb (fun _ => rfl)) (hK _ _ rfl hi)
  have s1 : ∀ o, ops[1]? = some o → Step Try.prog ops (fun i v => v = vals20 a b A1 A2 B1 C B2 l p w0.drew i) (inv20 a b A1 A2 B1 C B2 l p w0.drew) a0 Q 1 o := by
    refine E1.step fun o hd ho hg hw => ?_
    intro x w listed hsz hls hun hwt hdown D R hinv K hK
    refine ⟨wanted_none hg, ?_⟩
    rw [hN] at hls
    have f0 : x.tmps.getD 11 undef = .pointer (some ⟨p, 0, none⟩) := E0.post (Post := fun i v => v = vals20 a b A1 A2 B1 C B2 l p w0.drew i) (a := x) D (hw 0 (by simp))
    have hi := inv20_same hinv 1 (by omega) hls
    exact wp_value (ex_load33 ho f0 (inv20_cell hinv c0)) (hK _ _ rfl hi)
  have s2 : ∀ o, ops[2]? = some o → Step Try.prog ops (fun i v => v = vals20 a b A1 A2 B1 C B2 l p w0.drew i) (inv20 a b A1 A2 B1 C B2 l p w0.drew) a0 Q 2 o := by
    refine E2.step fun o hd ho hg hw => ?_
    intro x w listed hsz hls hun hwt hdown D R hinv K hK
    refine ⟨wanted_none hg, ?_⟩
    rw [hN] at hls
    have f1 : x.tmps.getD 12 undef = .int .u64 a := E1.post (Post := fun i v => v = vals20 a b A1 A2 B1 C B2 l p w0.drew i) (a := x) D (hw 1 (by simp))
    have hi := inv20_same hinv 2 (by omega) hls
    refine wp_value (ex_shr16 ho f1 (fun _ => rfl)) ?_
    rw [k1]
    exact hK _ _ rfl hi
  have s3 : ∀ o, ops[3]? = some o → Step Try.prog ops (fun i v => v = vals20 a b A1 A2 B1 C B2 l p w0.drew i) (inv20 a b A1 A2 B1 C B2 l p w0.drew) a0 Q 3 o := by
    refine E3.step fun o hd ho hg hw => ?_
    intro x w listed hsz hls hun hwt hdown D R hinv K hK
    refine ⟨wanted_none hg, ?_⟩
    rw [hN] at hls
    have f2 : x.tmps.getD 13 undef = .int .u64 A1 := E2.post (Post := fun i v => v = vals20 a b A1 A2 B1 C B2 l p w0.drew i) (a := x) D (hw 2 (by simp))
    have hi := inv20_same hinv 3 (by omega) hls
    have hc : Calls Try.prog 29 #[x.eval (.tmp 13), x.eval (.const (.int .i64 40))] w fun e w' => e = .returned (.int .i64 (l A1 40)) ∧ w' = w := by
      rw [show x.eval (.tmp 13) = .int .u64 A1 from f2]
      exact L _ 40 w (by simp)
    exact wp_enter (ex_call2 cf29 rfl ho) hc (by rintro e w' ⟨rfl, rfl⟩; exact ⟨_, rfl, hK _ _ rfl hi⟩)
  have s4 : ∀ o, ops[4]? = some o → Step Try.prog ops (fun i v => v = vals20 a b A1 A2 B1 C B2 l p w0.drew i) (inv20 a b A1 A2 B1 C B2 l p w0.drew) a0 Q 4 o := by
    refine E4.step fun o hd ho hg hw => ?_
    intro x w listed hsz hls hun hwt hdown D R hinv K hK
    refine ⟨wanted_none hg, ?_⟩
    rw [hN] at hls
    have hi := inv20_same hinv 4 (by omega) hls
    have fb : x.tmps.getD 1 undef = .pointer (some ⟨p, 0, none⟩) := (R 1 (not_of hb1)).trans h1
    exact wp_value (ex_index (i := 0) (by omega) ho fb (fun _ => rfl)) (hK _ _ rfl hi)
  have s5 : ∀ o, ops[5]? = some o → Step Try.prog ops (fun i v => v = vals20 a b A1 A2 B1 C B2 l p w0.drew i) (inv20 a b A1 A2 B1 C B2 l p w0.drew) a0 Q 5 o := by
    refine E5.step fun o hd ho hg hw => ?_
    intro x w listed hsz hls hun hwt hdown D R hinv K hK
    refine ⟨wanted_none hg, ?_⟩
    rw [hN] at hls
    have f4 : x.tmps.getD 15 undef = .pointer (some ⟨p, 0, none⟩) := E4.post (Post := fun i v => v = vals20 a b A1 A2 B1 C B2 l p w0.drew i) (a := x) D (hw 4 (by simp))
    have hi := inv20_same hinv 5 (by omega) hls
    exact wp_value (ex_load33 ho f4 (inv20_cell hinv c0)) (hK _ _ rfl hi)
  have s6 : ∀ o, ops[6]? = some o → Step Try.prog ops (fun i v => v = vals20 a b A1 A2 B1 C B2 l p w0.drew i) (inv20 a b A1 A2 B1 C B2 l p w0.drew) a0 Q 6 o := by
    refine E6.step fun o hd ho hg hw => ?_
    intro x w listed hsz hls hun hwt hdown D R hinv K hK
    refine ⟨wanted_none hg, ?_⟩
    rw [hN] at hls
    have f5 : x.tmps.getD 16 undef = .int .u64 a := E5.post (Post := fun i v => v = vals20 a b A1 A2 B1 C B2 l p w0.drew i) (a := x) D (hw 5 (by simp))
    have hi := inv20_same hinv 6 (by omega) hls
    refine wp_value (ex_shl24 ho f5 (fun _ => rfl)) ?_
    rw [k2]
    exact hK _ _ rfl hi
  have s7 : ∀ o, ops[7]? = some o → Step Try.prog ops (fun i v => v = vals20 a b A1 A2 B1 C B2 l p w0.drew i) (inv20 a b A1 A2 B1 C B2 l p w0.drew) a0 Q 7 o := by
    refine E7.step fun o hd ho hg hw => ?_
    intro x w listed hsz hls hun hwt hdown D R hinv K hK
    refine ⟨wanted_none hg, ?_⟩
    rw [hN] at hls
    have hi := inv20_same hinv 7 (by omega) hls
    have fb : x.tmps.getD 1 undef = .pointer (some ⟨p, 0, none⟩) := (R 1 (not_of hb1)).trans h1
    exact wp_value (ex_index (i := 1) (by omega) ho fb (fun _ => rfl)) (hK _ _ rfl hi)
  have s8 : ∀ o, ops[8]? = some o → Step Try.prog ops (fun i v => v = vals20 a b A1 A2 B1 C B2 l p w0.drew i) (inv20 a b A1 A2 B1 C B2 l p w0.drew) a0 Q 8 o := by
    refine E8.step fun o hd ho hg hw => ?_
    intro x w listed hsz hls hun hwt hdown D R hinv K hK
    refine ⟨wanted_none hg, ?_⟩
    rw [hN] at hls
    have f7 : x.tmps.getD 18 undef = .pointer (some ⟨p, 1, none⟩) := E7.post (Post := fun i v => v = vals20 a b A1 A2 B1 C B2 l p w0.drew i) (a := x) D (hw 7 (by simp))
    have hi := inv20_same hinv 8 (by omega) hls
    exact wp_value (ex_load33 ho f7 (inv20_cell hinv c1)) (hK _ _ rfl hi)
  have s9 : ∀ o, ops[9]? = some o → Step Try.prog ops (fun i v => v = vals20 a b A1 A2 B1 C B2 l p w0.drew i) (inv20 a b A1 A2 B1 C B2 l p w0.drew) a0 Q 9 o := by
    refine E9.step fun o hd ho hg hw => ?_
    intro x w listed hsz hls hun hwt hdown D R hinv K hK
    refine ⟨wanted_none hg, ?_⟩
    rw [hN] at hls
    have f8 : x.tmps.getD 19 undef = .int .u64 b := E8.post (Post := fun i v => v = vals20 a b A1 A2 B1 C B2 l p w0.drew i) (a := x) D (hw 8 (by simp))
    have hi := inv20_same hinv 9 (by omega) hls
    refine wp_value (ex_shr40 ho f8 (fun _ => rfl)) ?_
    rw [k3]
    exact hK _ _ rfl hi
  have s10 : ∀ o, ops[10]? = some o → Step Try.prog ops (fun i v => v = vals20 a b A1 A2 B1 C B2 l p w0.drew i) (inv20 a b A1 A2 B1 C B2 l p w0.drew) a0 Q 10 o := by
    refine E10.step fun o hd ho hg hw => ?_
    intro x w listed hsz hls hun hwt hdown D R hinv K hK
    refine ⟨wanted_none hg, ?_⟩
    rw [hN] at hls
    have f6 : x.tmps.getD 17 undef = .int .u64 A2 := E6.post (Post := fun i v => v = vals20 a b A1 A2 B1 C B2 l p w0.drew i) (a := x) D (hw 6 (by simp))
    have f9 : x.tmps.getD 20 undef = .int .u64 B1 := E9.post (Post := fun i v => v = vals20 a b A1 A2 B1 C B2 l p w0.drew i) (a := x) D (hw 9 (by simp))
    have hi := inv20_same hinv 10 (by omega) hls
    refine wp_value (ex_or ho f6 f9) ?_
    rw [k4]
    exact hK _ _ rfl hi
  have s11 : ∀ o, ops[11]? = some o → Step Try.prog ops (fun i v => v = vals20 a b A1 A2 B1 C B2 l p w0.drew i) (inv20 a b A1 A2 B1 C B2 l p w0.drew) a0 Q 11 o := by
    refine E11.step fun o hd ho hg hw => ?_
    intro x w listed hsz hls hun hwt hdown D R hinv K hK
    refine ⟨wanted_none hg, ?_⟩
    rw [hN] at hls
    have f3 : x.tmps.getD 14 undef = .int .i64 (l A1 40) := E3.post (Post := fun i v => v = vals20 a b A1 A2 B1 C B2 l p w0.drew i) (a := x) D (hw 3 (by simp))
    have f10 : x.tmps.getD 21 undef = .int .u64 C := E10.post (Post := fun i v => v = vals20 a b A1 A2 B1 C B2 l p w0.drew i) (a := x) D (hw 10 (by simp))
    have hi := inv20_same hinv 11 (by omega) hls
    have hc : Calls Try.prog 29 #[x.eval (.tmp 21), x.eval (.const (.int .i64 40))] w fun e w' => e = .returned (.int .i64 (l C 40)) ∧ w' = w := by
      rw [show x.eval (.tmp 21) = .int .u64 C from f10]
      exact L _ 40 w (by simp)
    exact wp_enter (ex_call2 cf29 rfl ho) hc (by rintro e w' ⟨rfl, rfl⟩; exact ⟨_, rfl, hK _ _ rfl hi⟩)
  have s12 : ∀ o, ops[12]? = some o → Step Try.prog ops (fun i v => v = vals20 a b A1 A2 B1 C B2 l p w0.drew i) (inv20 a b A1 A2 B1 C B2 l p w0.drew) a0 Q 12 o := by
    refine E12.step fun o hd ho hg hw => ?_
    intro x w listed hsz hls hun hwt hdown D R hinv K hK
    refine ⟨wanted_none hg, ?_⟩
    rw [hN] at hls
    have hi := inv20_same hinv 12 (by omega) hls
    have fb : x.tmps.getD 1 undef = .pointer (some ⟨p, 0, none⟩) := (R 1 (not_of hb1)).trans h1
    exact wp_value (ex_index (i := 1) (by omega) ho fb (fun _ => rfl)) (hK _ _ rfl hi)
  have s13 : ∀ o, ops[13]? = some o → Step Try.prog ops (fun i v => v = vals20 a b A1 A2 B1 C B2 l p w0.drew i) (inv20 a b A1 A2 B1 C B2 l p w0.drew) a0 Q 13 o := by
    refine E13.step fun o hd ho hg hw => ?_
    intro x w listed hsz hls hun hwt hdown D R hinv K hK
    refine ⟨wanted_none hg, ?_⟩
    rw [hN] at hls
    have f12 : x.tmps.getD 23 undef = .pointer (some ⟨p, 1, none⟩) := E12.post (Post := fun i v => v = vals20 a b A1 A2 B1 C B2 l p w0.drew i) (a := x) D (hw 12 (by simp))
    have hi := inv20_same hinv 13 (by omega) hls
    exact wp_value (ex_load33 ho f12 (inv20_cell hinv c1)) (hK _ _ rfl hi)
  have s14 : ∀ o, ops[14]? = some o → Step Try.prog ops (fun i v => v = vals20 a b A1 A2 B1 C B2 l p w0.drew i) (inv20 a b A1 A2 B1 C B2 l p w0.drew) a0 Q 14 o := by
    refine E14.step fun o hd ho hg hw => ?_
    intro x w listed hsz hls hun hwt hdown D R hinv K hK
    refine ⟨wanted_none hg, ?_⟩
    rw [hN] at hls
    have f13 : x.tmps.getD 24 undef = .int .u64 b := E13.post (Post := fun i v => v = vals20 a b A1 A2 B1 C B2 l p w0.drew i) (a := x) D (hw 13 (by simp))
    have hi := inv20_same hinv 14 (by omega) hls
    refine wp_value (ex_shr36 ho f13 (fun _ => rfl)) ?_
    rw [k5]
    exact hK _ _ rfl hi
  have s15 : ∀ o, ops[15]? = some o → Step Try.prog ops (fun i v => v = vals20 a b A1 A2 B1 C B2 l p w0.drew i) (inv20 a b A1 A2 B1 C B2 l p w0.drew) a0 Q 15 o := by
    refine E15.step fun o hd ho hg hw => ?_
    intro x w listed hsz hls hun hwt hdown D R hinv K hK
    refine ⟨wanted_none hg, ?_⟩
    rw [hN] at hls
    have f11 : x.tmps.getD 22 undef = .int .i64 (l C 40) := E11.post (Post := fun i v => v = vals20 a b A1 A2 B1 C B2 l p w0.drew i) (a := x) D (hw 11 (by simp))
    have f14 : x.tmps.getD 25 undef = .int .u64 B2 := E14.post (Post := fun i v => v = vals20 a b A1 A2 B1 C B2 l p w0.drew i) (a := x) D (hw 14 (by simp))
    have hi := inv20_same hinv 15 (by omega) hls
    have hc : Calls Try.prog 29 #[x.eval (.tmp 25), x.eval (.const (.int .i64 4))] w fun e w' => e = .returned (.int .i64 (l B2 4)) ∧ w' = w := by
      rw [show x.eval (.tmp 25) = .int .u64 B2 from f14]
      exact L _ 4 w (by simp)
    exact wp_enter (ex_call2 cf29 rfl ho) hc (by rintro e w' ⟨rfl, rfl⟩; exact ⟨_, rfl, hK _ _ rfl hi⟩)
  have s16 : ∀ o, ops[16]? = some o → Step Try.prog ops (fun i v => v = vals20 a b A1 A2 B1 C B2 l p w0.drew i) (inv20 a b A1 A2 B1 C B2 l p w0.drew) a0 Q 16 o := by
    refine E16.step fun o hd ho hg hw => ?_
    intro x w listed hsz hls hun hwt hdown D R hinv K hK
    refine ⟨wanted_none hg, ?_⟩
    rw [hN] at hls
    have f11 : x.tmps.getD 22 undef = .int .i64 (l C 40) := E11.post (Post := fun i v => v = vals20 a b A1 A2 B1 C B2 l p w0.drew i) (a := x) D (hw 11 (by simp))
    have f15 : x.tmps.getD 26 undef = .int .i64 (l B2 4) := E15.post (Post := fun i v => v = vals20 a b A1 A2 B1 C B2 l p w0.drew i) (a := x) D (hw 15 (by simp))
    have hi := inv20_same hinv 16 (by omega) hls
    exact wp_value (ex_build23 ho f11 f15) (hK _ _ rfl hi)
  have s17 : ∀ o, ops[17]? = some o → Step Try.prog ops (fun i v => v = vals20 a b A1 A2 B1 C B2 l p w0.drew i) (inv20 a b A1 A2 B1 C B2 l p w0.drew) a0 Q 17 o := by
    refine E17.step fun o hd ho hg hw => ?_
    intro x w listed hsz hls hun hwt hdown D R hinv K hK
    refine ⟨wanted_none hg, ?_⟩
    rw [hN] at hls
    have hi := inv20_same hinv 17 (by omega) hls
    have fb : x.tmps.getD 1 undef = .pointer (some ⟨p, 0, none⟩) := (R 1 (not_of hb1)).trans h1
    exact wp_value (ex_index (i := 1) (by omega) ho fb (fun _ => rfl)) (hK _ _ rfl hi)
  have s18 : ∀ o, ops[18]? = some o → Step Try.prog ops (fun i v => v = vals20 a b A1 A2 B1 C B2 l p w0.drew i) (inv20 a b A1 A2 B1 C B2 l p w0.drew) a0 Q 18 o := by
    refine E18.step fun o hd ho hg hw => ?_
    intro x w listed hsz hls hun hwt hdown D R hinv K hK
    refine ⟨wanted_none hg, ?_⟩
    rw [hN] at hls
    have f17 : x.tmps.getD 28 undef = .pointer (some ⟨p, 1, none⟩) := E17.post (Post := fun i v => v = vals20 a b A1 A2 B1 C B2 l p w0.drew i) (a := x) D (hw 17 (by simp))
    have hi := inv20_same hinv 18 (by omega) hls
    exact wp_value (ex_load33 ho f17 (inv20_cell hinv c1)) (hK _ _ rfl hi)
  have s19 : ∀ o, ops[19]? = some o → Step Try.prog ops (fun i v => v = vals20 a b A1 A2 B1 C B2 l p w0.drew i) (inv20 a b A1 A2 B1 C B2 l p w0.drew) a0 Q 19 o := by
    refine E19.step fun o hd ho hg hw => ?_
    intro x w listed hsz hls hun hwt hdown D R hinv K hK
    refine ⟨wanted_none hg, ?_⟩
    rw [hN] at hls
    have f15 : x.tmps.getD 26 undef = .int .i64 (l B2 4) := E15.post (Post := fun i v => v = vals20 a b A1 A2 B1 C B2 l p w0.drew i) (a := x) D (hw 15 (by simp))
    have f18 : x.tmps.getD 29 undef = .int .u64 b := E18.post (Post := fun i v => v = vals20 a b A1 A2 B1 C B2 l p w0.drew i) (a := x) D (hw 18 (by simp))
    have hi := inv20_same hinv 19 (by omega) hls
    have hc : Calls Try.prog 29 #[x.eval (.tmp 29), x.eval (.const (.int .i64 36))] w fun e w' => e = .returned (.int .i64 (l b 36)) ∧ w' = w := by
      rw [show x.eval (.tmp 29) = .int .u64 b from f18]
      exact L _ 36 w (by simp)
    exact wp_enter (ex_call2 cf29 rfl ho) hc (by rintro e w' ⟨rfl, rfl⟩; exact ⟨_, rfl, hK _ _ rfl hi⟩)
  have s20 : ∀ o, ops[20]? = some o → Step Try.prog ops (fun i v => v = vals20 a b A1 A2 B1 C B2 l p w0.drew i) (inv20 a b A1 A2 B1 C B2 l p w0.drew) a0 Q 20 o := by
    refine E20.step fun o hd ho hg hw => ?_
    intro x w listed hsz hls hun hwt hdown D R hinv K hK
    refine ⟨wanted_none hg, ?_⟩
    rw [hN] at hls
    have f3 : x.tmps.getD 14 undef = .int .i64 (l A1 40) := E3.post (Post := fun i v => v = vals20 a b A1 A2 B1 C B2 l p w0.drew i) (a := x) D (hw 3 (by simp))
    have f16 : x.tmps.getD 27 undef = .agg #[.int .i64 (l C 40), .int .i64 (l B2 4)] := E16.post (Post := fun i v => v = vals20 a b A1 A2 B1 C B2 l p w0.drew i) (a := x) D (hw 16 (by simp))
    have f19 : x.tmps.getD 30 undef = .int .i64 (l b 36) := E19.post (Post := fun i v => v = vals20 a b A1 A2 B1 C B2 l p w0.drew i) (a := x) D (hw 19 (by simp))
    have hi := inv20_same hinv 20 (by omega) hls
    exact wp_value (ex_build25 ho f3 f16 f19) (hK _ _ rfl hi)
  have s21 : ∀ o, ops[21]? = some o → Step Try.prog ops (fun i v => v = vals20 a b A1 A2 B1 C B2 l p w0.drew i) (inv20 a b A1 A2 B1 C B2 l p w0.drew) a0 Q 21 o := by
    refine E21.step fun o hd ho hg hw => ?_
    intro x w listed hsz hls hun hwt hdown D R hinv K hK
    refine ⟨wanted_none hg, ?_⟩
    rw [hN] at hls
    have h22 : listed.getD 22 false = false := E22.down hdown (by simp) hun
    have e : w = w0.drew := by
      have := hinv
      unfold inv20 at this
      rw [h22, hun] at this
      simpa using this
    subst e
    refine wp_value (ex_alloc25 ho) (hK _ _ rfl ?_)
    unfold inv20
    rw [getD_set (by omega), getD_set (by omega), if_neg (show ¬ 21 = 22 by omega), if_pos rfl, h22]
    simp
  have s22 : ∀ o, ops[22]? = some o → Step Try.prog ops (fun i v => v = vals20 a b A1 A2 B1 C B2 l p w0.drew i) (inv20 a b A1 A2 B1 C B2 l p w0.drew) a0 Q 22 o := by
    refine E22.step fun o hd ho hg hw => ?_
    intro x w listed hsz hls hun hwt hdown D R hinv K hK
    refine ⟨wanted_none hg, ?_⟩
    rw [hN] at hls
    have f19 : x.tmps.getD 30 undef = .int .i64 (l b 36) := E19.post (Post := fun i v => v = vals20 a b A1 A2 B1 C B2 l p w0.drew i) (a := x) D (hw 19 (by simp))
    have f20 : x.tmps.getD 31 undef = .agg #[.int .i64 (l A1 40), .int .i64 (l C 40), .int .i64 (l B2 4), .int .i64 (l b 36)] := E20.post (Post := fun i v => v = vals20 a b A1 A2 B1 C B2 l p w0.drew i) (a := x) D (hw 20 (by simp))
    have f21 : x.tmps.getD 4 undef = .pointer (some ⟨w0.drew.heap.size, 0, none⟩) := E21.post (Post := fun i v => v = vals20 a b A1 A2 B1 C B2 l p w0.drew i) (a := x) D (hw 21 (by simp))
    have h21 : listed.getD 21 false = true := hwt 21 (hw 21 (by simp))
    have e : w = w0.drew.alloc (.cells #[.int .i64 0, .int .i64 0, .int .i64 0, .int .i64 0] 25) := by
      have := hinv
      unfold inv20 at this
      rw [hun, h21] at this
      simpa using this
    subst e
    refine wp_skip (ex_store25 ho f21 f20) (hK _ _ rfl ?_)
    unfold inv20
    rw [getD_set (by omega), if_pos rfl]
    simp
  refine region_free (Post := fun i v => v = vals20 a b A1 A2 B1 C B2 l p w0.drew i) (Inv := inv20 a b A1 A2 B1 C B2 l p w0.drew) hmx (low_of hlow) (fun i o ho => by rw [ha0]; exact dst_of hds i o ho) (inj_of hnd) ?_ ?_ ?_
  · unfold inv20
    simp [hN]
  · intro i o ho
    have hi : i < 23 := by
      rw [← hN]
      rcases Nat.lt_or_ge i ops.size with h | h
      · exact h
      · rw [Array.getElem?_eq_none h] at ho; cases ho
    clear hend
    by_cases e0 : i = 0
    · subst e0; exact s0 o ho
    by_cases e1 : i = 1
    · subst e1; exact s1 o ho
    by_cases e2 : i = 2
    · subst e2; exact s2 o ho
    by_cases e3 : i = 3
    · subst e3; exact s3 o ho
    by_cases e4 : i = 4
    · subst e4; exact s4 o ho
    by_cases e5 : i = 5
    · subst e5; exact s5 o ho
    by_cases e6 : i = 6
    · subst e6; exact s6 o ho
    by_cases e7 : i = 7
    · subst e7; exact s7 o ho
    by_cases e8 : i = 8
    · subst e8; exact s8 o ho
    by_cases e9 : i = 9
    · subst e9; exact s9 o ho
    by_cases e10 : i = 10
    · subst e10; exact s10 o ho
    by_cases e11 : i = 11
    · subst e11; exact s11 o ho
    by_cases e12 : i = 12
    · subst e12; exact s12 o ho
    by_cases e13 : i = 13
    · subst e13; exact s13 o ho
    by_cases e14 : i = 14
    · subst e14; exact s14 o ho
    by_cases e15 : i = 15
    · subst e15; exact s15 o ho
    by_cases e16 : i = 16
    · subst e16; exact s16 o ho
    by_cases e17 : i = 17
    · subst e17; exact s17 o ho
    by_cases e18 : i = 18
    · subst e18; exact s18 o ho
    by_cases e19 : i = 19
    · subst e19; exact s19 o ho
    by_cases e20 : i = 20
    · subst e20; exact s20 o ho
    by_cases e21 : i = 21
    · subst e21; exact s21 o ho
    by_cases e22 : i = 22
    · subst e22; exact s22 o ho
    omega
  · intro x w listed hsz hdf hls hall hinv hp hr
    have e : w = w0.drew.alloc (.cells #[.int .i64 (l A1 40), .int .i64 (l C 40), .int .i64 (l B2 4), .int .i64 (l b 36)] 25) := by
      have := hinv
      unfold inv20 at this
      rw [hall 22 (by omega)] at this
      simpa using this
    subst e
    obtain ⟨o, g1, g2, _⟩ := E21.ex
    refine hend x hsz hdf (hp 21 o 4 g1 g2) (fun t ht => hr t ?_)
    rcases (show t = 0 ∨ t = 1 ∨ t = 2 ∨ t = 3 by omega) with rfl | rfl | rfl | rfl
    · exact not_of hb0
    · exact not_of hb1
    · exact not_of hb2
    · exact not_of hb3
end Go.Proofs.Ytbfgnlpgfjokhaa
