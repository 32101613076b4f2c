/- The statements of ParcelNames that draw their order: places, bytes and data beside each other. Conditions: what is said of the slots that they read, and of the cells. -/
import Derived.Test.YtajhpnfpjickbaaCx
import Derived.Test.YtajhpnfpjickbaaCr
import Derived.Test.YtajhpnfpjickbaaFrw
namespace Go.Proofs.Ytajhpnfpjickbaa
open Go.RowKit
/-- A place, a ring number, places, bytes, a message, data: of any content. -/
def IsP (v : Value) : Prop := ∃ r s p m : Int, v = .agg #[.int .i64 r, .int .i64 s, .int .i64 p, .int .i64 m] ∧ I64 r ∧ I64 m
def IsR (v : Value) : Prop := ∃ s p : Int, v = .agg #[.int .i64 s, .int .i64 p]
def IsL (w : World) (v : Value) : Prop := ∃ l, SlP w v l ∧ l.length ≤ 5
def IsB (w : World) (v : Value) : Prop := ∃ l, Sl w v l ∧ l.length ≤ 1000
def IsM (w : World) (v : Value) : Prop := ∃ (k o lf i p ps g : Int) (s : Bool) (st rs rr sq : Int) (ao : Option Addr) (cap : Nat) (l : List Int), v = .agg #[.int .i64 k, .int .i64 o, .int .i64 lf, .int .i64 i, .int .i64 p, .int .i64 ps, .int .i64 g, .bool s, .int .i64 st, .int .i64 rs, .int .i64 rr, .int .i64 sq, .slice ao l.length cap] ∧ Sl w (.slice ao l.length cap) l ∧ l.length ≤ 1000
def IsD (w : World) (v : Value) : Prop := ∃ (dq dr ds dn dt : Int) (k o lf i p ps g : Int) (s : Bool) (st rs rr sq : Int) (ao : Option Addr) (cap : Nat) (l : List Int), v = .agg #[.int .i64 dq, .int .i64 dr, .int .i64 ds, .int .i64 dn, .int .i64 dt, .int .i64 k, .int .i64 o, .int .i64 lf, .int .i64 i, .int .i64 p, .int .i64 ps, .int .i64 g, .bool s, .int .i64 st, .int .i64 rs, .int .i64 rr, .int .i64 sq, .slice ao l.length cap] ∧ Sl w (.slice ao l.length cap) l ∧ l.length ≤ 1000
/-- Twelve of them in a slice. -/
def Tw (P : World → Value → Prop) (w : World) (v : Value) : Prop := ∃ b, v = .slice (some ⟨b, 0, none⟩) 12 12 ∧ ∀ j, j < 12 → ∃ u, w.cell? ⟨b, j, none⟩ = some u ∧ P w u
/-- Six data in a slice. -/
def Dc (w : World) (b o : Nat) (v : Value) : Prop := ∃ xs : List Value, v = .agg xs.toArray ∧ ∀ t u, xs[t]? = some u → w.cell? ⟨b, o + t, none⟩ = some u
def Sx (w : World) (v : Value) : Prop := ∃ b, v = .slice (some ⟨b, 0, none⟩) 6 6 ∧ ∀ j, j < 6 → ∃ u, Dc w b (j * 18) u ∧ IsD w u
theorem IsL.mod {w w' : World} {v : Value} (h : IsL w v) (hm : Mod (fun _ => False) w w') : IsL w' v := by
  obtain ⟨l, h, hl⟩ := h
  exact ⟨l, h.mod hm (fun _ _ _ h => h), hl⟩
theorem IsB.mod {w w' : World} {v : Value} (h : IsB w v) (hm : Mod (fun _ => False) w w') : IsB w' v := by
  obtain ⟨l, h, hl⟩ := h
  exact ⟨l, h.mod hm (fun _ _ h => h), hl⟩
theorem IsM.mod {w w' : World} {v : Value} (h : IsM w v) (hm : Mod (fun _ => False) w w') : IsM w' v := by
  obtain ⟨k, o, lf, i, p, ps, g, s, st, rs, rr, sq, ao, cap, l, e, h, hl⟩ := h
  exact ⟨k, o, lf, i, p, ps, g, s, st, rs, rr, sq, ao, cap, l, e, h.mod hm (fun _ _ h => h), hl⟩
theorem IsD.mod {w w' : World} {v : Value} (h : IsD w v) (hm : Mod (fun _ => False) w w') : IsD w' v := by
  obtain ⟨dq, dr, ds, dn, dt, k, o, lf, i, p, ps, g, s, st, rs, rr, sq, ao, cap, l, e, h, hl⟩ := h
  exact ⟨dq, dr, ds, dn, dt, k, o, lf, i, p, ps, g, s, st, rs, rr, sq, ao, cap, l, e, h.mod hm (fun _ _ h => h), hl⟩
theorem Tw.mod {P : World → Value → Prop} (hP : ∀ w w' v, P w v → Mod (fun _ => False) w w' → P w' v) {w w' : World} {v : Value} (h : Tw P w v) (hm : Mod (fun _ => False) w w') : Tw P w' v := by
  obtain ⟨b, e, h⟩ := h
  refine ⟨b, e, fun j hj => ?_⟩
  obtain ⟨u, hu, hp⟩ := h j hj
  exact ⟨u, hm.cell hu (fun h => h), hP _ _ _ hp hm⟩
theorem Sx.mod {w w' : World} {v : Value} (h : Sx w v) (hm : Mod (fun _ => False) w w') : Sx w' v := by
  obtain ⟨b, e, h⟩ := h
  refine ⟨b, e, fun j hj => ?_⟩
  obtain ⟨u, ⟨xs, e2, hc⟩, hp⟩ := h j hj
  exact ⟨u, ⟨xs, e2, fun t x hx => hm.cell (hc t x hx) (fun h => h)⟩, hp.mod hm⟩
/-- What is said of a slot, by its kind. -/
def Pk (b : Nat) (cv bv : Value) : Nat → Value → World → Prop
  | 0, v, _ => IsP v
  | 1, v, w => IsL w v
  | 2, v, _ => v = .pointer (some ⟨b, 1, none⟩)
  | 3, v, _ => IsR v
  | 4, v, w => Tw IsL w v
  | 5, v, w => IsB w v
  | 6, v, w => Tw IsB w v
  | 7, v, _ => v = cv
  | 8, v, _ => v = bv
  | 9, v, w => IsM w v
  | 10, v, w => IsD w v
  | 11, v, w => Sx w v
  | _, _, _ => True
theorem Pk.mod {b : Nat} {cv bv : Value} {k : Nat} {v : Value} {w w' : World} (hm : Mod (fun _ => False) w w') (h : Pk b cv bv k v w) : Pk b cv bv k v w' := by
  match k, h with
  | 0, h => exact h
  | 1, h => exact IsL.mod h hm
  | 2, h => exact h
  | 3, h => exact h
  | 4, h => exact Tw.mod (P := IsL) (fun _ _ _ h hm => IsL.mod h hm) h hm
  | 5, h => exact IsB.mod h hm
  | 6, h => exact Tw.mod (P := IsB) (fun _ _ _ h hm => IsB.mod h hm) h hm
  | 7, h => exact h
  | 8, h => exact h
  | 9, h => exact IsM.mod h hm
  | 10, h => exact IsD.mod h hm
  | 11, h => exact Sx.mod h hm
  | _ + 12, _ => trivial
theorem fl58 {b : Nat} (w : World) : (Instr.fieldAt 58 (.pointer (some ⟨b, 0, none⟩)) 1).run Try.prog w = .ok (.pointer (some ⟨b, 1, none⟩)) w := by
  simp [go_sem]
theorem ld58 {b : Nat} {r s p m : Int} {w : World} (h0 : w.cell? ⟨b, 0, none⟩ = some (.int .i64 r)) (h1 : w.cell? ⟨b, 1, none⟩ = some (.int .i64 s)) (h2 : w.cell? ⟨b, 2, none⟩ = some (.int .i64 p)) (h3 : w.cell? ⟨b, 3, none⟩ = some (.int .i64 m)) : (Instr.loadAt 58 (.pointer (some ⟨b, 0, none⟩))).run Try.prog w = .ok (.agg #[.int .i64 r, .int .i64 s, .int .i64 p, .int .i64 m]) w := by
  simp [go_sem, h0, h1, h2, h3]
theorem ld23 {b : Nat} {s p : Int} {w : World} (h1 : w.cell? ⟨b, 1, none⟩ = some (.int .i64 s)) (h2 : w.cell? ⟨b, 2, none⟩ = some (.int .i64 p)) : (Instr.loadAt 23 (.pointer (some ⟨b, 1, none⟩))).run Try.prog w = .ok (.agg #[.int .i64 s, .int .i64 p]) w := by
  simp [go_sem, h1, h2]
/-- Places that were just laid. -/
theorem pl1 (w : World) {r s p m : Int} (hr : I64 r) (hm : I64 m) : IsL (w.alloc (.cells #[.int .i64 r, .int .i64 s, .int .i64 p, .int .i64 m] 58)) (.slice (some ⟨w.heap.size, 0, none⟩) 1 1) := by
  refine ⟨[⟨r, s, p, m⟩], ⟨⟨some ⟨w.heap.size, 0, none⟩, 1, rfl, by simp, by simp [maxLen], (by intro h; cases h), fun _ => ⟨w.heap.size, 0, rfl, fun j q hj => ?_⟩⟩, ?_⟩, by simp⟩
  · match j, hj with
    | 0, hj =>
      simp only [List.getElem?_cons_zero, Option.some.injEq] at hj
      subst hj
      refine ⟨?_, ?_, ?_, ?_⟩ <;> simp
    | j + 1, hj => simp at hj
  · simp only [List.mem_singleton, forall_eq]
    exact ⟨hr, hm⟩
theorem pl2 (w : World) {r s p m r' s' p' m' : Int} (hr : I64 r) (hm : I64 m) (hr' : I64 r') (hm' : I64 m') : IsL (w.alloc (.cells #[.int .i64 r, .int .i64 s, .int .i64 p, .int .i64 m, .int .i64 r', .int .i64 s', .int .i64 p', .int .i64 m'] 58)) (.slice (some ⟨w.heap.size, 0, none⟩) 2 2) := by
  refine ⟨[⟨r, s, p, m⟩, ⟨r', s', p', m'⟩], ⟨⟨some ⟨w.heap.size, 0, none⟩, 2, rfl, by simp, by simp [maxLen], (by intro h; cases h), fun _ => ⟨w.heap.size, 0, rfl, fun j q hj => ?_⟩⟩, ?_⟩, by simp⟩
  · match j, hj with
    | 0, hj =>
      simp only [List.getElem?_cons_zero, Option.some.injEq] at hj
      subst hj
      refine ⟨?_, ?_, ?_, ?_⟩ <;> simp
    | 1, hj =>
      simp only [List.getElem?_cons_succ, List.getElem?_cons_zero, Option.some.injEq] at hj
      subst hj
      refine ⟨?_, ?_, ?_, ?_⟩ <;> simp
    | j + 2, hj => simp at hj
  · simp only [List.mem_cons, List.not_mem_nil, or_false, forall_eq_or_imp, forall_eq]
    exact ⟨⟨hr, hm⟩, hr', hm'⟩
theorem Sl.cutB {w : World} {ao : Option Addr} {n cap : Nat} {l : List Int} (h : Sl w (.slice ao n cap) l) (m : Nat) (hm : m ≤ n) : IsB w (.slice ao m cap) ∨ 1000 < m := by
  rcases Nat.lt_or_ge 1000 m with h1 | h1
  · exact .inr h1
  · left
    obtain ⟨ao', cap', e, h1', h2, h3, h4⟩ := h.form
    simp only [Value.slice.injEq] at e
    obtain ⟨rfl, rfl, rfl⟩ := e
    have hl : (l.take m).length = m := by simp; omega
    refine ⟨l.take m, ⟨⟨ao, cap, by rw [hl], by omega, h2, h3, fun hne => ?_⟩, fun c hc => h.rng c (List.mem_of_mem_take hc)⟩, by omega⟩
    obtain ⟨b, off, e, hc⟩ := h4 (by rintro rfl; simp at hne)
    refine ⟨b, off, e, fun j hj => ?_⟩
    rw [hl] at hj
    rw [hc j (by omega)]
    simp [hj]
theorem IsL.nil (w : World) : IsL w (.slice none 0 0) := ⟨[], SlP.nil w, by simp⟩
theorem Sl.nil0 (w : World) : Sl w (.slice none ([] : List Int).length 0) [] := (Own.nil w).sl (by simp)
theorem IsB.nil (w : World) : IsB w (.slice none 0 0) := ⟨[], Sl.nil0 w, by simp⟩
theorem IsL.shape {w : World} {v : Value} (h : IsL w v) : ∃ a n c, v = .slice a n c := by
  obtain ⟨l, h, _⟩ := h
  obtain ⟨ao, cap, rfl, _⟩ := h.form
  exact ⟨_, _, _, rfl⟩
theorem IsB.shape {w : World} {v : Value} (h : IsB w v) : ∃ a n c, v = .slice a n c := by
  obtain ⟨l, h, _⟩ := h
  obtain ⟨ao, cap, rfl, _⟩ := h.form
  exact ⟨_, _, _, rfl⟩
/-- Five places that are zero. -/
theorem mk5 (w : World) : (Instr.makeSlice 41 (.int .i64 5) (.int .i64 5)).run Try.prog w = .ok (.slice (some ⟨w.heap.size, 0, none⟩) 5 5) (w.alloc (.cells (Array.replicate 20 (.int .i64 0)) 58)) ∧ IsL (w.alloc (.cells (Array.replicate 20 (.int .i64 0)) 58)) (.slice (some ⟨w.heap.size, 0, none⟩) 5 5) := by
  constructor
  · kernel_rfl
  · refine ⟨List.replicate 5 ⟨0, 0, 0, 0⟩, ⟨⟨some ⟨w.heap.size, 0, none⟩, 5, rfl, by simp, by simp [maxLen], (by intro h; cases h), fun _ => ⟨w.heap.size, 0, rfl, fun j q hj => ?_⟩⟩, ?_⟩, by simp⟩
    · rw [List.getElem?_replicate] at hj
      split at hj
      · rename_i h5
        cases hj
        rcases (by omega : j = 0 ∨ j = 1 ∨ j = 2 ∨ j = 3 ∨ j = 4) with rfl | rfl | rfl | rfl | rfl <;> (refine ⟨?_, ?_, ?_, ?_⟩ <;> simp)
      · cases hj
    · intro p hp
      obtain ⟨_, rfl⟩ := List.mem_replicate.1 hp
      exact ⟨by simp [I64], by simp [I64]⟩
theorem ln12_1 {oq : Oper} {w : World} {ρ : Operand → Value} {r68 s68 p68 m68 : Int} (ho : oq.op = Op.buildSlice 41 1 #[(0, Operand.tmp 68)]) (h68 : ρ (Operand.tmp 68) = .agg #[.int .i64 r68, .int .i64 s68, .int .i64 p68, .int .i64 m68])  : (execOp ρ oq).run Try.prog w = .ok (.value (.slice (some ⟨w.heap.size, 0, none⟩) 1 1)) (w.alloc (.cells #[.int .i64 r68, .int .i64 s68, .int .i64 p68, .int .i64 m68] 58)) := by
  simp [execOp, ho, h68, go_sem]
theorem ln12_4 {oq : Oper} {w : World} {ρ : Operand → Value} {r70 s70 p70 m70 r71 s71 p71 m71 : Int} (ho : oq.op = Op.buildSlice 41 2 #[(0, Operand.tmp 70), (1, Operand.tmp 71)]) (h70 : ρ (Operand.tmp 70) = .agg #[.int .i64 r70, .int .i64 s70, .int .i64 p70, .int .i64 m70]) (h71 : ρ (Operand.tmp 71) = .agg #[.int .i64 r71, .int .i64 s71, .int .i64 p71, .int .i64 m71])  : (execOp ρ oq).run Try.prog w = .ok (.value (.slice (some ⟨w.heap.size, 0, none⟩) 2 2)) (w.alloc (.cells #[.int .i64 r70, .int .i64 s70, .int .i64 p70, .int .i64 m70, .int .i64 r71, .int .i64 s71, .int .i64 p71, .int .i64 m71] 58)) := by
  simp [execOp, ho, h70, h71, go_sem]
theorem ln12_7 {oq : Oper} {w : World} {ρ : Operand → Value} {r73 s73 p73 m73 r74 s74 p74 m74 : Int} (ho : oq.op = Op.buildSlice 41 2 #[(0, Operand.tmp 73), (1, Operand.tmp 74)]) (h73 : ρ (Operand.tmp 73) = .agg #[.int .i64 r73, .int .i64 s73, .int .i64 p73, .int .i64 m73]) (h74 : ρ (Operand.tmp 74) = .agg #[.int .i64 r74, .int .i64 s74, .int .i64 p74, .int .i64 m74])  : (execOp ρ oq).run Try.prog w = .ok (.value (.slice (some ⟨w.heap.size, 0, none⟩) 2 2)) (w.alloc (.cells #[.int .i64 r73, .int .i64 s73, .int .i64 p73, .int .i64 m73, .int .i64 r74, .int .i64 s74, .int .i64 p74, .int .i64 m74] 58)) := by
  simp [execOp, ho, h73, h74, go_sem]
theorem ln12_11 {oq : Oper} {w : World} {ρ : Operand → Value} {x y : Int}  (hc : ∀ v, ρ (.const v) = v) (ho : oq.op = Op.build 58 #[(0, Operand.const (Value.int IntKind.i64 4)), (1, Operand.tmp 78), (2, Operand.const (Value.int IntKind.i64 2))]) (hx : ρ (Operand.tmp 78) = .agg #[.int .i64 x, .int .i64 y])  : (execOp ρ oq).run Try.prog w = .ok (.value (.agg #[.int .i64 4, .int .i64 x, .int .i64 y, .int .i64 2])) (w) := by
  simp [execOp, ho, hx, hc, go_sem]
theorem ln12_12 {oq : Oper} {w : World} {ρ : Operand → Value} {r76 s76 p76 m76 r79 s79 p79 m79 : Int} (ho : oq.op = Op.buildSlice 41 2 #[(0, Operand.tmp 76), (1, Operand.tmp 79)]) (h76 : ρ (Operand.tmp 76) = .agg #[.int .i64 r76, .int .i64 s76, .int .i64 p76, .int .i64 m76]) (h79 : ρ (Operand.tmp 79) = .agg #[.int .i64 r79, .int .i64 s79, .int .i64 p79, .int .i64 m79])  : (execOp ρ oq).run Try.prog w = .ok (.value (.slice (some ⟨w.heap.size, 0, none⟩) 2 2)) (w.alloc (.cells #[.int .i64 r76, .int .i64 s76, .int .i64 p76, .int .i64 m76, .int .i64 r79, .int .i64 s79, .int .i64 p79, .int .i64 m79] 58)) := by
  simp [execOp, ho, h76, h79, go_sem]
theorem ln12_15 {oq : Oper} {w : World} {ρ : Operand → Value} {x y : Int}  (hc : ∀ v, ρ (.const v) = v) (ho : oq.op = Op.build 58 #[(0, Operand.const (Value.int IntKind.i64 (-1))), (1, Operand.tmp 82), (2, Operand.const (Value.int IntKind.i64 2))]) (hx : ρ (Operand.tmp 82) = .agg #[.int .i64 x, .int .i64 y])  : (execOp ρ oq).run Try.prog w = .ok (.value (.agg #[.int .i64 (-1), .int .i64 x, .int .i64 y, .int .i64 2])) (w) := by
  simp [execOp, ho, hx, hc, go_sem]
theorem ln12_16 {oq : Oper} {w : World} {ρ : Operand → Value} {r83 s83 p83 m83 : Int} (ho : oq.op = Op.buildSlice 41 1 #[(0, Operand.tmp 83)]) (h83 : ρ (Operand.tmp 83) = .agg #[.int .i64 r83, .int .i64 s83, .int .i64 p83, .int .i64 m83])  : (execOp ρ oq).run Try.prog w = .ok (.value (.slice (some ⟨w.heap.size, 0, none⟩) 1 1)) (w.alloc (.cells #[.int .i64 r83, .int .i64 s83, .int .i64 p83, .int .i64 m83] 58)) := by
  simp [execOp, ho, h83, go_sem]
theorem ln12_19 {oq : Oper} {w : World} {ρ : Operand → Value} {x y : Int}  (ho : oq.op = Op.build 58 #[(1, Operand.tmp 86)]) (hx : ρ (Operand.tmp 86) = .agg #[.int .i64 x, .int .i64 y])  : (execOp ρ oq).run Try.prog w = .ok (.value (.agg #[.int .i64 0, .int .i64 x, .int .i64 y, .int .i64 0])) (w) := by
  simp [execOp, ho, hx, go_sem]
theorem ln12_20 {oq : Oper} {w : World} {ρ : Operand → Value} {r87 s87 p87 m87 : Int} (ho : oq.op = Op.buildSlice 41 1 #[(0, Operand.tmp 87)]) (h87 : ρ (Operand.tmp 87) = .agg #[.int .i64 r87, .int .i64 s87, .int .i64 p87, .int .i64 m87])  : (execOp ρ oq).run Try.prog w = .ok (.value (.slice (some ⟨w.heap.size, 0, none⟩) 1 1)) (w.alloc (.cells #[.int .i64 r87, .int .i64 s87, .int .i64 p87, .int .i64 m87] 58)) := by
  simp [execOp, ho, h87, go_sem]
theorem ln12_23 {oq : Oper} {w : World} {ρ : Operand → Value} {x y : Int}  (hc : ∀ v, ρ (.const v) = v) (ho : oq.op = Op.build 58 #[(1, Operand.tmp 90), (2, Operand.const (Value.int IntKind.i64 1))]) (hx : ρ (Operand.tmp 90) = .agg #[.int .i64 x, .int .i64 y])  : (execOp ρ oq).run Try.prog w = .ok (.value (.agg #[.int .i64 0, .int .i64 x, .int .i64 y, .int .i64 1])) (w) := by
  simp [execOp, ho, hx, hc, go_sem]
theorem ln12_24 {oq : Oper} {w : World} {ρ : Operand → Value} {r91 s91 p91 m91 : Int} (ho : oq.op = Op.buildSlice 41 1 #[(0, Operand.tmp 91)]) (h91 : ρ (Operand.tmp 91) = .agg #[.int .i64 r91, .int .i64 s91, .int .i64 p91, .int .i64 m91])  : (execOp ρ oq).run Try.prog w = .ok (.value (.slice (some ⟨w.heap.size, 0, none⟩) 1 1)) (w.alloc (.cells #[.int .i64 r91, .int .i64 s91, .int .i64 p91, .int .i64 m91] 58)) := by
  simp [execOp, ho, h91, go_sem]
theorem ln12_27 {oq : Oper} {w : World} {ρ : Operand → Value} {x y : Int}  (hc : ∀ v, ρ (.const v) = v) (ho : oq.op = Op.build 58 #[(1, Operand.tmp 94), (2, Operand.const (Value.int IntKind.i64 512))]) (hx : ρ (Operand.tmp 94) = .agg #[.int .i64 x, .int .i64 y])  : (execOp ρ oq).run Try.prog w = .ok (.value (.agg #[.int .i64 0, .int .i64 x, .int .i64 y, .int .i64 512])) (w) := by
  simp [execOp, ho, hx, hc, go_sem]
theorem ln12_28 {oq : Oper} {w : World} {ρ : Operand → Value} {r95 s95 p95 m95 : Int} (ho : oq.op = Op.buildSlice 41 1 #[(0, Operand.tmp 95)]) (h95 : ρ (Operand.tmp 95) = .agg #[.int .i64 r95, .int .i64 s95, .int .i64 p95, .int .i64 m95])  : (execOp ρ oq).run Try.prog w = .ok (.value (.slice (some ⟨w.heap.size, 0, none⟩) 1 1)) (w.alloc (.cells #[.int .i64 r95, .int .i64 s95, .int .i64 p95, .int .i64 m95] 58)) := by
  simp [execOp, ho, h95, go_sem]
theorem ln12_29 {oq : Oper} {w : World} {ρ : Operand → Value}  (hc : ∀ v, ρ (.const v) = v) (ho : oq.op = Op.build 58 #[(2, Operand.const (Value.int IntKind.i64 2))])  : (execOp ρ oq).run Try.prog w = .ok (.value (.agg #[.int .i64 0, .int .i64 0, .int .i64 0, .int .i64 2])) (w) := by
  simp [execOp, ho, hc, go_sem]
theorem ln12_30 {oq : Oper} {w : World} {ρ : Operand → Value} {r97 s97 p97 m97 : Int} (ho : oq.op = Op.buildSlice 41 1 #[(0, Operand.tmp 97)]) (h97 : ρ (Operand.tmp 97) = .agg #[.int .i64 r97, .int .i64 s97, .int .i64 p97, .int .i64 m97])  : (execOp ρ oq).run Try.prog w = .ok (.value (.slice (some ⟨w.heap.size, 0, none⟩) 1 1)) (w.alloc (.cells #[.int .i64 r97, .int .i64 s97, .int .i64 p97, .int .i64 m97] 58)) := by
  simp [execOp, ho, h97, go_sem]
theorem ln12_31 {oq : Oper} {w : World} {ρ : Operand → Value}  (hc : ∀ v, ρ (.const v) = v) (ho : oq.op = Op.build 23 #[(0, Operand.const (Value.int IntKind.i64 1)), (1, Operand.const (Value.int IntKind.i64 9))])  : (execOp ρ oq).run Try.prog w = .ok (.value (.agg #[.int .i64 1, .int .i64 9])) (w) := by
  simp [execOp, ho, hc, go_sem]
theorem ln12_32 {oq : Oper} {w : World} {ρ : Operand → Value} {x y : Int}  (hc : ∀ v, ρ (.const v) = v) (ho : oq.op = Op.build 58 #[(1, Operand.tmp 99), (2, Operand.const (Value.int IntKind.i64 2))]) (hx : ρ (Operand.tmp 99) = .agg #[.int .i64 x, .int .i64 y])  : (execOp ρ oq).run Try.prog w = .ok (.value (.agg #[.int .i64 0, .int .i64 x, .int .i64 y, .int .i64 2])) (w) := by
  simp [execOp, ho, hx, hc, go_sem]
theorem ln12_33 {oq : Oper} {w : World} {ρ : Operand → Value} {r100 s100 p100 m100 : Int} (ho : oq.op = Op.buildSlice 41 1 #[(0, Operand.tmp 100)]) (h100 : ρ (Operand.tmp 100) = .agg #[.int .i64 r100, .int .i64 s100, .int .i64 p100, .int .i64 m100])  : (execOp ρ oq).run Try.prog w = .ok (.value (.slice (some ⟨w.heap.size, 0, none⟩) 1 1)) (w.alloc (.cells #[.int .i64 r100, .int .i64 s100, .int .i64 p100, .int .i64 m100] 58)) := by
  simp [execOp, ho, h100, go_sem]
theorem ln12_34 {o : Oper} {w : World} {ρ : Operand → Value} (hc : ∀ v, ρ (.const v) = v) (ho : o.op = Op.makeSlice 41 (Operand.const (Value.int IntKind.i64 5)) (Operand.const (Value.int IntKind.i64 5))) : (execOp ρ o).run Try.prog w = .ok (.value (.slice (some ⟨w.heap.size, 0, none⟩) 5 5)) (w.alloc (.cells (Array.replicate 20 (.int .i64 0)) 58)) := by
  simp [execOp, ho, hc, (mk5 w).1]
theorem ln12_35 {oq : Oper} {w : World} {ρ : Operand → Value} {a69 : Option Addr} {n69 c69 : Nat} {a72 : Option Addr} {n72 c72 : Nat} {a75 : Option Addr} {n75 c75 : Nat} {a80 : Option Addr} {n80 c80 : Nat} {a84 : Option Addr} {n84 c84 : Nat} {a88 : Option Addr} {n88 c88 : Nat} {a92 : Option Addr} {n92 c92 : Nat} {a96 : Option Addr} {n96 c96 : Nat} {a98 : Option Addr} {n98 c98 : Nat} {a101 : Option Addr} {n101 c101 : Nat} {a102 : Option Addr} {n102 c102 : Nat} (hc : ∀ v, ρ (.const v) = v) (ho : oq.op = Op.buildSlice 60 12 #[(0, Operand.const (Value.slice none 0 0)), (1, Operand.tmp 69), (2, Operand.tmp 72), (3, Operand.tmp 75), (4, Operand.tmp 80), (5, Operand.tmp 84), (6, Operand.tmp 88), (7, Operand.tmp 92), (8, Operand.tmp 96), (9, Operand.tmp 98), (10, Operand.tmp 101), (11, Operand.tmp 102)]) (h69 : ρ (Operand.tmp 69) = .slice a69 n69 c69) (h72 : ρ (Operand.tmp 72) = .slice a72 n72 c72) (h75 : ρ (Operand.tmp 75) = .slice a75 n75 c75) (h80 : ρ (Operand.tmp 80) = .slice a80 n80 c80) (h84 : ρ (Operand.tmp 84) = .slice a84 n84 c84) (h88 : ρ (Operand.tmp 88) = .slice a88 n88 c88) (h92 : ρ (Operand.tmp 92) = .slice a92 n92 c92) (h96 : ρ (Operand.tmp 96) = .slice a96 n96 c96) (h98 : ρ (Operand.tmp 98) = .slice a98 n98 c98) (h101 : ρ (Operand.tmp 101) = .slice a101 n101 c101) (h102 : ρ (Operand.tmp 102) = .slice a102 n102 c102) : (execOp ρ oq).run Try.prog w = .ok (.value (.slice (some ⟨w.heap.size, 0, none⟩) 12 12)) (w.alloc (.cells #[.slice none 0 0, .slice a69 n69 c69, .slice a72 n72 c72, .slice a75 n75 c75, .slice a80 n80 c80, .slice a84 n84 c84, .slice a88 n88 c88, .slice a92 n92 c92, .slice a96 n96 c96, .slice a98 n98 c98, .slice a101 n101 c101, .slice a102 n102 c102] 41)) := by
  simp [execOp, ho, h69, h72, h75, h80, h84, h88, h92, h96, h98, h101, h102, hc, go_sem]
theorem ln12_36 {oq : Oper} {w : World} {ρ : Operand → Value} {v : Value} (ho : oq.op = Op.assign (Operand.tmp 103)) (hx : ρ (Operand.tmp 103) = v) : (execOp ρ oq).run Try.prog w = .ok (.value (v)) (w) := by
  simp [execOp, ho, hx, go_sem]
set_option maxRecDepth 100000 in
set_option maxHeartbeats 4000000 in
theorem region12 {ops : Array Oper} {id : Nat} {a0 : Act} {w0 : World} {Q : Exit → Act → World → Prop} (b : Nat) (cv bv : Value) (c : Nat) (r1 s1 q1 m1 r2 s2 q2 m2 : Int)
    (E0 : Is ops 0 (some 68) (Op.load 58 (Operand.tmp 1)) none [])
    (E1 : Is ops 1 (some 69) (Op.buildSlice 41 1 #[(0, Operand.tmp 68)]) none [0])
    (E2 : Is ops 2 (some 70) (Op.load 58 (Operand.tmp 2)) none [])
    (E3 : Is ops 3 (some 71) (Op.load 58 (Operand.tmp 1)) none [])
    (E4 : Is ops 4 (some 72) (Op.buildSlice 41 2 #[(0, Operand.tmp 70), (1, Operand.tmp 71)]) none [2, 3])
    (E5 : Is ops 5 (some 73) (Op.load 58 (Operand.tmp 1)) none [])
    (E6 : Is ops 6 (some 74) (Op.load 58 (Operand.tmp 1)) none [])
    (E7 : Is ops 7 (some 75) (Op.buildSlice 41 2 #[(0, Operand.tmp 73), (1, Operand.tmp 74)]) none [5, 6])
    (E8 : Is ops 8 (some 76) (Op.load 58 (Operand.tmp 1)) none [])
    (E9 : Is ops 9 (some 77) (Op.fieldAddr 58 (Operand.tmp 1) 1) none [])
    (E10 : Is ops 10 (some 78) (Op.load 23 (Operand.tmp 77)) none [9])
    (E11 : Is ops 11 (some 79) (Op.build 58 #[(0, Operand.const (Value.int IntKind.i64 4)), (1, Operand.tmp 78), (2, Operand.const (Value.int IntKind.i64 2))]) none [10])
    (E12 : Is ops 12 (some 80) (Op.buildSlice 41 2 #[(0, Operand.tmp 76), (1, Operand.tmp 79)]) none [8, 11])
    (E13 : Is ops 13 (some 81) (Op.fieldAddr 58 (Operand.tmp 1) 1) none [])
    (E14 : Is ops 14 (some 82) (Op.load 23 (Operand.tmp 81)) none [13])
    (E15 : Is ops 15 (some 83) (Op.build 58 #[(0, Operand.const (Value.int IntKind.i64 (-1))), (1, Operand.tmp 82), (2, Operand.const (Value.int IntKind.i64 2))]) none [14])
    (E16 : Is ops 16 (some 84) (Op.buildSlice 41 1 #[(0, Operand.tmp 83)]) none [15])
    (E17 : Is ops 17 (some 85) (Op.fieldAddr 58 (Operand.tmp 1) 1) none [])
    (E18 : Is ops 18 (some 86) (Op.load 23 (Operand.tmp 85)) none [17])
    (E19 : Is ops 19 (some 87) (Op.build 58 #[(1, Operand.tmp 86)]) none [18])
    (E20 : Is ops 20 (some 88) (Op.buildSlice 41 1 #[(0, Operand.tmp 87)]) none [19])
    (E21 : Is ops 21 (some 89) (Op.fieldAddr 58 (Operand.tmp 1) 1) none [])
    (E22 : Is ops 22 (some 90) (Op.load 23 (Operand.tmp 89)) none [21])
    (E23 : Is ops 23 (some 91) (Op.build 58 #[(1, Operand.tmp 90), (2, Operand.const (Value.int IntKind.i64 1))]) none [22])
    (E24 : Is ops 24 (some 92) (Op.buildSlice 41 1 #[(0, Operand.tmp 91)]) none [23])
    (E25 : Is ops 25 (some 93) (Op.fieldAddr 58 (Operand.tmp 1) 1) none [])
    (E26 : Is ops 26 (some 94) (Op.load 23 (Operand.tmp 93)) none [25])
    (E27 : Is ops 27 (some 95) (Op.build 58 #[(1, Operand.tmp 94), (2, Operand.const (Value.int IntKind.i64 512))]) none [26])
    (E28 : Is ops 28 (some 96) (Op.buildSlice 41 1 #[(0, Operand.tmp 95)]) none [27])
    (E29 : Is ops 29 (some 97) (Op.build 58 #[(2, Operand.const (Value.int IntKind.i64 2))]) none [])
    (E30 : Is ops 30 (some 98) (Op.buildSlice 41 1 #[(0, Operand.tmp 97)]) none [29])
    (E31 : Is ops 31 (some 99) (Op.build 23 #[(0, Operand.const (Value.int IntKind.i64 1)), (1, Operand.const (Value.int IntKind.i64 9))]) none [])
    (E32 : Is ops 32 (some 100) (Op.build 58 #[(1, Operand.tmp 99), (2, Operand.const (Value.int IntKind.i64 2))]) none [31])
    (E33 : Is ops 33 (some 101) (Op.buildSlice 41 1 #[(0, Operand.tmp 100)]) none [32])
    (E34 : Is ops 34 (some 102) (Op.makeSlice 41 (Operand.const (Value.int IntKind.i64 5)) (Operand.const (Value.int IntKind.i64 5))) none [])
    (E35 : Is ops 35 (some 103) (Op.buildSlice 60 12 #[(0, Operand.const (Value.slice none 0 0)), (1, Operand.tmp 69), (2, Operand.tmp 72), (3, Operand.tmp 75), (4, Operand.tmp 80), (5, Operand.tmp 84), (6, Operand.tmp 88), (7, Operand.tmp 92), (8, Operand.tmp 96), (9, Operand.tmp 98), (10, Operand.tmp 101), (11, Operand.tmp 102)]) none [1, 4, 7, 12, 16, 20, 24, 28, 30, 33, 34])
    (E36 : Is ops 36 (some 7) (Op.assign (Operand.tmp 103)) none [0, 1, 2, 3, 4, 5, 6, 7, 8, 9, 10, 11, 12, 13, 14, 15, 16, 17, 18, 19, 20, 21, 22, 23, 24, 25, 26, 27, 28, 29, 30, 31, 32, 33, 34, 35])
    (hN : ops.size = 37) (hlow : lowB ops = true) (hds : dsts ops = [some 68, some 69, some 70, some 71, some 72, some 73, some 74, some 75, some 76, some 77, some 78, some 79, some 80, some 81, some 82, some 83, some 84, some 85, some 86, some 87, some 88, some 89, some 90, some 91, some 92, some 93, some 94, some 95, some 96, some 97, some 98, some 99, some 100, some 101, some 102, some 103, some 7]) (hnd : injB ops = true)
    (hmx : Try.prog.follows .mixedOrders = true) (ha0 : a0.tmps.size = 223)
    (h1 : a0.tmps.getD 1 undef = .pointer (some ⟨b, 0, none⟩)) (p10 : w0.cell? ⟨b, 0, none⟩ = some (.int .i64 r1)) (p11 : w0.cell? ⟨b, 1, none⟩ = some (.int .i64 s1)) (p12 : w0.cell? ⟨b, 2, none⟩ = some (.int .i64 q1)) (p13 : w0.cell? ⟨b, 3, none⟩ = some (.int .i64 m1)) (i10 : I64 r1) (i13 : I64 m1)
    (h2 : a0.tmps.getD 2 undef = .pointer (some ⟨c, 0, none⟩)) (p20 : w0.cell? ⟨c, 0, none⟩ = some (.int .i64 r2)) (p21 : w0.cell? ⟨c, 1, none⟩ = some (.int .i64 s2)) (p22 : w0.cell? ⟨c, 2, none⟩ = some (.int .i64 q2)) (p23 : w0.cell? ⟨c, 3, none⟩ = some (.int .i64 m2)) (i20 : I64 r2) (i23 : I64 m2)
    (hend : ∀ (u : Nat → Value) w, Mod (fun _ => False) w0.drew w → Tw IsL w (u 7) → Q .normal (puts a0 [(68, u 68), (69, u 69), (70, u 70), (71, u 71), (72, u 72), (73, u 73), (74, u 74), (75, u 75), (76, u 76), (77, u 77), (78, u 78), (79, u 79), (80, u 80), (81, u 81), (82, u 82), (83, u 83), (84, u 84), (85, u 85), (86, u 86), (87, u 87), (88, u 88), (89, u 89), (90, u 90), (91, u 91), (92, u 92), (93, u 93), (94, u 94), (95, u 95), (96, u 96), (97, u 97), (98, u 98), (99, u 99), (100, u 100), (101, u 101), (102, u 102), (103, u 103), (7, u 7)]) w) :
    (Code.region id ops true).wp Try.prog Q a0 w0 := by
  have D : ∀ {W : World} {a : Addr} {v : Value}, Mod (fun _ => False) w0.drew W → w0.cell? a = some v → W.cell? a = some v := fun hW hc => hW.cell (by simpa using hc) (fun h => h)
  have D0 : ∀ {W : World}, Mod (fun _ => False) w0.drew W → Mod (fun _ => False) w0 W := fun hW => ((Mod.refl (fun _ => False) w0).drew).trans hW (fun _ _ h => h) (fun _ _ h => h)
  have s0 : ∀ o, ops[0]? = some o → StepW Try.prog ops (fun i v w => Pk b cv bv ([0, 1, 0, 0, 1, 0, 0, 1, 0, 2, 3, 0, 1, 2, 3, 0, 1, 2, 3, 0, 1, 2, 3, 0, 1, 2, 3, 0, 1, 0, 1, 3, 0, 1, 1, 4, 4].getD i 0) v w) (fun _ W => Mod (fun _ => False) w0.drew W) a0 Q 0 o := by
    refine E0.stepW fun o hd ho hg hw => ?_
    intro y w listed hsz hls hun hwt hdown D' R hinv K hK
    refine .inl ⟨wanted_none hg, ?_⟩
    have hc : ∀ v, y.eval (.const v) = v := fun _ => rfl
    have f1 : y.eval (Operand.tmp 1) = .pointer (some ⟨b, 0, none⟩) := (R 1 (not_of (by rw [hds]; decide))).trans h1
    exact wp_value (ox_load ho f1 (ld58 (D hinv p10) (D hinv p11) (D hinv p12) (D hinv p13))) (hK _ _ (Mod.refl _ _) ⟨_, _, _, _, rfl, i10, i13⟩ hinv)
  have s1 : ∀ o, ops[1]? = some o → StepW Try.prog ops (fun i v w => Pk b cv bv ([0, 1, 0, 0, 1, 0, 0, 1, 0, 2, 3, 0, 1, 2, 3, 0, 1, 2, 3, 0, 1, 2, 3, 0, 1, 2, 3, 0, 1, 0, 1, 3, 0, 1, 1, 4, 4].getD i 0) v w) (fun _ W => Mod (fun _ => False) w0.drew W) a0 Q 1 o := by
    refine E1.stepW fun o hd ho hg hw => ?_
    intro y w listed hsz hls hun hwt hdown D' R hinv K hK
    refine .inl ⟨wanted_none hg, ?_⟩
    have hc : ∀ v, y.eval (.const v) = v := fun _ => rfl
    have f68 : IsP (y.eval (Operand.tmp 68)) := E0.postW (Post := (fun i v w => Pk b cv bv ([0, 1, 0, 0, 1, 0, 0, 1, 0, 2, 3, 0, 1, 2, 3, 0, 1, 2, 3, 0, 1, 2, 3, 0, 1, 2, 3, 0, 1, 0, 1, 3, 0, 1, 1, 4, 4].getD i 0) v w)) (a := y) (w := w) D' (hw 0 (by simp))
    obtain ⟨r68, s68, p68, m68, e68, hr68, hm68⟩ := f68
    exact wp_value (ln12_1 ho e68) (hK _ _ ((Mod.refl (fun _ => False) w).alloc _) (pl1 w hr68 hm68) (hinv.alloc _))
  have s2 : ∀ o, ops[2]? = some o → StepW Try.prog ops (fun i v w => Pk b cv bv ([0, 1, 0, 0, 1, 0, 0, 1, 0, 2, 3, 0, 1, 2, 3, 0, 1, 2, 3, 0, 1, 2, 3, 0, 1, 2, 3, 0, 1, 0, 1, 3, 0, 1, 1, 4, 4].getD i 0) v w) (fun _ W => Mod (fun _ => False) w0.drew W) a0 Q 2 o := by
    refine E2.stepW fun o hd ho hg hw => ?_
    intro y w listed hsz hls hun hwt hdown D' R hinv K hK
    refine .inl ⟨wanted_none hg, ?_⟩
    have hc : ∀ v, y.eval (.const v) = v := fun _ => rfl
    have f2 : y.eval (Operand.tmp 2) = .pointer (some ⟨c, 0, none⟩) := (R 2 (not_of (by rw [hds]; decide))).trans h2
    exact wp_value (ox_load ho f2 (ld58 (D hinv p20) (D hinv p21) (D hinv p22) (D hinv p23))) (hK _ _ (Mod.refl _ _) ⟨_, _, _, _, rfl, i20, i23⟩ hinv)
  have s3 : ∀ o, ops[3]? = some o → StepW Try.prog ops (fun i v w => Pk b cv bv ([0, 1, 0, 0, 1, 0, 0, 1, 0, 2, 3, 0, 1, 2, 3, 0, 1, 2, 3, 0, 1, 2, 3, 0, 1, 2, 3, 0, 1, 0, 1, 3, 0, 1, 1, 4, 4].getD i 0) v w) (fun _ W => Mod (fun _ => False) w0.drew W) a0 Q 3 o := by
    refine E3.stepW fun o hd ho hg hw => ?_
    intro y w listed hsz hls hun hwt hdown D' R hinv K hK
    refine .inl ⟨wanted_none hg, ?_⟩
    have hc : ∀ v, y.eval (.const v) = v := fun _ => rfl
    have f1 : y.eval (Operand.tmp 1) = .pointer (some ⟨b, 0, none⟩) := (R 1 (not_of (by rw [hds]; decide))).trans h1
    exact wp_value (ox_load ho f1 (ld58 (D hinv p10) (D hinv p11) (D hinv p12) (D hinv p13))) (hK _ _ (Mod.refl _ _) ⟨_, _, _, _, rfl, i10, i13⟩ hinv)
  have s4 : ∀ o, ops[4]? = some o → StepW Try.prog ops (fun i v w => Pk b cv bv ([0, 1, 0, 0, 1, 0, 0, 1, 0, 2, 3, 0, 1, 2, 3, 0, 1, 2, 3, 0, 1, 2, 3, 0, 1, 2, 3, 0, 1, 0, 1, 3, 0, 1, 1, 4, 4].getD i 0) v w) (fun _ W => Mod (fun _ => False) w0.drew W) a0 Q 4 o := by
    refine E4.stepW fun o hd ho hg hw => ?_
    intro y w listed hsz hls hun hwt hdown D' R hinv K hK
    refine .inl ⟨wanted_none hg, ?_⟩
    have hc : ∀ v, y.eval (.const v) = v := fun _ => rfl
    have f70 : IsP (y.eval (Operand.tmp 70)) := E2.postW (Post := (fun i v w => Pk b cv bv ([0, 1, 0, 0, 1, 0, 0, 1, 0, 2, 3, 0, 1, 2, 3, 0, 1, 2, 3, 0, 1, 2, 3, 0, 1, 2, 3, 0, 1, 0, 1, 3, 0, 1, 1, 4, 4].getD i 0) v w)) (a := y) (w := w) D' (hw 2 (by simp))
    have f71 : IsP (y.eval (Operand.tmp 71)) := E3.postW (Post := (fun i v w => Pk b cv bv ([0, 1, 0, 0, 1, 0, 0, 1, 0, 2, 3, 0, 1, 2, 3, 0, 1, 2, 3, 0, 1, 2, 3, 0, 1, 2, 3, 0, 1, 0, 1, 3, 0, 1, 1, 4, 4].getD i 0) v w)) (a := y) (w := w) D' (hw 3 (by simp))
    obtain ⟨r70, s70, p70, m70, e70, hr70, hm70⟩ := f70
    obtain ⟨r71, s71, p71, m71, e71, hr71, hm71⟩ := f71
    exact wp_value (ln12_4 ho e70 e71) (hK _ _ ((Mod.refl (fun _ => False) w).alloc _) (pl2 w hr70 hm70 hr71 hm71) (hinv.alloc _))
  have s5 : ∀ o, ops[5]? = some o → StepW Try.prog ops (fun i v w => Pk b cv bv ([0, 1, 0, 0, 1, 0, 0, 1, 0, 2, 3, 0, 1, 2, 3, 0, 1, 2, 3, 0, 1, 2, 3, 0, 1, 2, 3, 0, 1, 0, 1, 3, 0, 1, 1, 4, 4].getD i 0) v w) (fun _ W => Mod (fun _ => False) w0.drew W) a0 Q 5 o := by
    refine E5.stepW fun o hd ho hg hw => ?_
    intro y w listed hsz hls hun hwt hdown D' R hinv K hK
    refine .inl ⟨wanted_none hg, ?_⟩
    have hc : ∀ v, y.eval (.const v) = v := fun _ => rfl
    have f1 : y.eval (Operand.tmp 1) = .pointer (some ⟨b, 0, none⟩) := (R 1 (not_of (by rw [hds]; decide))).trans h1
    exact wp_value (ox_load ho f1 (ld58 (D hinv p10) (D hinv p11) (D hinv p12) (D hinv p13))) (hK _ _ (Mod.refl _ _) ⟨_, _, _, _, rfl, i10, i13⟩ hinv)
  have s6 : ∀ o, ops[6]? = some o → StepW Try.prog ops (fun i v w => Pk b cv bv ([0, 1, 0, 0, 1, 0, 0, 1, 0, 2, 3, 0, 1, 2, 3, 0, 1, 2, 3, 0, 1, 2, 3, 0, 1, 2, 3, 0, 1, 0, 1, 3, 0, 1, 1, 4, 4].getD i 0) v w) (fun _ W => Mod (fun _ => False) w0.drew W) a0 Q 6 o := by
    refine E6.stepW fun o hd ho hg hw => ?_
    intro y w listed hsz hls hun hwt hdown D' R hinv K hK
    refine .inl ⟨wanted_none hg, ?_⟩
    have hc : ∀ v, y.eval (.const v) = v := fun _ => rfl
    have f1 : y.eval (Operand.tmp 1) = .pointer (some ⟨b, 0, none⟩) := (R 1 (not_of (by rw [hds]; decide))).trans h1
    exact wp_value (ox_load ho f1 (ld58 (D hinv p10) (D hinv p11) (D hinv p12) (D hinv p13))) (hK _ _ (Mod.refl _ _) ⟨_, _, _, _, rfl, i10, i13⟩ hinv)
  have s7 : ∀ o, ops[7]? = some o → StepW Try.prog ops (fun i v w => Pk b cv bv ([0, 1, 0, 0, 1, 0, 0, 1, 0, 2, 3, 0, 1, 2, 3, 0, 1, 2, 3, 0, 1, 2, 3, 0, 1, 2, 3, 0, 1, 0, 1, 3, 0, 1, 1, 4, 4].getD i 0) v w) (fun _ W => Mod (fun _ => False) w0.drew W) a0 Q 7 o := by
    refine E7.stepW fun o hd ho hg hw => ?_
    intro y w listed hsz hls hun hwt hdown D' R hinv K hK
    refine .inl ⟨wanted_none hg, ?_⟩
    have hc : ∀ v, y.eval (.const v) = v := fun _ => rfl
    have f73 : IsP (y.eval (Operand.tmp 73)) := E5.postW (Post := (fun i v w => Pk b cv bv ([0, 1, 0, 0, 1, 0, 0, 1, 0, 2, 3, 0, 1, 2, 3, 0, 1, 2, 3, 0, 1, 2, 3, 0, 1, 2, 3, 0, 1, 0, 1, 3, 0, 1, 1, 4, 4].getD i 0) v w)) (a := y) (w := w) D' (hw 5 (by simp))
    have f74 : IsP (y.eval (Operand.tmp 74)) := E6.postW (Post := (fun i v w => Pk b cv bv ([0, 1, 0, 0, 1, 0, 0, 1, 0, 2, 3, 0, 1, 2, 3, 0, 1, 2, 3, 0, 1, 2, 3, 0, 1, 2, 3, 0, 1, 0, 1, 3, 0, 1, 1, 4, 4].getD i 0) v w)) (a := y) (w := w) D' (hw 6 (by simp))
    obtain ⟨r73, s73, p73, m73, e73, hr73, hm73⟩ := f73
    obtain ⟨r74, s74, p74, m74, e74, hr74, hm74⟩ := f74
    exact wp_value (ln12_7 ho e73 e74) (hK _ _ ((Mod.refl (fun _ => False) w).alloc _) (pl2 w hr73 hm73 hr74 hm74) (hinv.alloc _))
  have s8 : ∀ o, ops[8]? = some o → StepW Try.prog ops (fun i v w => Pk b cv bv ([0, 1, 0, 0, 1, 0, 0, 1, 0, 2, 3, 0, 1, 2, 3, 0, 1, 2, 3, 0, 1, 2, 3, 0, 1, 2, 3, 0, 1, 0, 1, 3, 0, 1, 1, 4, 4].getD i 0) v w) (fun _ W => Mod (fun _ => False) w0.drew W) a0 Q 8 o := by
    refine E8.stepW fun o hd ho hg hw => ?_
    intro y w listed hsz hls hun hwt hdown D' R hinv K hK
    refine .inl ⟨wanted_none hg, ?_⟩
    have hc : ∀ v, y.eval (.const v) = v := fun _ => rfl
    have f1 : y.eval (Operand.tmp 1) = .pointer (some ⟨b, 0, none⟩) := (R 1 (not_of (by rw [hds]; decide))).trans h1
    exact wp_value (ox_load ho f1 (ld58 (D hinv p10) (D hinv p11) (D hinv p12) (D hinv p13))) (hK _ _ (Mod.refl _ _) ⟨_, _, _, _, rfl, i10, i13⟩ hinv)
  have s9 : ∀ o, ops[9]? = some o → StepW Try.prog ops (fun i v w => Pk b cv bv ([0, 1, 0, 0, 1, 0, 0, 1, 0, 2, 3, 0, 1, 2, 3, 0, 1, 2, 3, 0, 1, 2, 3, 0, 1, 2, 3, 0, 1, 0, 1, 3, 0, 1, 1, 4, 4].getD i 0) v w) (fun _ W => Mod (fun _ => False) w0.drew W) a0 Q 9 o := by
    refine E9.stepW fun o hd ho hg hw => ?_
    intro y w listed hsz hls hun hwt hdown D' R hinv K hK
    refine .inl ⟨wanted_none hg, ?_⟩
    have hc : ∀ v, y.eval (.const v) = v := fun _ => rfl
    have f1 : y.eval (Operand.tmp 1) = .pointer (some ⟨b, 0, none⟩) := (R 1 (not_of (by rw [hds]; decide))).trans h1
    exact wp_value (ox_field ho f1 (fl58 w)) (hK _ _ (Mod.refl _ _) rfl hinv)
  have s10 : ∀ o, ops[10]? = some o → StepW Try.prog ops (fun i v w => Pk b cv bv ([0, 1, 0, 0, 1, 0, 0, 1, 0, 2, 3, 0, 1, 2, 3, 0, 1, 2, 3, 0, 1, 2, 3, 0, 1, 2, 3, 0, 1, 0, 1, 3, 0, 1, 1, 4, 4].getD i 0) v w) (fun _ W => Mod (fun _ => False) w0.drew W) a0 Q 10 o := by
    refine E10.stepW fun o hd ho hg hw => ?_
    intro y w listed hsz hls hun hwt hdown D' R hinv K hK
    refine .inl ⟨wanted_none hg, ?_⟩
    have hc : ∀ v, y.eval (.const v) = v := fun _ => rfl
    have f77 : y.eval (Operand.tmp 77) = .pointer (some ⟨b, 1, none⟩) := E9.postW (Post := (fun i v w => Pk b cv bv ([0, 1, 0, 0, 1, 0, 0, 1, 0, 2, 3, 0, 1, 2, 3, 0, 1, 2, 3, 0, 1, 2, 3, 0, 1, 2, 3, 0, 1, 0, 1, 3, 0, 1, 1, 4, 4].getD i 0) v w)) (a := y) (w := w) D' (hw 9 (by simp))
    exact wp_value (ox_load ho f77 (ld23 (D hinv p11) (D hinv p12))) (hK _ _ (Mod.refl _ _) ⟨_, _, rfl⟩ hinv)
  have s11 : ∀ o, ops[11]? = some o → StepW Try.prog ops (fun i v w => Pk b cv bv ([0, 1, 0, 0, 1, 0, 0, 1, 0, 2, 3, 0, 1, 2, 3, 0, 1, 2, 3, 0, 1, 2, 3, 0, 1, 2, 3, 0, 1, 0, 1, 3, 0, 1, 1, 4, 4].getD i 0) v w) (fun _ W => Mod (fun _ => False) w0.drew W) a0 Q 11 o := by
    refine E11.stepW fun o hd ho hg hw => ?_
    intro y w listed hsz hls hun hwt hdown D' R hinv K hK
    refine .inl ⟨wanted_none hg, ?_⟩
    have hc : ∀ v, y.eval (.const v) = v := fun _ => rfl
    have f78 : IsR (y.eval (Operand.tmp 78)) := E10.postW (Post := (fun i v w => Pk b cv bv ([0, 1, 0, 0, 1, 0, 0, 1, 0, 2, 3, 0, 1, 2, 3, 0, 1, 2, 3, 0, 1, 2, 3, 0, 1, 2, 3, 0, 1, 0, 1, 3, 0, 1, 1, 4, 4].getD i 0) v w)) (a := y) (w := w) D' (hw 10 (by simp))
    obtain ⟨x78, y78, e78⟩ := f78
    exact wp_value (ln12_11 hc ho e78) (hK _ _ (Mod.refl _ _) ⟨_, _, _, _, rfl, by unfold I64; omega, by unfold I64; omega⟩ hinv)
  have s12 : ∀ o, ops[12]? = some o → StepW Try.prog ops (fun i v w => Pk b cv bv ([0, 1, 0, 0, 1, 0, 0, 1, 0, 2, 3, 0, 1, 2, 3, 0, 1, 2, 3, 0, 1, 2, 3, 0, 1, 2, 3, 0, 1, 0, 1, 3, 0, 1, 1, 4, 4].getD i 0) v w) (fun _ W => Mod (fun _ => False) w0.drew W) a0 Q 12 o := by
    refine E12.stepW fun o hd ho hg hw => ?_
    intro y w listed hsz hls hun hwt hdown D' R hinv K hK
    refine .inl ⟨wanted_none hg, ?_⟩
    have hc : ∀ v, y.eval (.const v) = v := fun _ => rfl
    have f76 : IsP (y.eval (Operand.tmp 76)) := E8.postW (Post := (fun i v w => Pk b cv bv ([0, 1, 0, 0, 1, 0, 0, 1, 0, 2, 3, 0, 1, 2, 3, 0, 1, 2, 3, 0, 1, 2, 3, 0, 1, 2, 3, 0, 1, 0, 1, 3, 0, 1, 1, 4, 4].getD i 0) v w)) (a := y) (w := w) D' (hw 8 (by simp))
    have f79 : IsP (y.eval (Operand.tmp 79)) := E11.postW (Post := (fun i v w => Pk b cv bv ([0, 1, 0, 0, 1, 0, 0, 1, 0, 2, 3, 0, 1, 2, 3, 0, 1, 2, 3, 0, 1, 2, 3, 0, 1, 2, 3, 0, 1, 0, 1, 3, 0, 1, 1, 4, 4].getD i 0) v w)) (a := y) (w := w) D' (hw 11 (by simp))
    obtain ⟨r76, s76, p76, m76, e76, hr76, hm76⟩ := f76
    obtain ⟨r79, s79, p79, m79, e79, hr79, hm79⟩ := f79
    exact wp_value (ln12_12 ho e76 e79) (hK _ _ ((Mod.refl (fun _ => False) w).alloc _) (pl2 w hr76 hm76 hr79 hm79) (hinv.alloc _))
  have s13 : ∀ o, ops[13]? = some o → StepW Try.prog ops (fun i v w => Pk b cv bv ([0, 1, 0, 0, 1, 0, 0, 1, 0, 2, 3, 0, 1, 2, 3, 0, 1, 2, 3, 0, 1, 2, 3, 0, 1, 2, 3, 0, 1, 0, 1, 3, 0, 1, 1, 4, 4].getD i 0) v w) (fun _ W => Mod (fun _ => False) w0.drew W) a0 Q 13 o := by
    refine E13.stepW fun o hd ho hg hw => ?_
    intro y w listed hsz hls hun hwt hdown D' R hinv K hK
    refine .inl ⟨wanted_none hg, ?_⟩
    have hc : ∀ v, y.eval (.const v) = v := fun _ => rfl
    have f1 : y.eval (Operand.tmp 1) = .pointer (some ⟨b, 0, none⟩) := (R 1 (not_of (by rw [hds]; decide))).trans h1
    exact wp_value (ox_field ho f1 (fl58 w)) (hK _ _ (Mod.refl _ _) rfl hinv)
  have s14 : ∀ o, ops[14]? = some o → StepW Try.prog ops (fun i v w => Pk b cv bv ([0, 1, 0, 0, 1, 0, 0, 1, 0, 2, 3, 0, 1, 2, 3, 0, 1, 2, 3, 0, 1, 2, 3, 0, 1, 2, 3, 0, 1, 0, 1, 3, 0, 1, 1, 4, 4].getD i 0) v w) (fun _ W => Mod (fun _ => False) w0.drew W) a0 Q 14 o := by
    refine E14.stepW fun o hd ho hg hw => ?_
    intro y w listed hsz hls hun hwt hdown D' R hinv K hK
    refine .inl ⟨wanted_none hg, ?_⟩
    have hc : ∀ v, y.eval (.const v) = v := fun _ => rfl
    have f81 : y.eval (Operand.tmp 81) = .pointer (some ⟨b, 1, none⟩) := E13.postW (Post := (fun i v w => Pk b cv bv ([0, 1, 0, 0, 1, 0, 0, 1, 0, 2, 3, 0, 1, 2, 3, 0, 1, 2, 3, 0, 1, 2, 3, 0, 1, 2, 3, 0, 1, 0, 1, 3, 0, 1, 1, 4, 4].getD i 0) v w)) (a := y) (w := w) D' (hw 13 (by simp))
    exact wp_value (ox_load ho f81 (ld23 (D hinv p11) (D hinv p12))) (hK _ _ (Mod.refl _ _) ⟨_, _, rfl⟩ hinv)
  have s15 : ∀ o, ops[15]? = some o → StepW Try.prog ops (fun i v w => Pk b cv bv ([0, 1, 0, 0, 1, 0, 0, 1, 0, 2, 3, 0, 1, 2, 3, 0, 1, 2, 3, 0, 1, 2, 3, 0, 1, 2, 3, 0, 1, 0, 1, 3, 0, 1, 1, 4, 4].getD i 0) v w) (fun _ W => Mod (fun _ => False) w0.drew W) a0 Q 15 o := by
    refine E15.stepW fun o hd ho hg hw => ?_
    intro y w listed hsz hls hun hwt hdown D' R hinv K hK
    refine .inl ⟨wanted_none hg, ?_⟩
    have hc : ∀ v, y.eval (.const v) = v := fun _ => rfl
    have f82 : IsR (y.eval (Operand.tmp 82)) := E14.postW (Post := (fun i v w => Pk b cv bv ([0, 1, 0, 0, 1, 0, 0, 1, 0, 2, 3, 0, 1, 2, 3, 0, 1, 2, 3, 0, 1, 2, 3, 0, 1, 2, 3, 0, 1, 0, 1, 3, 0, 1, 1, 4, 4].getD i 0) v w)) (a := y) (w := w) D' (hw 14 (by simp))
    obtain ⟨x82, y82, e82⟩ := f82
    exact wp_value (ln12_15 hc ho e82) (hK _ _ (Mod.refl _ _) ⟨_, _, _, _, rfl, by unfold I64; omega, by unfold I64; omega⟩ hinv)
  have s16 : ∀ o, ops[16]? = some o → StepW Try.prog ops (fun i v w => Pk b cv bv ([0, 1, 0, 0, 1, 0, 0, 1, 0, 2, 3, 0, 1, 2, 3, 0, 1, 2, 3, 0, 1, 2, 3, 0, 1, 2, 3, 0, 1, 0, 1, 3, 0, 1, 1, 4, 4].getD i 0) v w) (fun _ W => Mod (fun _ => False) w0.drew W) a0 Q 16 o := by
    refine E16.stepW fun o hd ho hg hw => ?_
    intro y w listed hsz hls hun hwt hdown D' R hinv K hK
    refine .inl ⟨wanted_none hg, ?_⟩
    have hc : ∀ v, y.eval (.const v) = v := fun _ => rfl
    have f83 : IsP (y.eval (Operand.tmp 83)) := E15.postW (Post := (fun i v w => Pk b cv bv ([0, 1, 0, 0, 1, 0, 0, 1, 0, 2, 3, 0, 1, 2, 3, 0, 1, 2, 3, 0, 1, 2, 3, 0, 1, 2, 3, 0, 1, 0, 1, 3, 0, 1, 1, 4, 4].getD i 0) v w)) (a := y) (w := w) D' (hw 15 (by simp))
    obtain ⟨r83, s83, p83, m83, e83, hr83, hm83⟩ := f83
    exact wp_value (ln12_16 ho e83) (hK _ _ ((Mod.refl (fun _ => False) w).alloc _) (pl1 w hr83 hm83) (hinv.alloc _))
  have s17 : ∀ o, ops[17]? = some o → StepW Try.prog ops (fun i v w => Pk b cv bv ([0, 1, 0, 0, 1, 0, 0, 1, 0, 2, 3, 0, 1, 2, 3, 0, 1, 2, 3, 0, 1, 2, 3, 0, 1, 2, 3, 0, 1, 0, 1, 3, 0, 1, 1, 4, 4].getD i 0) v w) (fun _ W => Mod (fun _ => False) w0.drew W) a0 Q 17 o := by
    refine E17.stepW fun o hd ho hg hw => ?_
    intro y w listed hsz hls hun hwt hdown D' R hinv K hK
    refine .inl ⟨wanted_none hg, ?_⟩
    have hc : ∀ v, y.eval (.const v) = v := fun _ => rfl
    have f1 : y.eval (Operand.tmp 1) = .pointer (some ⟨b, 0, none⟩) := (R 1 (not_of (by rw [hds]; decide))).trans h1
    exact wp_value (ox_field ho f1 (fl58 w)) (hK _ _ (Mod.refl _ _) rfl hinv)
  have s18 : ∀ o, ops[18]? = some o → StepW Try.prog ops (fun i v w => Pk b cv bv ([0, 1, 0, 0, 1, 0, 0, 1, 0, 2, 3, 0, 1, 2, 3, 0, 1, 2, 3, 0, 1, 2, 3, 0, 1, 2, 3, 0, 1, 0, 1, 3, 0, 1, 1, 4, 4].getD i 0) v w) (fun _ W => Mod (fun _ => False) w0.drew W) a0 Q 18 o := by
    refine E18.stepW fun o hd ho hg hw => ?_
    intro y w listed hsz hls hun hwt hdown D' R hinv K hK
    refine .inl ⟨wanted_none hg, ?_⟩
    have hc : ∀ v, y.eval (.const v) = v := fun _ => rfl
    have f85 : y.eval (Operand.tmp 85) = .pointer (some ⟨b, 1, none⟩) := E17.postW (Post := (fun i v w => Pk b cv bv ([0, 1, 0, 0, 1, 0, 0, 1, 0, 2, 3, 0, 1, 2, 3, 0, 1, 2, 3, 0, 1, 2, 3, 0, 1, 2, 3, 0, 1, 0, 1, 3, 0, 1, 1, 4, 4].getD i 0) v w)) (a := y) (w := w) D' (hw 17 (by simp))
    exact wp_value (ox_load ho f85 (ld23 (D hinv p11) (D hinv p12))) (hK _ _ (Mod.refl _ _) ⟨_, _, rfl⟩ hinv)
  have s19 : ∀ o, ops[19]? = some o → StepW Try.prog ops (fun i v w => Pk b cv bv ([0, 1, 0, 0, 1, 0, 0, 1, 0, 2, 3, 0, 1, 2, 3, 0, 1, 2, 3, 0, 1, 2, 3, 0, 1, 2, 3, 0, 1, 0, 1, 3, 0, 1, 1, 4, 4].getD i 0) v w) (fun _ W => Mod (fun _ => False) w0.drew W) a0 Q 19 o := by
    refine E19.stepW fun o hd ho hg hw => ?_
    intro y w listed hsz hls hun hwt hdown D' R hinv K hK
    refine .inl ⟨wanted_none hg, ?_⟩
    have hc : ∀ v, y.eval (.const v) = v := fun _ => rfl
    have f86 : IsR (y.eval (Operand.tmp 86)) := E18.postW (Post := (fun i v w => Pk b cv bv ([0, 1, 0, 0, 1, 0, 0, 1, 0, 2, 3, 0, 1, 2, 3, 0, 1, 2, 3, 0, 1, 2, 3, 0, 1, 2, 3, 0, 1, 0, 1, 3, 0, 1, 1, 4, 4].getD i 0) v w)) (a := y) (w := w) D' (hw 18 (by simp))
    obtain ⟨x86, y86, e86⟩ := f86
    exact wp_value (ln12_19 ho e86) (hK _ _ (Mod.refl _ _) ⟨_, _, _, _, rfl, by unfold I64; omega, by unfold I64; omega⟩ hinv)
  have s20 : ∀ o, ops[20]? = some o → StepW Try.prog ops (fun i v w => Pk b cv bv ([0, 1, 0, 0, 1, 0, 0, 1, 0, 2, 3, 0, 1, 2, 3, 0, 1, 2, 3, 0, 1, 2, 3, 0, 1, 2, 3, 0, 1, 0, 1, 3, 0, 1, 1, 4, 4].getD i 0) v w) (fun _ W => Mod (fun _ => False) w0.drew W) a0 Q 20 o := by
    refine E20.stepW fun o hd ho hg hw => ?_
    intro y w listed hsz hls hun hwt hdown D' R hinv K hK
    refine .inl ⟨wanted_none hg, ?_⟩
    have hc : ∀ v, y.eval (.const v) = v := fun _ => rfl
    have f87 : IsP (y.eval (Operand.tmp 87)) := E19.postW (Post := (fun i v w => Pk b cv bv ([0, 1, 0, 0, 1, 0, 0, 1, 0, 2, 3, 0, 1, 2, 3, 0, 1, 2, 3, 0, 1, 2, 3, 0, 1, 2, 3, 0, 1, 0, 1, 3, 0, 1, 1, 4, 4].getD i 0) v w)) (a := y) (w := w) D' (hw 19 (by simp))
    obtain ⟨r87, s87, p87, m87, e87, hr87, hm87⟩ := f87
    exact wp_value (ln12_20 ho e87) (hK _ _ ((Mod.refl (fun _ => False) w).alloc _) (pl1 w hr87 hm87) (hinv.alloc _))
  have s21 : ∀ o, ops[21]? = some o → StepW Try.prog ops (fun i v w => Pk b cv bv ([0, 1, 0, 0, 1, 0, 0, 1, 0, 2, 3, 0, 1, 2, 3, 0, 1, 2, 3, 0, 1, 2, 3, 0, 1, 2, 3, 0, 1, 0, 1, 3, 0, 1, 1, 4, 4].getD i 0) v w) (fun _ W => Mod (fun _ => False) w0.drew W) a0 Q 21 o := by
    refine E21.stepW fun o hd ho hg hw => ?_
    intro y w listed hsz hls hun hwt hdown D' R hinv K hK
    refine .inl ⟨wanted_none hg, ?_⟩
    have hc : ∀ v, y.eval (.const v) = v := fun _ => rfl
    have f1 : y.eval (Operand.tmp 1) = .pointer (some ⟨b, 0, none⟩) := (R 1 (not_of (by rw [hds]; decide))).trans h1
    exact wp_value (ox_field ho f1 (fl58 w)) (hK _ _ (Mod.refl _ _) rfl hinv)
  have s22 : ∀ o, ops[22]? = some o → StepW Try.prog ops (fun i v w => Pk b cv bv ([0, 1, 0, 0, 1, 0, 0, 1, 0, 2, 3, 0, 1, 2, 3, 0, 1, 2, 3, 0, 1, 2, 3, 0, 1, 2, 3, 0, 1, 0, 1, 3, 0, 1, 1, 4, 4].getD i 0) v w) (fun _ W => Mod (fun _ => False) w0.drew W) a0 Q 22 o := by
    refine E22.stepW fun o hd ho hg hw => ?_
    intro y w listed hsz hls hun hwt hdown D' R hinv K hK
    refine .inl ⟨wanted_none hg, ?_⟩
    have hc : ∀ v, y.eval (.const v) = v := fun _ => rfl
    have f89 : y.eval (Operand.tmp 89) = .pointer (some ⟨b, 1, none⟩) := E21.postW (Post := (fun i v w => Pk b cv bv ([0, 1, 0, 0, 1, 0, 0, 1, 0, 2, 3, 0, 1, 2, 3, 0, 1, 2, 3, 0, 1, 2, 3, 0, 1, 2, 3, 0, 1, 0, 1, 3, 0, 1, 1, 4, 4].getD i 0) v w)) (a := y) (w := w) D' (hw 21 (by simp))
    exact wp_value (ox_load ho f89 (ld23 (D hinv p11) (D hinv p12))) (hK _ _ (Mod.refl _ _) ⟨_, _, rfl⟩ hinv)
  have s23 : ∀ o, ops[23]? = some o → StepW Try.prog ops (fun i v w => Pk b cv bv ([0, 1, 0, 0, 1, 0, 0, 1, 0, 2, 3, 0, 1, 2, 3, 0, 1, 2, 3, 0, 1, 2, 3, 0, 1, 2, 3, 0, 1, 0, 1, 3, 0, 1, 1, 4, 4].getD i 0) v w) (fun _ W => Mod (fun _ => False) w0.drew W) a0 Q 23 o := by
    refine E23.stepW fun o hd ho hg hw => ?_
    intro y w listed hsz hls hun hwt hdown D' R hinv K hK
    refine .inl ⟨wanted_none hg, ?_⟩
    have hc : ∀ v, y.eval (.const v) = v := fun _ => rfl
    have f90 : IsR (y.eval (Operand.tmp 90)) := E22.postW (Post := (fun i v w => Pk b cv bv ([0, 1, 0, 0, 1, 0, 0, 1, 0, 2, 3, 0, 1, 2, 3, 0, 1, 2, 3, 0, 1, 2, 3, 0, 1, 2, 3, 0, 1, 0, 1, 3, 0, 1, 1, 4, 4].getD i 0) v w)) (a := y) (w := w) D' (hw 22 (by simp))
    obtain ⟨x90, y90, e90⟩ := f90
    exact wp_value (ln12_23 hc ho e90) (hK _ _ (Mod.refl _ _) ⟨_, _, _, _, rfl, by unfold I64; omega, by unfold I64; omega⟩ hinv)
  have s24 : ∀ o, ops[24]? = some o → StepW Try.prog ops (fun i v w => Pk b cv bv ([0, 1, 0, 0, 1, 0, 0, 1, 0, 2, 3, 0, 1, 2, 3, 0, 1, 2, 3, 0, 1, 2, 3, 0, 1, 2, 3, 0, 1, 0, 1, 3, 0, 1, 1, 4, 4].getD i 0) v w) (fun _ W => Mod (fun _ => False) w0.drew W) a0 Q 24 o := by
    refine E24.stepW fun o hd ho hg hw => ?_
    intro y w listed hsz hls hun hwt hdown D' R hinv K hK
    refine .inl ⟨wanted_none hg, ?_⟩
    have hc : ∀ v, y.eval (.const v) = v := fun _ => rfl
    have f91 : IsP (y.eval (Operand.tmp 91)) := E23.postW (Post := (fun i v w => Pk b cv bv ([0, 1, 0, 0, 1, 0, 0, 1, 0, 2, 3, 0, 1, 2, 3, 0, 1, 2, 3, 0, 1, 2, 3, 0, 1, 2, 3, 0, 1, 0, 1, 3, 0, 1, 1, 4, 4].getD i 0) v w)) (a := y) (w := w) D' (hw 23 (by simp))
    obtain ⟨r91, s91, p91, m91, e91, hr91, hm91⟩ := f91
    exact wp_value (ln12_24 ho e91) (hK _ _ ((Mod.refl (fun _ => False) w).alloc _) (pl1 w hr91 hm91) (hinv.alloc _))
  have s25 : ∀ o, ops[25]? = some o → StepW Try.prog ops (fun i v w => Pk b cv bv ([0, 1, 0, 0, 1, 0, 0, 1, 0, 2, 3, 0, 1, 2, 3, 0, 1, 2, 3, 0, 1, 2, 3, 0, 1, 2, 3, 0, 1, 0, 1, 3, 0, 1, 1, 4, 4].getD i 0) v w) (fun _ W => Mod (fun _ => False) w0.drew W) a0 Q 25 o := by
    refine E25.stepW fun o hd ho hg hw => ?_
    intro y w listed hsz hls hun hwt hdown D' R hinv K hK
    refine .inl ⟨wanted_none hg, ?_⟩
    have hc : ∀ v, y.eval (.const v) = v := fun _ => rfl
    have f1 : y.eval (Operand.tmp 1) = .pointer (some ⟨b, 0, none⟩) := (R 1 (not_of (by rw [hds]; decide))).trans h1
    exact wp_value (ox_field ho f1 (fl58 w)) (hK _ _ (Mod.refl _ _) rfl hinv)
  have s26 : ∀ o, ops[26]? = some o → StepW Try.prog ops (fun i v w => Pk b cv bv ([0, 1, 0, 0, 1, 0, 0, 1, 0, 2, 3, 0, 1, 2, 3, 0, 1, 2, 3, 0, 1, 2, 3, 0, 1, 2, 3, 0, 1, 0, 1, 3, 0, 1, 1, 4, 4].getD i 0) v w) (fun _ W => Mod (fun _ => False) w0.drew W) a0 Q 26 o := by
    refine E26.stepW fun o hd ho hg hw => ?_
    intro y w listed hsz hls hun hwt hdown D' R hinv K hK
    refine .inl ⟨wanted_none hg, ?_⟩
    have hc : ∀ v, y.eval (.const v) = v := fun _ => rfl
    have f93 : y.eval (Operand.tmp 93) = .pointer (some ⟨b, 1, none⟩) := E25.postW (Post := (fun i v w => Pk b cv bv ([0, 1, 0, 0, 1, 0, 0, 1, 0, 2, 3, 0, 1, 2, 3, 0, 1, 2, 3, 0, 1, 2, 3, 0, 1, 2, 3, 0, 1, 0, 1, 3, 0, 1, 1, 4, 4].getD i 0) v w)) (a := y) (w := w) D' (hw 25 (by simp))
    exact wp_value (ox_load ho f93 (ld23 (D hinv p11) (D hinv p12))) (hK _ _ (Mod.refl _ _) ⟨_, _, rfl⟩ hinv)
  have s27 : ∀ o, ops[27]? = some o → StepW Try.prog ops (fun i v w => Pk b cv bv ([0, 1, 0, 0, 1, 0, 0, 1, 0, 2, 3, 0, 1, 2, 3, 0, 1, 2, 3, 0, 1, 2, 3, 0, 1, 2, 3, 0, 1, 0, 1, 3, 0, 1, 1, 4, 4].getD i 0) v w) (fun _ W => Mod (fun _ => False) w0.drew W) a0 Q 27 o := by
    refine E27.stepW fun o hd ho hg hw => ?_
    intro y w listed hsz hls hun hwt hdown D' R hinv K hK
    refine .inl ⟨wanted_none hg, ?_⟩
    have hc : ∀ v, y.eval (.const v) = v := fun _ => rfl
    have f94 : IsR (y.eval (Operand.tmp 94)) := E26.postW (Post := (fun i v w => Pk b cv bv ([0, 1, 0, 0, 1, 0, 0, 1, 0, 2, 3, 0, 1, 2, 3, 0, 1, 2, 3, 0, 1, 2, 3, 0, 1, 2, 3, 0, 1, 0, 1, 3, 0, 1, 1, 4, 4].getD i 0) v w)) (a := y) (w := w) D' (hw 26 (by simp))
    obtain ⟨x94, y94, e94⟩ := f94
    exact wp_value (ln12_27 hc ho e94) (hK _ _ (Mod.refl _ _) ⟨_, _, _, _, rfl, by unfold I64; omega, by unfold I64; omega⟩ hinv)
  have s28 : ∀ o, ops[28]? = some o → StepW Try.prog ops (fun i v w => Pk b cv bv ([0, 1, 0, 0, 1, 0, 0, 1, 0, 2, 3, 0, 1, 2, 3, 0, 1, 2, 3, 0, 1, 2, 3, 0, 1, 2, 3, 0, 1, 0, 1, 3, 0, 1, 1, 4, 4].getD i 0) v w) (fun _ W => Mod (fun _ => False) w0.drew W) a0 Q 28 o := by
    refine E28.stepW fun o hd ho hg hw => ?_
    intro y w listed hsz hls hun hwt hdown D' R hinv K hK
    refine .inl ⟨wanted_none hg, ?_⟩
    have hc : ∀ v, y.eval (.const v) = v := fun _ => rfl
    have f95 : IsP (y.eval (Operand.tmp 95)) := E27.postW (Post := (fun i v w => Pk b cv bv ([0, 1, 0, 0, 1, 0, 0, 1, 0, 2, 3, 0, 1, 2, 3, 0, 1, 2, 3, 0, 1, 2, 3, 0, 1, 2, 3, 0, 1, 0, 1, 3, 0, 1, 1, 4, 4].getD i 0) v w)) (a := y) (w := w) D' (hw 27 (by simp))
    obtain ⟨r95, s95, p95, m95, e95, hr95, hm95⟩ := f95
    exact wp_value (ln12_28 ho e95) (hK _ _ ((Mod.refl (fun _ => False) w).alloc _) (pl1 w hr95 hm95) (hinv.alloc _))
  have s29 : ∀ o, ops[29]? = some o → StepW Try.prog ops (fun i v w => Pk b cv bv ([0, 1, 0, 0, 1, 0, 0, 1, 0, 2, 3, 0, 1, 2, 3, 0, 1, 2, 3, 0, 1, 2, 3, 0, 1, 2, 3, 0, 1, 0, 1, 3, 0, 1, 1, 4, 4].getD i 0) v w) (fun _ W => Mod (fun _ => False) w0.drew W) a0 Q 29 o := by
    refine E29.stepW fun o hd ho hg hw => ?_
    intro y w listed hsz hls hun hwt hdown D' R hinv K hK
    refine .inl ⟨wanted_none hg, ?_⟩
    have hc : ∀ v, y.eval (.const v) = v := fun _ => rfl
    exact wp_value (ln12_29 hc ho) (hK _ _ (Mod.refl _ _) ⟨_, _, _, _, rfl, by unfold I64; omega, by unfold I64; omega⟩ hinv)
  have s30 : ∀ o, ops[30]? = some o → StepW Try.prog ops (fun i v w => Pk b cv bv ([0, 1, 0, 0, 1, 0, 0, 1, 0, 2, 3, 0, 1, 2, 3, 0, 1, 2, 3, 0, 1, 2, 3, 0, 1, 2, 3, 0, 1, 0, 1, 3, 0, 1, 1, 4, 4].getD i 0) v w) (fun _ W => Mod (fun _ => False) w0.drew W) a0 Q 30 o := by
    refine E30.stepW fun o hd ho hg hw => ?_
    intro y w listed hsz hls hun hwt hdown D' R hinv K hK
    refine .inl ⟨wanted_none hg, ?_⟩
    have hc : ∀ v, y.eval (.const v) = v := fun _ => rfl
    have f97 : IsP (y.eval (Operand.tmp 97)) := E29.postW (Post := (fun i v w => Pk b cv bv ([0, 1, 0, 0, 1, 0, 0, 1, 0, 2, 3, 0, 1, 2, 3, 0, 1, 2, 3, 0, 1, 2, 3, 0, 1, 2, 3, 0, 1, 0, 1, 3, 0, 1, 1, 4, 4].getD i 0) v w)) (a := y) (w := w) D' (hw 29 (by simp))
    obtain ⟨r97, s97, p97, m97, e97, hr97, hm97⟩ := f97
    exact wp_value (ln12_30 ho e97) (hK _ _ ((Mod.refl (fun _ => False) w).alloc _) (pl1 w hr97 hm97) (hinv.alloc _))
  have s31 : ∀ o, ops[31]? = some o → StepW Try.prog ops (fun i v w => Pk b cv bv ([0, 1, 0, 0, 1, 0, 0, 1, 0, 2, 3, 0, 1, 2, 3, 0, 1, 2, 3, 0, 1, 2, 3, 0, 1, 2, 3, 0, 1, 0, 1, 3, 0, 1, 1, 4, 4].getD i 0) v w) (fun _ W => Mod (fun _ => False) w0.drew W) a0 Q 31 o := by
    refine E31.stepW fun o hd ho hg hw => ?_
    intro y w listed hsz hls hun hwt hdown D' R hinv K hK
    refine .inl ⟨wanted_none hg, ?_⟩
    have hc : ∀ v, y.eval (.const v) = v := fun _ => rfl
    exact wp_value (ln12_31 hc ho) (hK _ _ (Mod.refl _ _) ⟨_, _, rfl⟩ hinv)
  have s32 : ∀ o, ops[32]? = some o → StepW Try.prog ops (fun i v w => Pk b cv bv ([0, 1, 0, 0, 1, 0, 0, 1, 0, 2, 3, 0, 1, 2, 3, 0, 1, 2, 3, 0, 1, 2, 3, 0, 1, 2, 3, 0, 1, 0, 1, 3, 0, 1, 1, 4, 4].getD i 0) v w) (fun _ W => Mod (fun _ => False) w0.drew W) a0 Q 32 o := by
    refine E32.stepW fun o hd ho hg hw => ?_
    intro y w listed hsz hls hun hwt hdown D' R hinv K hK
    refine .inl ⟨wanted_none hg, ?_⟩
    have hc : ∀ v, y.eval (.const v) = v := fun _ => rfl
    have f99 : IsR (y.eval (Operand.tmp 99)) := E31.postW (Post := (fun i v w => Pk b cv bv ([0, 1, 0, 0, 1, 0, 0, 1, 0, 2, 3, 0, 1, 2, 3, 0, 1, 2, 3, 0, 1, 2, 3, 0, 1, 2, 3, 0, 1, 0, 1, 3, 0, 1, 1, 4, 4].getD i 0) v w)) (a := y) (w := w) D' (hw 31 (by simp))
    obtain ⟨x99, y99, e99⟩ := f99
    exact wp_value (ln12_32 hc ho e99) (hK _ _ (Mod.refl _ _) ⟨_, _, _, _, rfl, by unfold I64; omega, by unfold I64; omega⟩ hinv)
  have s33 : ∀ o, ops[33]? = some o → StepW Try.prog ops (fun i v w => Pk b cv bv ([0, 1, 0, 0, 1, 0, 0, 1, 0, 2, 3, 0, 1, 2, 3, 0, 1, 2, 3, 0, 1, 2, 3, 0, 1, 2, 3, 0, 1, 0, 1, 3, 0, 1, 1, 4, 4].getD i 0) v w) (fun _ W => Mod (fun _ => False) w0.drew W) a0 Q 33 o := by
    refine E33.stepW fun o hd ho hg hw => ?_
    intro y w listed hsz hls hun hwt hdown D' R hinv K hK
    refine .inl ⟨wanted_none hg, ?_⟩
    have hc : ∀ v, y.eval (.const v) = v := fun _ => rfl
    have f100 : IsP (y.eval (Operand.tmp 100)) := E32.postW (Post := (fun i v w => Pk b cv bv ([0, 1, 0, 0, 1, 0, 0, 1, 0, 2, 3, 0, 1, 2, 3, 0, 1, 2, 3, 0, 1, 2, 3, 0, 1, 2, 3, 0, 1, 0, 1, 3, 0, 1, 1, 4, 4].getD i 0) v w)) (a := y) (w := w) D' (hw 32 (by simp))
    obtain ⟨r100, s100, p100, m100, e100, hr100, hm100⟩ := f100
    exact wp_value (ln12_33 ho e100) (hK _ _ ((Mod.refl (fun _ => False) w).alloc _) (pl1 w hr100 hm100) (hinv.alloc _))
  have s34 : ∀ o, ops[34]? = some o → StepW Try.prog ops (fun i v w => Pk b cv bv ([0, 1, 0, 0, 1, 0, 0, 1, 0, 2, 3, 0, 1, 2, 3, 0, 1, 2, 3, 0, 1, 2, 3, 0, 1, 2, 3, 0, 1, 0, 1, 3, 0, 1, 1, 4, 4].getD i 0) v w) (fun _ W => Mod (fun _ => False) w0.drew W) a0 Q 34 o := by
    refine E34.stepW fun o hd ho hg hw => ?_
    intro y w listed hsz hls hun hwt hdown D' R hinv K hK
    refine .inl ⟨wanted_none hg, ?_⟩
    have hc : ∀ v, y.eval (.const v) = v := fun _ => rfl
    exact wp_value (ln12_34 hc ho) (hK _ _ ((Mod.refl (fun _ => False) w).alloc _) (mk5 w).2 (hinv.alloc _))
  have s35 : ∀ o, ops[35]? = some o → StepW Try.prog ops (fun i v w => Pk b cv bv ([0, 1, 0, 0, 1, 0, 0, 1, 0, 2, 3, 0, 1, 2, 3, 0, 1, 2, 3, 0, 1, 2, 3, 0, 1, 2, 3, 0, 1, 0, 1, 3, 0, 1, 1, 4, 4].getD i 0) v w) (fun _ W => Mod (fun _ => False) w0.drew W) a0 Q 35 o := by
    refine E35.stepW fun o hd ho hg hw => ?_
    intro y w listed hsz hls hun hwt hdown D' R hinv K hK
    refine .inl ⟨wanted_none hg, ?_⟩
    have hc : ∀ v, y.eval (.const v) = v := fun _ => rfl
    have f69 : IsL w (y.eval (Operand.tmp 69)) := E1.postW (Post := (fun i v w => Pk b cv bv ([0, 1, 0, 0, 1, 0, 0, 1, 0, 2, 3, 0, 1, 2, 3, 0, 1, 2, 3, 0, 1, 2, 3, 0, 1, 2, 3, 0, 1, 0, 1, 3, 0, 1, 1, 4, 4].getD i 0) v w)) (a := y) (w := w) D' (hw 1 (by simp))
    have f72 : IsL w (y.eval (Operand.tmp 72)) := E4.postW (Post := (fun i v w => Pk b cv bv ([0, 1, 0, 0, 1, 0, 0, 1, 0, 2, 3, 0, 1, 2, 3, 0, 1, 2, 3, 0, 1, 2, 3, 0, 1, 2, 3, 0, 1, 0, 1, 3, 0, 1, 1, 4, 4].getD i 0) v w)) (a := y) (w := w) D' (hw 4 (by simp))
    have f75 : IsL w (y.eval (Operand.tmp 75)) := E7.postW (Post := (fun i v w => Pk b cv bv ([0, 1, 0, 0, 1, 0, 0, 1, 0, 2, 3, 0, 1, 2, 3, 0, 1, 2, 3, 0, 1, 2, 3, 0, 1, 2, 3, 0, 1, 0, 1, 3, 0, 1, 1, 4, 4].getD i 0) v w)) (a := y) (w := w) D' (hw 7 (by simp))
    have f80 : IsL w (y.eval (Operand.tmp 80)) := E12.postW (Post := (fun i v w => Pk b cv bv ([0, 1, 0, 0, 1, 0, 0, 1, 0, 2, 3, 0, 1, 2, 3, 0, 1, 2, 3, 0, 1, 2, 3, 0, 1, 2, 3, 0, 1, 0, 1, 3, 0, 1, 1, 4, 4].getD i 0) v w)) (a := y) (w := w) D' (hw 12 (by simp))
    have f84 : IsL w (y.eval (Operand.tmp 84)) := E16.postW (Post := (fun i v w => Pk b cv bv ([0, 1, 0, 0, 1, 0, 0, 1, 0, 2, 3, 0, 1, 2, 3, 0, 1, 2, 3, 0, 1, 2, 3, 0, 1, 2, 3, 0, 1, 0, 1, 3, 0, 1, 1, 4, 4].getD i 0) v w)) (a := y) (w := w) D' (hw 16 (by simp))
    have f88 : IsL w (y.eval (Operand.tmp 88)) := E20.postW (Post := (fun i v w => Pk b cv bv ([0, 1, 0, 0, 1, 0, 0, 1, 0, 2, 3, 0, 1, 2, 3, 0, 1, 2, 3, 0, 1, 2, 3, 0, 1, 2, 3, 0, 1, 0, 1, 3, 0, 1, 1, 4, 4].getD i 0) v w)) (a := y) (w := w) D' (hw 20 (by simp))
    have f92 : IsL w (y.eval (Operand.tmp 92)) := E24.postW (Post := (fun i v w => Pk b cv bv ([0, 1, 0, 0, 1, 0, 0, 1, 0, 2, 3, 0, 1, 2, 3, 0, 1, 2, 3, 0, 1, 2, 3, 0, 1, 2, 3, 0, 1, 0, 1, 3, 0, 1, 1, 4, 4].getD i 0) v w)) (a := y) (w := w) D' (hw 24 (by simp))
    have f96 : IsL w (y.eval (Operand.tmp 96)) := E28.postW (Post := (fun i v w => Pk b cv bv ([0, 1, 0, 0, 1, 0, 0, 1, 0, 2, 3, 0, 1, 2, 3, 0, 1, 2, 3, 0, 1, 2, 3, 0, 1, 2, 3, 0, 1, 0, 1, 3, 0, 1, 1, 4, 4].getD i 0) v w)) (a := y) (w := w) D' (hw 28 (by simp))
    have f98 : IsL w (y.eval (Operand.tmp 98)) := E30.postW (Post := (fun i v w => Pk b cv bv ([0, 1, 0, 0, 1, 0, 0, 1, 0, 2, 3, 0, 1, 2, 3, 0, 1, 2, 3, 0, 1, 2, 3, 0, 1, 2, 3, 0, 1, 0, 1, 3, 0, 1, 1, 4, 4].getD i 0) v w)) (a := y) (w := w) D' (hw 30 (by simp))
    have f101 : IsL w (y.eval (Operand.tmp 101)) := E33.postW (Post := (fun i v w => Pk b cv bv ([0, 1, 0, 0, 1, 0, 0, 1, 0, 2, 3, 0, 1, 2, 3, 0, 1, 2, 3, 0, 1, 2, 3, 0, 1, 2, 3, 0, 1, 0, 1, 3, 0, 1, 1, 4, 4].getD i 0) v w)) (a := y) (w := w) D' (hw 33 (by simp))
    have f102 : IsL w (y.eval (Operand.tmp 102)) := E34.postW (Post := (fun i v w => Pk b cv bv ([0, 1, 0, 0, 1, 0, 0, 1, 0, 2, 3, 0, 1, 2, 3, 0, 1, 2, 3, 0, 1, 2, 3, 0, 1, 2, 3, 0, 1, 0, 1, 3, 0, 1, 1, 4, 4].getD i 0) v w)) (a := y) (w := w) D' (hw 34 (by simp))
    obtain ⟨a69, n69, c69, sh69⟩ := IsL.shape f69
    rw [sh69] at f69
    obtain ⟨a72, n72, c72, sh72⟩ := IsL.shape f72
    rw [sh72] at f72
    obtain ⟨a75, n75, c75, sh75⟩ := IsL.shape f75
    rw [sh75] at f75
    obtain ⟨a80, n80, c80, sh80⟩ := IsL.shape f80
    rw [sh80] at f80
    obtain ⟨a84, n84, c84, sh84⟩ := IsL.shape f84
    rw [sh84] at f84
    obtain ⟨a88, n88, c88, sh88⟩ := IsL.shape f88
    rw [sh88] at f88
    obtain ⟨a92, n92, c92, sh92⟩ := IsL.shape f92
    rw [sh92] at f92
    obtain ⟨a96, n96, c96, sh96⟩ := IsL.shape f96
    rw [sh96] at f96
    obtain ⟨a98, n98, c98, sh98⟩ := IsL.shape f98
    rw [sh98] at f98
    obtain ⟨a101, n101, c101, sh101⟩ := IsL.shape f101
    rw [sh101] at f101
    obtain ⟨a102, n102, c102, sh102⟩ := IsL.shape f102
    rw [sh102] at f102
    have hA := (Mod.refl (fun _ => False) w).alloc (.cells #[.slice none 0 0, .slice a69 n69 c69, .slice a72 n72 c72, .slice a75 n75 c75, .slice a80 n80 c80, .slice a84 n84 c84, .slice a88 n88 c88, .slice a92 n92 c92, .slice a96 n96 c96, .slice a98 n98 c98, .slice a101 n101 c101, .slice a102 n102 c102] 41)
    exact wp_value (ln12_35 hc ho sh69 sh72 sh75 sh80 sh84 sh88 sh92 sh96 sh98 sh101 sh102) (hK _ _ hA ⟨w.heap.size, rfl, by
      intro j hj
      rcases (by omega : j = 0 ∨ j = 1 ∨ j = 2 ∨ j = 3 ∨ j = 4 ∨ j = 5 ∨ j = 6 ∨ j = 7 ∨ j = 8 ∨ j = 9 ∨ j = 10 ∨ j = 11) with rfl | rfl | rfl | rfl | rfl | rfl | rfl | rfl | rfl | rfl | rfl | rfl
      · exact ⟨_, by simp, IsL.nil _⟩
      · exact ⟨_, by simp, f69.mod hA⟩
      · exact ⟨_, by simp, f72.mod hA⟩
      · exact ⟨_, by simp, f75.mod hA⟩
      · exact ⟨_, by simp, f80.mod hA⟩
      · exact ⟨_, by simp, f84.mod hA⟩
      · exact ⟨_, by simp, f88.mod hA⟩
      · exact ⟨_, by simp, f92.mod hA⟩
      · exact ⟨_, by simp, f96.mod hA⟩
      · exact ⟨_, by simp, f98.mod hA⟩
      · exact ⟨_, by simp, f101.mod hA⟩
      · exact ⟨_, by simp, f102.mod hA⟩
      ⟩ (hinv.alloc _))
  have s36 : ∀ o, ops[36]? = some o → StepW Try.prog ops (fun i v w => Pk b cv bv ([0, 1, 0, 0, 1, 0, 0, 1, 0, 2, 3, 0, 1, 2, 3, 0, 1, 2, 3, 0, 1, 2, 3, 0, 1, 2, 3, 0, 1, 0, 1, 3, 0, 1, 1, 4, 4].getD i 0) v w) (fun _ W => Mod (fun _ => False) w0.drew W) a0 Q 36 o := by
    refine E36.stepW fun o hd ho hg hw => ?_
    intro y w listed hsz hls hun hwt hdown D' R hinv K hK
    refine .inl ⟨wanted_none hg, ?_⟩
    have hc : ∀ v, y.eval (.const v) = v := fun _ => rfl
    have f103 : Tw IsL w (y.eval (Operand.tmp 103)) := E35.postW (Post := (fun i v w => Pk b cv bv ([0, 1, 0, 0, 1, 0, 0, 1, 0, 2, 3, 0, 1, 2, 3, 0, 1, 2, 3, 0, 1, 2, 3, 0, 1, 2, 3, 0, 1, 0, 1, 3, 0, 1, 1, 4, 4].getD i 0) v w)) (a := y) (w := w) D' (hw 35 (by simp))
    exact wp_value (ln12_36 ho rfl) (hK _ _ (Mod.refl _ _) f103 hinv)
  refine region_freeW (Post := (fun i v w => Pk b cv bv ([0, 1, 0, 0, 1, 0, 0, 1, 0, 2, 3, 0, 1, 2, 3, 0, 1, 2, 3, 0, 1, 2, 3, 0, 1, 2, 3, 0, 1, 0, 1, 3, 0, 1, 1, 4, 4].getD i 0) v w)) (Inv := (fun _ W => Mod (fun _ => False) w0.drew W)) hmx (low_of hlow) (fun i o ho => by rw [ha0]; exact dst_of (by rw [hds]; decide) i o ho) (inj_of hnd) (Mod.refl _ _) (fun _ _ _ _ hm h => Pk.mod hm h) ?_ ?_
  · intro i o ho
    have hi : i < 37 := by
      rw [← hN]
      rcases Nat.lt_or_ge i ops.size with h | h
      · exact h
      · rw [Array.getElem?_eq_none h] at ho; cases ho
    clear hend
    by_cases e0 : i = 0
    · subst e0; exact s0 o ho
    by_cases e1 : i = 1
    · subst e1; exact s1 o ho
    by_cases e2 : i = 2
    · subst e2; exact s2 o ho
    by_cases e3 : i = 3
    · subst e3; exact s3 o ho
    by_cases e4 : i = 4
    · subst e4; exact s4 o ho
    by_cases e5 : i = 5
    · subst e5; exact s5 o ho
    by_cases e6 : i = 6
    · subst e6; exact s6 o ho
    by_cases e7 : i = 7
    · subst e7; exact s7 o ho
    by_cases e8 : i = 8
    · subst e8; exact s8 o ho
    by_cases e9 : i = 9
    · subst e9; exact s9 o ho
    by_cases e10 : i = 10
    · subst e10; exact s10 o ho
    by_cases e11 : i = 11
    · subst e11; exact s11 o ho
    by_cases e12 : i = 12
    · subst e12; exact s12 o ho
    by_cases e13 : i = 13
    · subst e13; exact s13 o ho
    by_cases e14 : i = 14
    · subst e14; exact s14 o ho
    by_cases e15 : i = 15
    · subst e15; exact s15 o ho
    by_cases e16 : i = 16
    · subst e16; exact s16 o ho
    by_cases e17 : i = 17
    · subst e17; exact s17 o ho
    by_cases e18 : i = 18
    · subst e18; exact s18 o ho
    by_cases e19 : i = 19
    · subst e19; exact s19 o ho
    by_cases e20 : i = 20
    · subst e20; exact s20 o ho
    by_cases e21 : i = 21
    · subst e21; exact s21 o ho
    by_cases e22 : i = 22
    · subst e22; exact s22 o ho
    by_cases e23 : i = 23
    · subst e23; exact s23 o ho
    by_cases e24 : i = 24
    · subst e24; exact s24 o ho
    by_cases e25 : i = 25
    · subst e25; exact s25 o ho
    by_cases e26 : i = 26
    · subst e26; exact s26 o ho
    by_cases e27 : i = 27
    · subst e27; exact s27 o ho
    by_cases e28 : i = 28
    · subst e28; exact s28 o ho
    by_cases e29 : i = 29
    · subst e29; exact s29 o ho
    by_cases e30 : i = 30
    · subst e30; exact s30 o ho
    by_cases e31 : i = 31
    · subst e31; exact s31 o ho
    by_cases e32 : i = 32
    · subst e32; exact s32 o ho
    by_cases e33 : i = 33
    · subst e33; exact s33 o ho
    by_cases e34 : i = 34
    · subst e34; exact s34 o ho
    by_cases e35 : i = 35
    · subst e35; exact s35 o ho
    by_cases e36 : i = 36
    · subst e36; exact s36 o ho
    omega
  · intro y w listed hsz hdf hls hall hinv hp hr
    obtain ⟨u, hu⟩ : ∃ u : Nat → Value, ∀ d, y.tmps.getD d undef = u d := ⟨fun d => y.tmps.getD d undef, fun _ => rfl⟩
    have e : y = puts a0 [(68, u 68), (69, u 69), (70, u 70), (71, u 71), (72, u 72), (73, u 73), (74, u 74), (75, u 75), (76, u 76), (77, u 77), (78, u 78), (79, u 79), (80, u 80), (81, u 81), (82, u 82), (83, u 83), (84, u 84), (85, u 85), (86, u 86), (87, u 87), (88, u 88), (89, u 89), (90, u 90), (91, u 91), (92, u 92), (93, u 93), (94, u 94), (95, u 95), (96, u 96), (97, u 97), (98, u 98), (99, u 99), (100, u 100), (101, u 101), (102, u 102), (103, u 103), (7, u 7)] := by
      refine eq_puts hsz hdf (nodup_of (D := [some 68, some 69, some 70, some 71, some 72, some 73, some 74, some 75, some 76, some 77, some 78, some 79, some 80, some 81, some 82, some 83, some 84, some 85, some 86, some 87, some 88, some 89, some 90, some 91, some 92, some 93, some 94, some 95, some 96, some 97, some 98, some 99, some 100, some 101, some 102, some 103, some 7]) rfl (by decide)) (by rw [ha0]; simp) ?_ ?_
      · intro q hq
        simp only [List.mem_cons, List.not_mem_nil, or_false] at hq
        rcases hq with rfl | rfl | rfl | rfl | rfl | rfl | rfl | rfl | rfl | rfl | rfl | rfl | rfl | rfl | rfl | rfl | rfl | rfl | rfl | rfl | rfl | rfl | rfl | rfl | rfl | rfl | rfl | rfl | rfl | rfl | rfl | rfl | rfl | rfl | rfl | rfl | rfl <;> exact hu _
      · intro t ht
        refine hr t (not_of ?_)
        rw [hds]
        simp only [List.mem_cons, List.not_mem_nil, or_false, forall_eq_or_imp, forall_eq] at ht
        simp only [List.contains_cons, List.contains_nil, Bool.or_eq_false_iff, beq_eq_false_iff_ne, ne_eq, Option.some.injEq, Bool.or_false]
        simp only [eq_comm (a := t)]
        simp [ht]
    have hfin : Pk b cv bv 4 (u 7) w := by
      obtain ⟨o, h1, h2, _⟩ := E36.ex
      rw [← hu]
      exact hp 36 o _ h1 h2
    rw [e]
    exact hend u w hinv hfin
theorem ln26_0 {oq : Oper} {w : World} {ρ : Operand → Value}  (ho : oq.op = Op.build 49 #[])  : (execOp ρ oq).run Try.prog w = .ok (.value (.agg #[.int .i64 0, .int .i64 0, .int .i64 0, .int .i64 0, .int .i64 0, .int .i64 0, .int .i64 0, .int .i64 0, .int .i64 0, .int .i64 0, .int .i64 0, .int .i64 0, .bool false, .int .i64 0, .int .i64 0, .int .i64 0, .int .i64 0, .slice none 0 0])) (w) := by
  simp [execOp, ho, go_sem]
theorem ln26_3 {oq : Oper} {w : World} {ρ : Operand → Value} {x y : Int}  (ho : oq.op = Op.build 49 #[(0, Operand.tmp 161)]) (hx : ρ (Operand.tmp 161) = .agg #[.int .i64 x, .int .i64 y])  : (execOp ρ oq).run Try.prog w = .ok (.value (.agg #[.int .i64 x, .int .i64 y, .int .i64 0, .int .i64 0, .int .i64 0, .int .i64 0, .int .i64 0, .int .i64 0, .int .i64 0, .int .i64 0, .int .i64 0, .int .i64 0, .bool false, .int .i64 0, .int .i64 0, .int .i64 0, .int .i64 0, .slice none 0 0])) (w) := by
  simp [execOp, ho, hx, go_sem]
theorem ln26_7 {oq : Oper} {w : World} {ρ : Operand → Value} {x y : Int} {k o lf i p ps g : Int} {s : Bool} {st rs rr sq : Int} {ao : Option Addr} {cap : Nat} {l : List Int}  (hc : ∀ v, ρ (.const v) = v) (ho : oq.op = Op.build 49 #[(0, Operand.tmp 164), (1, Operand.const (Value.int IntKind.i64 1)), (2, Operand.const (Value.int IntKind.i64 9)), (4, Operand.tmp 165)]) (hx : ρ (Operand.tmp 164) = .agg #[.int .i64 x, .int .i64 y]) (hz : ρ (Operand.tmp 165) = .agg #[.int .i64 k, .int .i64 o, .int .i64 lf, .int .i64 i, .int .i64 p, .int .i64 ps, .int .i64 g, .bool s, .int .i64 st, .int .i64 rs, .int .i64 rr, .int .i64 sq, .slice ao l.length cap])  : (execOp ρ oq).run Try.prog w = .ok (.value (.agg #[.int .i64 x, .int .i64 y, .int .i64 1, .int .i64 9, .int .i64 0, .int .i64 k, .int .i64 o, .int .i64 lf, .int .i64 i, .int .i64 p, .int .i64 ps, .int .i64 g, .bool s, .int .i64 st, .int .i64 rs, .int .i64 rr, .int .i64 sq, .slice ao l.length cap])) (w) := by
  simp [execOp, ho, hx, hz, hc, go_sem]
theorem ln26_11 {oq : Oper} {w : World} {ρ : Operand → Value} {x y : Int} {k o lf i p ps g : Int} {s : Bool} {st rs rr sq : Int} {ao : Option Addr} {cap : Nat} {l : List Int}  (hc : ∀ v, ρ (.const v) = v) (ho : oq.op = Op.build 49 #[(0, Operand.tmp 168), (1, Operand.const (Value.int IntKind.i64 9007199254740992)), (2, Operand.const (Value.int IntKind.i64 1)), (4, Operand.tmp 169)]) (hx : ρ (Operand.tmp 168) = .agg #[.int .i64 x, .int .i64 y]) (hz : ρ (Operand.tmp 169) = .agg #[.int .i64 k, .int .i64 o, .int .i64 lf, .int .i64 i, .int .i64 p, .int .i64 ps, .int .i64 g, .bool s, .int .i64 st, .int .i64 rs, .int .i64 rr, .int .i64 sq, .slice ao l.length cap])  : (execOp ρ oq).run Try.prog w = .ok (.value (.agg #[.int .i64 x, .int .i64 y, .int .i64 9007199254740992, .int .i64 1, .int .i64 0, .int .i64 k, .int .i64 o, .int .i64 lf, .int .i64 i, .int .i64 p, .int .i64 ps, .int .i64 g, .bool s, .int .i64 st, .int .i64 rs, .int .i64 rr, .int .i64 sq, .slice ao l.length cap])) (w) := by
  simp [execOp, ho, hx, hz, hc, go_sem]
theorem ln26_15 {oq : Oper} {w : World} {ρ : Operand → Value} {x y : Int} {k o lf i p ps g : Int} {s : Bool} {st rs rr sq : Int} {ao : Option Addr} {cap : Nat} {l : List Int}  (hc : ∀ v, ρ (.const v) = v) (ho : oq.op = Op.build 49 #[(0, Operand.tmp 172), (1, Operand.const (Value.int IntKind.i64 1)), (2, Operand.const (Value.int IntKind.i64 1)), (3, Operand.const (Value.int IntKind.i64 (-1))), (4, Operand.tmp 173)]) (hx : ρ (Operand.tmp 172) = .agg #[.int .i64 x, .int .i64 y]) (hz : ρ (Operand.tmp 173) = .agg #[.int .i64 k, .int .i64 o, .int .i64 lf, .int .i64 i, .int .i64 p, .int .i64 ps, .int .i64 g, .bool s, .int .i64 st, .int .i64 rs, .int .i64 rr, .int .i64 sq, .slice ao l.length cap])  : (execOp ρ oq).run Try.prog w = .ok (.value (.agg #[.int .i64 x, .int .i64 y, .int .i64 1, .int .i64 1, .int .i64 (-1), .int .i64 k, .int .i64 o, .int .i64 lf, .int .i64 i, .int .i64 p, .int .i64 ps, .int .i64 g, .bool s, .int .i64 st, .int .i64 rs, .int .i64 rr, .int .i64 sq, .slice ao l.length cap])) (w) := by
  simp [execOp, ho, hx, hz, hc, go_sem]
theorem ln26_17 {oq : Oper} {w : World} {ρ : Operand → Value} {k o lf i p ps g : Int} {s : Bool} {st rs rr sq : Int} {ao : Option Addr} {cap : Nat} {l : List Int}  (hc : ∀ v, ρ (.const v) = v) (ho : oq.op = Op.build 49 #[(1, Operand.const (Value.int IntKind.i64 1)), (2, Operand.const (Value.int IntKind.i64 1)), (4, Operand.tmp 175)]) (hz : ρ (Operand.tmp 175) = .agg #[.int .i64 k, .int .i64 o, .int .i64 lf, .int .i64 i, .int .i64 p, .int .i64 ps, .int .i64 g, .bool s, .int .i64 st, .int .i64 rs, .int .i64 rr, .int .i64 sq, .slice ao l.length cap])  : (execOp ρ oq).run Try.prog w = .ok (.value (.agg #[.int .i64 0, .int .i64 0, .int .i64 1, .int .i64 1, .int .i64 0, .int .i64 k, .int .i64 o, .int .i64 lf, .int .i64 i, .int .i64 p, .int .i64 ps, .int .i64 g, .bool s, .int .i64 st, .int .i64 rs, .int .i64 rr, .int .i64 sq, .slice ao l.length cap])) (w) := by
  simp [execOp, ho, hz, hc, go_sem]
set_option maxRecDepth 100000 in
theorem ln26_18 {oq : Oper} {w : World} {ρ : Operand → Value} {dq0 dr0 ds0 dn0 dt0 k0 o0 lf0 i0 p0 ps0 g0_ : Int} {s0 : Bool} {st0 rs0 rr0 sq0 : Int} {ao0 : Option Addr} {cap0 : Nat} {l0 : List Int} {dq1 dr1 ds1 dn1 dt1 k1 o1 lf1 i1 p1 ps1 g1_ : Int} {s1 : Bool} {st1 rs1 rr1 sq1 : Int} {ao1 : Option Addr} {cap1 : Nat} {l1 : List Int} {dq2 dr2 ds2 dn2 dt2 k2 o2 lf2 i2 p2 ps2 g2_ : Int} {s2 : Bool} {st2 rs2 rr2 sq2 : Int} {ao2 : Option Addr} {cap2 : Nat} {l2 : List Int} {dq3 dr3 ds3 dn3 dt3 k3 o3 lf3 i3 p3 ps3 g3_ : Int} {s3 : Bool} {st3 rs3 rr3 sq3 : Int} {ao3 : Option Addr} {cap3 : Nat} {l3 : List Int} {dq4 dr4 ds4 dn4 dt4 k4 o4 lf4 i4 p4 ps4 g4_ : Int} {s4 : Bool} {st4 rs4 rr4 sq4 : Int} {ao4 : Option Addr} {cap4 : Nat} {l4 : List Int} {dq5 dr5 ds5 dn5 dt5 k5 o5 lf5 i5 p5 ps5 g5_ : Int} {s5 : Bool} {st5 rs5 rr5 sq5 : Int} {ao5 : Option Addr} {cap5 : Nat} {l5 : List Int} (ho : oq.op = Op.buildSlice 64 6 #[(0, Operand.tmp 159), (1, Operand.tmp 162), (2, Operand.tmp 166), (3, Operand.tmp 170), (4, Operand.tmp 174), (5, Operand.tmp 176)]) (h0 : ρ (Operand.tmp 159) = .agg #[.int .i64 dq0, .int .i64 dr0, .int .i64 ds0, .int .i64 dn0, .int .i64 dt0, .int .i64 k0, .int .i64 o0, .int .i64 lf0, .int .i64 i0, .int .i64 p0, .int .i64 ps0, .int .i64 g0_, .bool s0, .int .i64 st0, .int .i64 rs0, .int .i64 rr0, .int .i64 sq0, .slice ao0 l0.length cap0]) (h1 : ρ (Operand.tmp 162) = .agg #[.int .i64 dq1, .int .i64 dr1, .int .i64 ds1, .int .i64 dn1, .int .i64 dt1, .int .i64 k1, .int .i64 o1, .int .i64 lf1, .int .i64 i1, .int .i64 p1, .int .i64 ps1, .int .i64 g1_, .bool s1, .int .i64 st1, .int .i64 rs1, .int .i64 rr1, .int .i64 sq1, .slice ao1 l1.length cap1]) (h2 : ρ (Operand.tmp 166) = .agg #[.int .i64 dq2, .int .i64 dr2, .int .i64 ds2, .int .i64 dn2, .int .i64 dt2, .int .i64 k2, .int .i64 o2, .int .i64 lf2, .int .i64 i2, .int .i64 p2, .int .i64 ps2, .int .i64 g2_, .bool s2, .int .i64 st2, .int .i64 rs2, .int .i64 rr2, .int .i64 sq2, .slice ao2 l2.length cap2]) (h3 : ρ (Operand.tmp 170) = .agg #[.int .i64 dq3, .int .i64 dr3, .int .i64 ds3, .int .i64 dn3, .int .i64 dt3, .int .i64 k3, .int .i64 o3, .int .i64 lf3, .int .i64 i3, .int .i64 p3, .int .i64 ps3, .int .i64 g3_, .bool s3, .int .i64 st3, .int .i64 rs3, .int .i64 rr3, .int .i64 sq3, .slice ao3 l3.length cap3]) (h4 : ρ (Operand.tmp 174) = .agg #[.int .i64 dq4, .int .i64 dr4, .int .i64 ds4, .int .i64 dn4, .int .i64 dt4, .int .i64 k4, .int .i64 o4, .int .i64 lf4, .int .i64 i4, .int .i64 p4, .int .i64 ps4, .int .i64 g4_, .bool s4, .int .i64 st4, .int .i64 rs4, .int .i64 rr4, .int .i64 sq4, .slice ao4 l4.length cap4]) (h5 : ρ (Operand.tmp 176) = .agg #[.int .i64 dq5, .int .i64 dr5, .int .i64 ds5, .int .i64 dn5, .int .i64 dt5, .int .i64 k5, .int .i64 o5, .int .i64 lf5, .int .i64 i5, .int .i64 p5, .int .i64 ps5, .int .i64 g5_, .bool s5, .int .i64 st5, .int .i64 rs5, .int .i64 rr5, .int .i64 sq5, .slice ao5 l5.length cap5]) : (execOp ρ oq).run Try.prog w = .ok (.value (.slice (some ⟨w.heap.size, 0, none⟩) 6 6)) (w.alloc (.cells #[.int .i64 dq0, .int .i64 dr0, .int .i64 ds0, .int .i64 dn0, .int .i64 dt0, .int .i64 k0, .int .i64 o0, .int .i64 lf0, .int .i64 i0, .int .i64 p0, .int .i64 ps0, .int .i64 g0_, .bool s0, .int .i64 st0, .int .i64 rs0, .int .i64 rr0, .int .i64 sq0, .slice ao0 l0.length cap0, .int .i64 dq1, .int .i64 dr1, .int .i64 ds1, .int .i64 dn1, .int .i64 dt1, .int .i64 k1, .int .i64 o1, .int .i64 lf1, .int .i64 i1, .int .i64 p1, .int .i64 ps1, .int .i64 g1_, .bool s1, .int .i64 st1, .int .i64 rs1, .int .i64 rr1, .int .i64 sq1, .slice ao1 l1.length cap1, .int .i64 dq2, .int .i64 dr2, .int .i64 ds2, .int .i64 dn2, .int .i64 dt2, .int .i64 k2, .int .i64 o2, .int .i64 lf2, .int .i64 i2, .int .i64 p2, .int .i64 ps2, .int .i64 g2_, .bool s2, .int .i64 st2, .int .i64 rs2, .int .i64 rr2, .int .i64 sq2, .slice ao2 l2.length cap2, .int .i64 dq3, .int .i64 dr3, .int .i64 ds3, .int .i64 dn3, .int .i64 dt3, .int .i64 k3, .int .i64 o3, .int .i64 lf3, .int .i64 i3, .int .i64 p3, .int .i64 ps3, .int .i64 g3_, .bool s3, .int .i64 st3, .int .i64 rs3, .int .i64 rr3, .int .i64 sq3, .slice ao3 l3.length cap3, .int .i64 dq4, .int .i64 dr4, .int .i64 ds4, .int .i64 dn4, .int .i64 dt4, .int .i64 k4, .int .i64 o4, .int .i64 lf4, .int .i64 i4, .int .i64 p4, .int .i64 ps4, .int .i64 g4_, .bool s4, .int .i64 st4, .int .i64 rs4, .int .i64 rr4, .int .i64 sq4, .slice ao4 l4.length cap4, .int .i64 dq5, .int .i64 dr5, .int .i64 ds5, .int .i64 dn5, .int .i64 dt5, .int .i64 k5, .int .i64 o5, .int .i64 lf5, .int .i64 i5, .int .i64 p5, .int .i64 ps5, .int .i64 g5_, .bool s5, .int .i64 st5, .int .i64 rs5, .int .i64 rr5, .int .i64 sq5, .slice ao5 l5.length cap5] 49)) := by
  simp [execOp, ho, h0, h1, h2, h3, h4, h5, go_sem]
theorem ln26_19 {oq : Oper} {w : World} {ρ : Operand → Value} {v : Value} (ho : oq.op = Op.assign (Operand.tmp 177)) (hx : ρ (Operand.tmp 177) = v) : (execOp ρ oq).run Try.prog w = .ok (.value (v)) (w) := by
  simp [execOp, ho, hx, go_sem]
set_option maxRecDepth 100000 in
set_option maxHeartbeats 4000000 in
theorem region26 {ops : Array Oper} {id : Nat} {a0 : Act} {w0 : World} {Q : Exit → Act → World → Prop} (b : Nat) (cv bv : Value) (s1 q1 : Int)
    (E0 : Is ops 0 (some 159) (Op.build 49 #[]) none [])
    (E1 : Is ops 1 (some 160) (Op.fieldAddr 58 (Operand.tmp 1) 1) none [])
    (E2 : Is ops 2 (some 161) (Op.load 23 (Operand.tmp 160)) none [1])
    (E3 : Is ops 3 (some 162) (Op.build 49 #[(0, Operand.tmp 161)]) none [2])
    (E4 : Is ops 4 (some 163) (Op.fieldAddr 58 (Operand.tmp 1) 1) none [])
    (E5 : Is ops 5 (some 164) (Op.load 23 (Operand.tmp 163)) none [4])
    (E6 : Is ops 6 (some 165) (Op.call { callee := Callee.value (Operand.func 39), args := #[], argTypes := #[] }) none [])
    (E7 : Is ops 7 (some 166) (Op.build 49 #[(0, Operand.tmp 164), (1, Operand.const (Value.int IntKind.i64 1)), (2, Operand.const (Value.int IntKind.i64 9)), (4, Operand.tmp 165)]) none [5, 6])
    (E8 : Is ops 8 (some 167) (Op.fieldAddr 58 (Operand.tmp 1) 1) none [])
    (E9 : Is ops 9 (some 168) (Op.load 23 (Operand.tmp 167)) none [8])
    (E10 : Is ops 10 (some 169) (Op.call { callee := Callee.value (Operand.func 39), args := #[], argTypes := #[] }) none [6])
    (E11 : Is ops 11 (some 170) (Op.build 49 #[(0, Operand.tmp 168), (1, Operand.const (Value.int IntKind.i64 9007199254740992)), (2, Operand.const (Value.int IntKind.i64 1)), (4, Operand.tmp 169)]) none [9, 10])
    (E12 : Is ops 12 (some 171) (Op.fieldAddr 58 (Operand.tmp 1) 1) none [])
    (E13 : Is ops 13 (some 172) (Op.load 23 (Operand.tmp 171)) none [12])
    (E14 : Is ops 14 (some 173) (Op.call { callee := Callee.value (Operand.func 39), args := #[], argTypes := #[] }) none [10])
    (E15 : Is ops 15 (some 174) (Op.build 49 #[(0, Operand.tmp 172), (1, Operand.const (Value.int IntKind.i64 1)), (2, Operand.const (Value.int IntKind.i64 1)), (3, Operand.const (Value.int IntKind.i64 (-1))), (4, Operand.tmp 173)]) none [13, 14])
    (E16 : Is ops 16 (some 175) (Op.call { callee := Callee.value (Operand.func 39), args := #[], argTypes := #[] }) none [14])
    (E17 : Is ops 17 (some 176) (Op.build 49 #[(1, Operand.const (Value.int IntKind.i64 1)), (2, Operand.const (Value.int IntKind.i64 1)), (4, Operand.tmp 175)]) none [16])
    (E18 : Is ops 18 (some 177) (Op.buildSlice 64 6 #[(0, Operand.tmp 159), (1, Operand.tmp 162), (2, Operand.tmp 166), (3, Operand.tmp 170), (4, Operand.tmp 174), (5, Operand.tmp 176)]) none [0, 3, 7, 11, 15, 17])
    (E19 : Is ops 19 (some 14) (Op.assign (Operand.tmp 177)) none [0, 1, 2, 3, 4, 5, 6, 7, 8, 9, 10, 11, 12, 13, 14, 15, 16, 17, 18])
    (hN : ops.size = 20) (hlow : lowB ops = true) (hds : dsts ops = [some 159, some 160, some 161, some 162, some 163, some 164, some 165, some 166, some 167, some 168, some 169, some 170, some 171, some 172, some 173, some 174, some 175, some 176, some 177, some 14]) (hnd : injB ops = true)
    (hmx : Try.prog.follows .mixedOrders = true) (ha0 : a0.tmps.size = 223)
    (h1 : a0.tmps.getD 1 undef = .pointer (some ⟨b, 0, none⟩)) (p11 : w0.cell? ⟨b, 1, none⟩ = some (.int .i64 s1)) (p12 : w0.cell? ⟨b, 2, none⟩ = some (.int .i64 q1))
    (hend : ∀ (u : Nat → Value) w, Mod (fun _ => False) w0.drew w → Sx w (u 14) → Q .normal (puts a0 [(159, u 159), (160, u 160), (161, u 161), (162, u 162), (163, u 163), (164, u 164), (165, u 165), (166, u 166), (167, u 167), (168, u 168), (169, u 169), (170, u 170), (171, u 171), (172, u 172), (173, u 173), (174, u 174), (175, u 175), (176, u 176), (177, u 177), (14, u 14)]) w) :
    (Code.region id ops true).wp Try.prog Q a0 w0 := by
  have D : ∀ {W : World} {a : Addr} {v : Value}, Mod (fun _ => False) w0.drew W → w0.cell? a = some v → W.cell? a = some v := fun hW hc => hW.cell (by simpa using hc) (fun h => h)
  have D0 : ∀ {W : World}, Mod (fun _ => False) w0.drew W → Mod (fun _ => False) w0 W := fun hW => ((Mod.refl (fun _ => False) w0).drew).trans hW (fun _ _ h => h) (fun _ _ h => h)
  have s0 : ∀ o, ops[0]? = some o → StepW Try.prog ops (fun i v w => Pk b cv bv ([10, 2, 3, 10, 2, 3, 9, 10, 2, 3, 9, 10, 2, 3, 9, 10, 9, 10, 11, 11].getD i 0) v w) (fun _ W => Mod (fun _ => False) w0.drew W) a0 Q 0 o := by
    refine E0.stepW fun o hd ho hg hw => ?_
    intro y w listed hsz hls hun hwt hdown D' R hinv K hK
    refine .inl ⟨wanted_none hg, ?_⟩
    have hc : ∀ v, y.eval (.const v) = v := fun _ => rfl
    exact wp_value (ln26_0 ho) (hK _ _ (Mod.refl _ _) ⟨_, _, _, _, _, _, _, _, _, _, _, _, _, _, _, _, _, none, 0, [], rfl, Sl.nil0 w, by simp⟩ hinv)
  have s1 : ∀ o, ops[1]? = some o → StepW Try.prog ops (fun i v w => Pk b cv bv ([10, 2, 3, 10, 2, 3, 9, 10, 2, 3, 9, 10, 2, 3, 9, 10, 9, 10, 11, 11].getD i 0) v w) (fun _ W => Mod (fun _ => False) w0.drew W) a0 Q 1 o := by
    refine E1.stepW fun o hd ho hg hw => ?_
    intro y w listed hsz hls hun hwt hdown D' R hinv K hK
    refine .inl ⟨wanted_none hg, ?_⟩
    have hc : ∀ v, y.eval (.const v) = v := fun _ => rfl
    have f1 : y.eval (Operand.tmp 1) = .pointer (some ⟨b, 0, none⟩) := (R 1 (not_of (by rw [hds]; decide))).trans h1
    exact wp_value (ox_field ho f1 (fl58 w)) (hK _ _ (Mod.refl _ _) rfl hinv)
  have s2 : ∀ o, ops[2]? = some o → StepW Try.prog ops (fun i v w => Pk b cv bv ([10, 2, 3, 10, 2, 3, 9, 10, 2, 3, 9, 10, 2, 3, 9, 10, 9, 10, 11, 11].getD i 0) v w) (fun _ W => Mod (fun _ => False) w0.drew W) a0 Q 2 o := by
    refine E2.stepW fun o hd ho hg hw => ?_
    intro y w listed hsz hls hun hwt hdown D' R hinv K hK
    refine .inl ⟨wanted_none hg, ?_⟩
    have hc : ∀ v, y.eval (.const v) = v := fun _ => rfl
    have f160 : y.eval (Operand.tmp 160) = .pointer (some ⟨b, 1, none⟩) := E1.postW (Post := (fun i v w => Pk b cv bv ([10, 2, 3, 10, 2, 3, 9, 10, 2, 3, 9, 10, 2, 3, 9, 10, 9, 10, 11, 11].getD i 0) v w)) (a := y) (w := w) D' (hw 1 (by simp))
    exact wp_value (ox_load ho f160 (ld23 (D hinv p11) (D hinv p12))) (hK _ _ (Mod.refl _ _) ⟨_, _, rfl⟩ hinv)
  have s3 : ∀ o, ops[3]? = some o → StepW Try.prog ops (fun i v w => Pk b cv bv ([10, 2, 3, 10, 2, 3, 9, 10, 2, 3, 9, 10, 2, 3, 9, 10, 9, 10, 11, 11].getD i 0) v w) (fun _ W => Mod (fun _ => False) w0.drew W) a0 Q 3 o := by
    refine E3.stepW fun o hd ho hg hw => ?_
    intro y w listed hsz hls hun hwt hdown D' R hinv K hK
    refine .inl ⟨wanted_none hg, ?_⟩
    have hc : ∀ v, y.eval (.const v) = v := fun _ => rfl
    have f161 : IsR (y.eval (Operand.tmp 161)) := E2.postW (Post := (fun i v w => Pk b cv bv ([10, 2, 3, 10, 2, 3, 9, 10, 2, 3, 9, 10, 2, 3, 9, 10, 9, 10, 11, 11].getD i 0) v w)) (a := y) (w := w) D' (hw 2 (by simp))
    obtain ⟨x161, y161, e161⟩ := f161
    exact wp_value (ln26_3 ho e161) (hK _ _ (Mod.refl _ _) ⟨_, _, _, _, _, _, _, _, _, _, _, _, _, _, _, _, _, none, 0, [], rfl, Sl.nil0 w, by simp⟩ hinv)
  have s4 : ∀ o, ops[4]? = some o → StepW Try.prog ops (fun i v w => Pk b cv bv ([10, 2, 3, 10, 2, 3, 9, 10, 2, 3, 9, 10, 2, 3, 9, 10, 9, 10, 11, 11].getD i 0) v w) (fun _ W => Mod (fun _ => False) w0.drew W) a0 Q 4 o := by
    refine E4.stepW fun o hd ho hg hw => ?_
    intro y w listed hsz hls hun hwt hdown D' R hinv K hK
    refine .inl ⟨wanted_none hg, ?_⟩
    have hc : ∀ v, y.eval (.const v) = v := fun _ => rfl
    have f1 : y.eval (Operand.tmp 1) = .pointer (some ⟨b, 0, none⟩) := (R 1 (not_of (by rw [hds]; decide))).trans h1
    exact wp_value (ox_field ho f1 (fl58 w)) (hK _ _ (Mod.refl _ _) rfl hinv)
  have s5 : ∀ o, ops[5]? = some o → StepW Try.prog ops (fun i v w => Pk b cv bv ([10, 2, 3, 10, 2, 3, 9, 10, 2, 3, 9, 10, 2, 3, 9, 10, 9, 10, 11, 11].getD i 0) v w) (fun _ W => Mod (fun _ => False) w0.drew W) a0 Q 5 o := by
    refine E5.stepW fun o hd ho hg hw => ?_
    intro y w listed hsz hls hun hwt hdown D' R hinv K hK
    refine .inl ⟨wanted_none hg, ?_⟩
    have hc : ∀ v, y.eval (.const v) = v := fun _ => rfl
    have f163 : y.eval (Operand.tmp 163) = .pointer (some ⟨b, 1, none⟩) := E4.postW (Post := (fun i v w => Pk b cv bv ([10, 2, 3, 10, 2, 3, 9, 10, 2, 3, 9, 10, 2, 3, 9, 10, 9, 10, 11, 11].getD i 0) v w)) (a := y) (w := w) D' (hw 4 (by simp))
    exact wp_value (ox_load ho f163 (ld23 (D hinv p11) (D hinv p12))) (hK _ _ (Mod.refl _ _) ⟨_, _, rfl⟩ hinv)
  have s6 : ∀ o, ops[6]? = some o → StepW Try.prog ops (fun i v w => Pk b cv bv ([10, 2, 3, 10, 2, 3, 9, 10, 2, 3, 9, 10, 2, 3, 9, 10, 9, 10, 11, 11].getD i 0) v w) (fun _ W => Mod (fun _ => False) w0.drew W) a0 Q 6 o := by
    refine E6.stepW fun o hd ho hg hw => ?_
    intro y w listed hsz hls hun hwt hdown D' R hinv K hK
    refine .inl ⟨wanted_none hg, ?_⟩
    have hc : ∀ v, y.eval (.const v) = v := fun _ => rfl
    refine wp_enter (f := 39) (args := #[]) ?_ (text w) ?_
    · rw [exec_call0 y.eval (fun args w => by simp [go_sem]) rfl ho]
    · rintro e w' ⟨ao, cap, rfl, hO, hm, _⟩
      exact ⟨_, rfl, hK _ _ hm ⟨_, _, _, _, _, _, _, _, _, _, _, _, ao, cap, [65], rfl, hO.sl (by simp), by simp⟩ (hinv.trans hm (fun _ _ h => h) (fun _ _ h => h))⟩
  have s7 : ∀ o, ops[7]? = some o → StepW Try.prog ops (fun i v w => Pk b cv bv ([10, 2, 3, 10, 2, 3, 9, 10, 2, 3, 9, 10, 2, 3, 9, 10, 9, 10, 11, 11].getD i 0) v w) (fun _ W => Mod (fun _ => False) w0.drew W) a0 Q 7 o := by
    refine E7.stepW fun o hd ho hg hw => ?_
    intro y w listed hsz hls hun hwt hdown D' R hinv K hK
    refine .inl ⟨wanted_none hg, ?_⟩
    have hc : ∀ v, y.eval (.const v) = v := fun _ => rfl
    have f164 : IsR (y.eval (Operand.tmp 164)) := E5.postW (Post := (fun i v w => Pk b cv bv ([10, 2, 3, 10, 2, 3, 9, 10, 2, 3, 9, 10, 2, 3, 9, 10, 9, 10, 11, 11].getD i 0) v w)) (a := y) (w := w) D' (hw 5 (by simp))
    have f165 : IsM w (y.eval (Operand.tmp 165)) := E6.postW (Post := (fun i v w => Pk b cv bv ([10, 2, 3, 10, 2, 3, 9, 10, 2, 3, 9, 10, 2, 3, 9, 10, 9, 10, 11, 11].getD i 0) v w)) (a := y) (w := w) D' (hw 6 (by simp))
    obtain ⟨x164, y164, e164⟩ := f164
    obtain ⟨k, oo, lf, ii, p, ps, gg, s, st, rs, rr, sq, ao, cap, l, e165, hS, hl⟩ := f165
    exact wp_value (ln26_7 hc ho e164 e165) (hK _ _ (Mod.refl _ _) ⟨_, _, _, _, _, k, oo, lf, ii, p, ps, gg, s, st, rs, rr, sq, ao, cap, l, rfl, hS, hl⟩ hinv)
  have s8 : ∀ o, ops[8]? = some o → StepW Try.prog ops (fun i v w => Pk b cv bv ([10, 2, 3, 10, 2, 3, 9, 10, 2, 3, 9, 10, 2, 3, 9, 10, 9, 10, 11, 11].getD i 0) v w) (fun _ W => Mod (fun _ => False) w0.drew W) a0 Q 8 o := by
    refine E8.stepW fun o hd ho hg hw => ?_
    intro y w listed hsz hls hun hwt hdown D' R hinv K hK
    refine .inl ⟨wanted_none hg, ?_⟩
    have hc : ∀ v, y.eval (.const v) = v := fun _ => rfl
    have f1 : y.eval (Operand.tmp 1) = .pointer (some ⟨b, 0, none⟩) := (R 1 (not_of (by rw [hds]; decide))).trans h1
    exact wp_value (ox_field ho f1 (fl58 w)) (hK _ _ (Mod.refl _ _) rfl hinv)
  have s9 : ∀ o, ops[9]? = some o → StepW Try.prog ops (fun i v w => Pk b cv bv ([10, 2, 3, 10, 2, 3, 9, 10, 2, 3, 9, 10, 2, 3, 9, 10, 9, 10, 11, 11].getD i 0) v w) (fun _ W => Mod (fun _ => False) w0.drew W) a0 Q 9 o := by
    refine E9.stepW fun o hd ho hg hw => ?_
    intro y w listed hsz hls hun hwt hdown D' R hinv K hK
    refine .inl ⟨wanted_none hg, ?_⟩
    have hc : ∀ v, y.eval (.const v) = v := fun _ => rfl
    have f167 : y.eval (Operand.tmp 167) = .pointer (some ⟨b, 1, none⟩) := E8.postW (Post := (fun i v w => Pk b cv bv ([10, 2, 3, 10, 2, 3, 9, 10, 2, 3, 9, 10, 2, 3, 9, 10, 9, 10, 11, 11].getD i 0) v w)) (a := y) (w := w) D' (hw 8 (by simp))
    exact wp_value (ox_load ho f167 (ld23 (D hinv p11) (D hinv p12))) (hK _ _ (Mod.refl _ _) ⟨_, _, rfl⟩ hinv)
  have s10 : ∀ o, ops[10]? = some o → StepW Try.prog ops (fun i v w => Pk b cv bv ([10, 2, 3, 10, 2, 3, 9, 10, 2, 3, 9, 10, 2, 3, 9, 10, 9, 10, 11, 11].getD i 0) v w) (fun _ W => Mod (fun _ => False) w0.drew W) a0 Q 10 o := by
    refine E10.stepW fun o hd ho hg hw => ?_
    intro y w listed hsz hls hun hwt hdown D' R hinv K hK
    refine .inl ⟨wanted_none hg, ?_⟩
    have hc : ∀ v, y.eval (.const v) = v := fun _ => rfl
    refine wp_enter (f := 39) (args := #[]) ?_ (text w) ?_
    · rw [exec_call0 y.eval (fun args w => by simp [go_sem]) rfl ho]
    · rintro e w' ⟨ao, cap, rfl, hO, hm, _⟩
      exact ⟨_, rfl, hK _ _ hm ⟨_, _, _, _, _, _, _, _, _, _, _, _, ao, cap, [65], rfl, hO.sl (by simp), by simp⟩ (hinv.trans hm (fun _ _ h => h) (fun _ _ h => h))⟩
  have s11 : ∀ o, ops[11]? = some o → StepW Try.prog ops (fun i v w => Pk b cv bv ([10, 2, 3, 10, 2, 3, 9, 10, 2, 3, 9, 10, 2, 3, 9, 10, 9, 10, 11, 11].getD i 0) v w) (fun _ W => Mod (fun _ => False) w0.drew W) a0 Q 11 o := by
    refine E11.stepW fun o hd ho hg hw => ?_
    intro y w listed hsz hls hun hwt hdown D' R hinv K hK
    refine .inl ⟨wanted_none hg, ?_⟩
    have hc : ∀ v, y.eval (.const v) = v := fun _ => rfl
    have f168 : IsR (y.eval (Operand.tmp 168)) := E9.postW (Post := (fun i v w => Pk b cv bv ([10, 2, 3, 10, 2, 3, 9, 10, 2, 3, 9, 10, 2, 3, 9, 10, 9, 10, 11, 11].getD i 0) v w)) (a := y) (w := w) D' (hw 9 (by simp))
    have f169 : IsM w (y.eval (Operand.tmp 169)) := E10.postW (Post := (fun i v w => Pk b cv bv ([10, 2, 3, 10, 2, 3, 9, 10, 2, 3, 9, 10, 2, 3, 9, 10, 9, 10, 11, 11].getD i 0) v w)) (a := y) (w := w) D' (hw 10 (by simp))
    obtain ⟨x168, y168, e168⟩ := f168
    obtain ⟨k, oo, lf, ii, p, ps, gg, s, st, rs, rr, sq, ao, cap, l, e169, hS, hl⟩ := f169
    exact wp_value (ln26_11 hc ho e168 e169) (hK _ _ (Mod.refl _ _) ⟨_, _, _, _, _, k, oo, lf, ii, p, ps, gg, s, st, rs, rr, sq, ao, cap, l, rfl, hS, hl⟩ hinv)
  have s12 : ∀ o, ops[12]? = some o → StepW Try.prog ops (fun i v w => Pk b cv bv ([10, 2, 3, 10, 2, 3, 9, 10, 2, 3, 9, 10, 2, 3, 9, 10, 9, 10, 11, 11].getD i 0) v w) (fun _ W => Mod (fun _ => False) w0.drew W) a0 Q 12 o := by
    refine E12.stepW fun o hd ho hg hw => ?_
    intro y w listed hsz hls hun hwt hdown D' R hinv K hK
    refine .inl ⟨wanted_none hg, ?_⟩
    have hc : ∀ v, y.eval (.const v) = v := fun _ => rfl
    have f1 : y.eval (Operand.tmp 1) = .pointer (some ⟨b, 0, none⟩) := (R 1 (not_of (by rw [hds]; decide))).trans h1
    exact wp_value (ox_field ho f1 (fl58 w)) (hK _ _ (Mod.refl _ _) rfl hinv)
  have s13 : ∀ o, ops[13]? = some o → StepW Try.prog ops (fun i v w => Pk b cv bv ([10, 2, 3, 10, 2, 3, 9, 10, 2, 3, 9, 10, 2, 3, 9, 10, 9, 10, 11, 11].getD i 0) v w) (fun _ W => Mod (fun _ => False) w0.drew W) a0 Q 13 o := by
    refine E13.stepW fun o hd ho hg hw => ?_
    intro y w listed hsz hls hun hwt hdown D' R hinv K hK
    refine .inl ⟨wanted_none hg, ?_⟩
    have hc : ∀ v, y.eval (.const v) = v := fun _ => rfl
    have f171 : y.eval (Operand.tmp 171) = .pointer (some ⟨b, 1, none⟩) := E12.postW (Post := (fun i v w => Pk b cv bv ([10, 2, 3, 10, 2, 3, 9, 10, 2, 3, 9, 10, 2, 3, 9, 10, 9, 10, 11, 11].getD i 0) v w)) (a := y) (w := w) D' (hw 12 (by simp))
    exact wp_value (ox_load ho f171 (ld23 (D hinv p11) (D hinv p12))) (hK _ _ (Mod.refl _ _) ⟨_, _, rfl⟩ hinv)
  have s14 : ∀ o, ops[14]? = some o → StepW Try.prog ops (fun i v w => Pk b cv bv ([10, 2, 3, 10, 2, 3, 9, 10, 2, 3, 9, 10, 2, 3, 9, 10, 9, 10, 11, 11].getD i 0) v w) (fun _ W => Mod (fun _ => False) w0.drew W) a0 Q 14 o := by
    refine E14.stepW fun o hd ho hg hw => ?_
    intro y w listed hsz hls hun hwt hdown D' R hinv K hK
    refine .inl ⟨wanted_none hg, ?_⟩
    have hc : ∀ v, y.eval (.const v) = v := fun _ => rfl
    refine wp_enter (f := 39) (args := #[]) ?_ (text w) ?_
    · rw [exec_call0 y.eval (fun args w => by simp [go_sem]) rfl ho]
    · rintro e w' ⟨ao, cap, rfl, hO, hm, _⟩
      exact ⟨_, rfl, hK _ _ hm ⟨_, _, _, _, _, _, _, _, _, _, _, _, ao, cap, [65], rfl, hO.sl (by simp), by simp⟩ (hinv.trans hm (fun _ _ h => h) (fun _ _ h => h))⟩
  have s15 : ∀ o, ops[15]? = some o → StepW Try.prog ops (fun i v w => Pk b cv bv ([10, 2, 3, 10, 2, 3, 9, 10, 2, 3, 9, 10, 2, 3, 9, 10, 9, 10, 11, 11].getD i 0) v w) (fun _ W => Mod (fun _ => False) w0.drew W) a0 Q 15 o := by
    refine E15.stepW fun o hd ho hg hw => ?_
    intro y w listed hsz hls hun hwt hdown D' R hinv K hK
    refine .inl ⟨wanted_none hg, ?_⟩
    have hc : ∀ v, y.eval (.const v) = v := fun _ => rfl
    have f172 : IsR (y.eval (Operand.tmp 172)) := E13.postW (Post := (fun i v w => Pk b cv bv ([10, 2, 3, 10, 2, 3, 9, 10, 2, 3, 9, 10, 2, 3, 9, 10, 9, 10, 11, 11].getD i 0) v w)) (a := y) (w := w) D' (hw 13 (by simp))
    have f173 : IsM w (y.eval (Operand.tmp 173)) := E14.postW (Post := (fun i v w => Pk b cv bv ([10, 2, 3, 10, 2, 3, 9, 10, 2, 3, 9, 10, 2, 3, 9, 10, 9, 10, 11, 11].getD i 0) v w)) (a := y) (w := w) D' (hw 14 (by simp))
    obtain ⟨x172, y172, e172⟩ := f172
    obtain ⟨k, oo, lf, ii, p, ps, gg, s, st, rs, rr, sq, ao, cap, l, e173, hS, hl⟩ := f173
    exact wp_value (ln26_15 hc ho e172 e173) (hK _ _ (Mod.refl _ _) ⟨_, _, _, _, _, k, oo, lf, ii, p, ps, gg, s, st, rs, rr, sq, ao, cap, l, rfl, hS, hl⟩ hinv)
  have s16 : ∀ o, ops[16]? = some o → StepW Try.prog ops (fun i v w => Pk b cv bv ([10, 2, 3, 10, 2, 3, 9, 10, 2, 3, 9, 10, 2, 3, 9, 10, 9, 10, 11, 11].getD i 0) v w) (fun _ W => Mod (fun _ => False) w0.drew W) a0 Q 16 o := by
    refine E16.stepW fun o hd ho hg hw => ?_
    intro y w listed hsz hls hun hwt hdown D' R hinv K hK
    refine .inl ⟨wanted_none hg, ?_⟩
    have hc : ∀ v, y.eval (.const v) = v := fun _ => rfl
    refine wp_enter (f := 39) (args := #[]) ?_ (text w) ?_
    · rw [exec_call0 y.eval (fun args w => by simp [go_sem]) rfl ho]
    · rintro e w' ⟨ao, cap, rfl, hO, hm, _⟩
      exact ⟨_, rfl, hK _ _ hm ⟨_, _, _, _, _, _, _, _, _, _, _, _, ao, cap, [65], rfl, hO.sl (by simp), by simp⟩ (hinv.trans hm (fun _ _ h => h) (fun _ _ h => h))⟩
  have s17 : ∀ o, ops[17]? = some o → StepW Try.prog ops (fun i v w => Pk b cv bv ([10, 2, 3, 10, 2, 3, 9, 10, 2, 3, 9, 10, 2, 3, 9, 10, 9, 10, 11, 11].getD i 0) v w) (fun _ W => Mod (fun _ => False) w0.drew W) a0 Q 17 o := by
    refine E17.stepW fun o hd ho hg hw => ?_
    intro y w listed hsz hls hun hwt hdown D' R hinv K hK
    refine .inl ⟨wanted_none hg, ?_⟩
    have hc : ∀ v, y.eval (.const v) = v := fun _ => rfl
    have f175 : IsM w (y.eval (Operand.tmp 175)) := E16.postW (Post := (fun i v w => Pk b cv bv ([10, 2, 3, 10, 2, 3, 9, 10, 2, 3, 9, 10, 2, 3, 9, 10, 9, 10, 11, 11].getD i 0) v w)) (a := y) (w := w) D' (hw 16 (by simp))
    obtain ⟨k, oo, lf, ii, p, ps, gg, s, st, rs, rr, sq, ao, cap, l, e175, hS, hl⟩ := f175
    exact wp_value (ln26_17 hc ho e175) (hK _ _ (Mod.refl _ _) ⟨_, _, _, _, _, k, oo, lf, ii, p, ps, gg, s, st, rs, rr, sq, ao, cap, l, rfl, hS, hl⟩ hinv)
  have s18 : ∀ o, ops[18]? = some o → StepW Try.prog ops (fun i v w => Pk b cv bv ([10, 2, 3, 10, 2, 3, 9, 10, 2, 3, 9, 10, 2, 3, 9, 10, 9, 10, 11, 11].getD i 0) v w) (fun _ W => Mod (fun _ => False) w0.drew W) a0 Q 18 o := by
    refine E18.stepW fun o hd ho hg hw => ?_
    intro y w listed hsz hls hun hwt hdown D' R hinv K hK
    refine .inl ⟨wanted_none hg, ?_⟩
    have hc : ∀ v, y.eval (.const v) = v := fun _ => rfl
    have f159 : IsD w (y.eval (Operand.tmp 159)) := E0.postW (Post := (fun i v w => Pk b cv bv ([10, 2, 3, 10, 2, 3, 9, 10, 2, 3, 9, 10, 2, 3, 9, 10, 9, 10, 11, 11].getD i 0) v w)) (a := y) (w := w) D' (hw 0 (by simp))
    have f162 : IsD w (y.eval (Operand.tmp 162)) := E3.postW (Post := (fun i v w => Pk b cv bv ([10, 2, 3, 10, 2, 3, 9, 10, 2, 3, 9, 10, 2, 3, 9, 10, 9, 10, 11, 11].getD i 0) v w)) (a := y) (w := w) D' (hw 3 (by simp))
    have f166 : IsD w (y.eval (Operand.tmp 166)) := E7.postW (Post := (fun i v w => Pk b cv bv ([10, 2, 3, 10, 2, 3, 9, 10, 2, 3, 9, 10, 2, 3, 9, 10, 9, 10, 11, 11].getD i 0) v w)) (a := y) (w := w) D' (hw 7 (by simp))
    have f170 : IsD w (y.eval (Operand.tmp 170)) := E11.postW (Post := (fun i v w => Pk b cv bv ([10, 2, 3, 10, 2, 3, 9, 10, 2, 3, 9, 10, 2, 3, 9, 10, 9, 10, 11, 11].getD i 0) v w)) (a := y) (w := w) D' (hw 11 (by simp))
    have f174 : IsD w (y.eval (Operand.tmp 174)) := E15.postW (Post := (fun i v w => Pk b cv bv ([10, 2, 3, 10, 2, 3, 9, 10, 2, 3, 9, 10, 2, 3, 9, 10, 9, 10, 11, 11].getD i 0) v w)) (a := y) (w := w) D' (hw 15 (by simp))
    have f176 : IsD w (y.eval (Operand.tmp 176)) := E17.postW (Post := (fun i v w => Pk b cv bv ([10, 2, 3, 10, 2, 3, 9, 10, 2, 3, 9, 10, 2, 3, 9, 10, 9, 10, 11, 11].getD i 0) v w)) (a := y) (w := w) D' (hw 17 (by simp))
    have g159 := f159
    obtain ⟨dq0, dr0, ds0, dn0, dt0, k0, o0, lf0, i0, p0, ps0, g0_, s0, st0, rs0, rr0, sq0, ao0, cap0, l0, e0, _⟩ := g159
    rw [e0] at f159
    have g162 := f162
    obtain ⟨dq1, dr1, ds1, dn1, dt1, k1, o1, lf1, i1, p1, ps1, g1_, s1, st1, rs1, rr1, sq1, ao1, cap1, l1, e1, _⟩ := g162
    rw [e1] at f162
    have g166 := f166
    obtain ⟨dq2, dr2, ds2, dn2, dt2, k2, o2, lf2, i2, p2, ps2, g2_, s2, st2, rs2, rr2, sq2, ao2, cap2, l2, e2, _⟩ := g166
    rw [e2] at f166
    have g170 := f170
    obtain ⟨dq3, dr3, ds3, dn3, dt3, k3, o3, lf3, i3, p3, ps3, g3_, s3, st3, rs3, rr3, sq3, ao3, cap3, l3, e3, _⟩ := g170
    rw [e3] at f170
    have g174 := f174
    obtain ⟨dq4, dr4, ds4, dn4, dt4, k4, o4, lf4, i4, p4, ps4, g4_, s4, st4, rs4, rr4, sq4, ao4, cap4, l4, e4, _⟩ := g174
    rw [e4] at f174
    have g176 := f176
    obtain ⟨dq5, dr5, ds5, dn5, dt5, k5, o5, lf5, i5, p5, ps5, g5_, s5, st5, rs5, rr5, sq5, ao5, cap5, l5, e5, _⟩ := g176
    rw [e5] at f176
    have hA := (Mod.refl (fun _ => False) w).alloc (.cells #[.int .i64 dq0, .int .i64 dr0, .int .i64 ds0, .int .i64 dn0, .int .i64 dt0, .int .i64 k0, .int .i64 o0, .int .i64 lf0, .int .i64 i0, .int .i64 p0, .int .i64 ps0, .int .i64 g0_, .bool s0, .int .i64 st0, .int .i64 rs0, .int .i64 rr0, .int .i64 sq0, .slice ao0 l0.length cap0, .int .i64 dq1, .int .i64 dr1, .int .i64 ds1, .int .i64 dn1, .int .i64 dt1, .int .i64 k1, .int .i64 o1, .int .i64 lf1, .int .i64 i1, .int .i64 p1, .int .i64 ps1, .int .i64 g1_, .bool s1, .int .i64 st1, .int .i64 rs1, .int .i64 rr1, .int .i64 sq1, .slice ao1 l1.length cap1, .int .i64 dq2, .int .i64 dr2, .int .i64 ds2, .int .i64 dn2, .int .i64 dt2, .int .i64 k2, .int .i64 o2, .int .i64 lf2, .int .i64 i2, .int .i64 p2, .int .i64 ps2, .int .i64 g2_, .bool s2, .int .i64 st2, .int .i64 rs2, .int .i64 rr2, .int .i64 sq2, .slice ao2 l2.length cap2, .int .i64 dq3, .int .i64 dr3, .int .i64 ds3, .int .i64 dn3, .int .i64 dt3, .int .i64 k3, .int .i64 o3, .int .i64 lf3, .int .i64 i3, .int .i64 p3, .int .i64 ps3, .int .i64 g3_, .bool s3, .int .i64 st3, .int .i64 rs3, .int .i64 rr3, .int .i64 sq3, .slice ao3 l3.length cap3, .int .i64 dq4, .int .i64 dr4, .int .i64 ds4, .int .i64 dn4, .int .i64 dt4, .int .i64 k4, .int .i64 o4, .int .i64 lf4, .int .i64 i4, .int .i64 p4, .int .i64 ps4, .int .i64 g4_, .bool s4, .int .i64 st4, .int .i64 rs4, .int .i64 rr4, .int .i64 sq4, .slice ao4 l4.length cap4, .int .i64 dq5, .int .i64 dr5, .int .i64 ds5, .int .i64 dn5, .int .i64 dt5, .int .i64 k5, .int .i64 o5, .int .i64 lf5, .int .i64 i5, .int .i64 p5, .int .i64 ps5, .int .i64 g5_, .bool s5, .int .i64 st5, .int .i64 rs5, .int .i64 rr5, .int .i64 sq5, .slice ao5 l5.length cap5] 49)
    exact wp_value (ln26_18 ho e0 e1 e2 e3 e4 e5) (hK _ _ hA ⟨w.heap.size, rfl, by
      intro j hj
      rcases (by omega : j = 0 ∨ j = 1 ∨ j = 2 ∨ j = 3 ∨ j = 4 ∨ j = 5) with rfl | rfl | rfl | rfl | rfl | rfl
      · exact ⟨_, ⟨[.int .i64 dq0, .int .i64 dr0, .int .i64 ds0, .int .i64 dn0, .int .i64 dt0, .int .i64 k0, .int .i64 o0, .int .i64 lf0, .int .i64 i0, .int .i64 p0, .int .i64 ps0, .int .i64 g0_, .bool s0, .int .i64 st0, .int .i64 rs0, .int .i64 rr0, .int .i64 sq0, .slice ao0 l0.length cap0], rfl, by
          intro t u ht
          rcases (by have := (List.getElem?_eq_some_iff.1 ht).1; simp at this; omega : t = 0 ∨ t = 1 ∨ t = 2 ∨ t = 3 ∨ t = 4 ∨ t = 5 ∨ t = 6 ∨ t = 7 ∨ t = 8 ∨ t = 9 ∨ t = 10 ∨ t = 11 ∨ t = 12 ∨ t = 13 ∨ t = 14 ∨ t = 15 ∨ t = 16 ∨ t = 17) with rfl | rfl | rfl | rfl | rfl | rfl | rfl | rfl | rfl | rfl | rfl | rfl | rfl | rfl | rfl | rfl | rfl | rfl <;> (simp at ht; subst ht; simp)⟩, f159.mod hA⟩
      · exact ⟨_, ⟨[.int .i64 dq1, .int .i64 dr1, .int .i64 ds1, .int .i64 dn1, .int .i64 dt1, .int .i64 k1, .int .i64 o1, .int .i64 lf1, .int .i64 i1, .int .i64 p1, .int .i64 ps1, .int .i64 g1_, .bool s1, .int .i64 st1, .int .i64 rs1, .int .i64 rr1, .int .i64 sq1, .slice ao1 l1.length cap1], rfl, by
          intro t u ht
          rcases (by have := (List.getElem?_eq_some_iff.1 ht).1; simp at this; omega : t = 0 ∨ t = 1 ∨ t = 2 ∨ t = 3 ∨ t = 4 ∨ t = 5 ∨ t = 6 ∨ t = 7 ∨ t = 8 ∨ t = 9 ∨ t = 10 ∨ t = 11 ∨ t = 12 ∨ t = 13 ∨ t = 14 ∨ t = 15 ∨ t = 16 ∨ t = 17) with rfl | rfl | rfl | rfl | rfl | rfl | rfl | rfl | rfl | rfl | rfl | rfl | rfl | rfl | rfl | rfl | rfl | rfl <;> (simp at ht; subst ht; simp)⟩, f162.mod hA⟩
      · exact ⟨_, ⟨[.int .i64 dq2, .int .i64 dr2, .int .i64 ds2, .int .i64 dn2, .int .i64 dt2, .int .i64 k2, .int .i64 o2, .int .i64 lf2, .int .i64 i2, .int .i64 p2, .int .i64 ps2, .int .i64 g2_, .bool s2, .int .i64 st2, .int .i64 rs2, .int .i64 rr2, .int .i64 sq2, .slice ao2 l2.length cap2], rfl, by
          intro t u ht
          rcases (by have := (List.getElem?_eq_some_iff.1 ht).1; simp at this; omega : t = 0 ∨ t = 1 ∨ t = 2 ∨ t = 3 ∨ t = 4 ∨ t = 5 ∨ t = 6 ∨ t = 7 ∨ t = 8 ∨ t = 9 ∨ t = 10 ∨ t = 11 ∨ t = 12 ∨ t = 13 ∨ t = 14 ∨ t = 15 ∨ t = 16 ∨ t = 17) with rfl | rfl | rfl | rfl | rfl | rfl | rfl | rfl | rfl | rfl | rfl | rfl | rfl | rfl | rfl | rfl | rfl | rfl <;> (simp at ht; subst ht; simp)⟩, f166.mod hA⟩
      · exact ⟨_, ⟨[.int .i64 dq3, .int .i64 dr3, .int .i64 ds3, .int .i64 dn3, .int .i64 dt3, .int .i64 k3, .int .i64 o3, .int .i64 lf3, .int .i64 i3, .int .i64 p3, .int .i64 ps3, .int .i64 g3_, .bool s3, .int .i64 st3, .int .i64 rs3, .int .i64 rr3, .int .i64 sq3, .slice ao3 l3.length cap3], rfl, by
          intro t u ht
          rcases (by have := (List.getElem?_eq_some_iff.1 ht).1; simp at this; omega : t = 0 ∨ t = 1 ∨ t = 2 ∨ t = 3 ∨ t = 4 ∨ t = 5 ∨ t = 6 ∨ t = 7 ∨ t = 8 ∨ t = 9 ∨ t = 10 ∨ t = 11 ∨ t = 12 ∨ t = 13 ∨ t = 14 ∨ t = 15 ∨ t = 16 ∨ t = 17) with rfl | rfl | rfl | rfl | rfl | rfl | rfl | rfl | rfl | rfl | rfl | rfl | rfl | rfl | rfl | rfl | rfl | rfl <;> (simp at ht; subst ht; simp)⟩, f170.mod hA⟩
      · exact ⟨_, ⟨[.int .i64 dq4, .int .i64 dr4, .int .i64 ds4, .int .i64 dn4, .int .i64 dt4, .int .i64 k4, .int .i64 o4, .int .i64 lf4, .int .i64 i4, .int .i64 p4, .int .i64 ps4, .int .i64 g4_, .bool s4, .int .i64 st4, .int .i64 rs4, .int .i64 rr4, .int .i64 sq4, .slice ao4 l4.length cap4], rfl, by
          intro t u ht
          rcases (by have := (List.getElem?_eq_some_iff.1 ht).1; simp at this; omega : t = 0 ∨ t = 1 ∨ t = 2 ∨ t = 3 ∨ t = 4 ∨ t = 5 ∨ t = 6 ∨ t = 7 ∨ t = 8 ∨ t = 9 ∨ t = 10 ∨ t = 11 ∨ t = 12 ∨ t = 13 ∨ t = 14 ∨ t = 15 ∨ t = 16 ∨ t = 17) with rfl | rfl | rfl | rfl | rfl | rfl | rfl | rfl | rfl | rfl | rfl | rfl | rfl | rfl | rfl | rfl | rfl | rfl <;> (simp at ht; subst ht; simp)⟩, f174.mod hA⟩
      · exact ⟨_, ⟨[.int .i64 dq5, .int .i64 dr5, .int .i64 ds5, .int .i64 dn5, .int .i64 dt5, .int .i64 k5, .int .i64 o5, .int .i64 lf5, .int .i64 i5, .int .i64 p5, .int .i64 ps5, .int .i64 g5_, .bool s5, .int .i64 st5, .int .i64 rs5, .int .i64 rr5, .int .i64 sq5, .slice ao5 l5.length cap5], rfl, by
          intro t u ht
          rcases (by have := (List.getElem?_eq_some_iff.1 ht).1; simp at this; omega : t = 0 ∨ t = 1 ∨ t = 2 ∨ t = 3 ∨ t = 4 ∨ t = 5 ∨ t = 6 ∨ t = 7 ∨ t = 8 ∨ t = 9 ∨ t = 10 ∨ t = 11 ∨ t = 12 ∨ t = 13 ∨ t = 14 ∨ t = 15 ∨ t = 16 ∨ t = 17) with rfl | rfl | rfl | rfl | rfl | rfl | rfl | rfl | rfl | rfl | rfl | rfl | rfl | rfl | rfl | rfl | rfl | rfl <;> (simp at ht; subst ht; simp)⟩, f176.mod hA⟩
      ⟩ (hinv.alloc _))
  have s19 : ∀ o, ops[19]? = some o → StepW Try.prog ops (fun i v w => Pk b cv bv ([10, 2, 3, 10, 2, 3, 9, 10, 2, 3, 9, 10, 2, 3, 9, 10, 9, 10, 11, 11].getD i 0) v w) (fun _ W => Mod (fun _ => False) w0.drew W) a0 Q 19 o := by
    refine E19.stepW fun o hd ho hg hw => ?_
    intro y w listed hsz hls hun hwt hdown D' R hinv K hK
    refine .inl ⟨wanted_none hg, ?_⟩
    have hc : ∀ v, y.eval (.const v) = v := fun _ => rfl
    have f177 : Sx w (y.eval (Operand.tmp 177)) := E18.postW (Post := (fun i v w => Pk b cv bv ([10, 2, 3, 10, 2, 3, 9, 10, 2, 3, 9, 10, 2, 3, 9, 10, 9, 10, 11, 11].getD i 0) v w)) (a := y) (w := w) D' (hw 18 (by simp))
    exact wp_value (ln26_19 ho rfl) (hK _ _ (Mod.refl _ _) f177 hinv)
  refine region_freeW (Post := (fun i v w => Pk b cv bv ([10, 2, 3, 10, 2, 3, 9, 10, 2, 3, 9, 10, 2, 3, 9, 10, 9, 10, 11, 11].getD i 0) v w)) (Inv := (fun _ W => Mod (fun _ => False) w0.drew W)) hmx (low_of hlow) (fun i o ho => by rw [ha0]; exact dst_of (by rw [hds]; decide) i o ho) (inj_of hnd) (Mod.refl _ _) (fun _ _ _ _ hm h => Pk.mod hm h) ?_ ?_
  · intro i o ho
    have hi : i < 20 := by
      rw [← hN]
      rcases Nat.lt_or_ge i ops.size with h | h
      · exact h
      · rw [Array.getElem?_eq_none h] at ho; cases ho
    clear hend
    by_cases e0 : i = 0
    · subst e0; exact s0 o ho
    by_cases e1 : i = 1
    · subst e1; exact s1 o ho
    by_cases e2 : i = 2
    · subst e2; exact s2 o ho
    by_cases e3 : i = 3
    · subst e3; exact s3 o ho
    by_cases e4 : i = 4
    · subst e4; exact s4 o ho
    by_cases e5 : i = 5
    · subst e5; exact s5 o ho
    by_cases e6 : i = 6
    · subst e6; exact s6 o ho
    by_cases e7 : i = 7
    · subst e7; exact s7 o ho
    by_cases e8 : i = 8
    · subst e8; exact s8 o ho
    by_cases e9 : i = 9
    · subst e9; exact s9 o ho
    by_cases e10 : i = 10
    · subst e10; exact s10 o ho
    by_cases e11 : i = 11
    · subst e11; exact s11 o ho
    by_cases e12 : i = 12
    · subst e12; exact s12 o ho
    by_cases e13 : i = 13
    · subst e13; exact s13 o ho
    by_cases e14 : i = 14
    · subst e14; exact s14 o ho
    by_cases e15 : i = 15
    · subst e15; exact s15 o ho
    by_cases e16 : i = 16
    · subst e16; exact s16 o ho
    by_cases e17 : i = 17
    · subst e17; exact s17 o ho
    by_cases e18 : i = 18
    · subst e18; exact s18 o ho
    by_cases e19 : i = 19
    · subst e19; exact s19 o ho
    omega
  · intro y w listed hsz hdf hls hall hinv hp hr
    obtain ⟨u, hu⟩ : ∃ u : Nat → Value, ∀ d, y.tmps.getD d undef = u d := ⟨fun d => y.tmps.getD d undef, fun _ => rfl⟩
    have e : y = puts a0 [(159, u 159), (160, u 160), (161, u 161), (162, u 162), (163, u 163), (164, u 164), (165, u 165), (166, u 166), (167, u 167), (168, u 168), (169, u 169), (170, u 170), (171, u 171), (172, u 172), (173, u 173), (174, u 174), (175, u 175), (176, u 176), (177, u 177), (14, u 14)] := by
      refine eq_puts hsz hdf (nodup_of (D := [some 159, some 160, some 161, some 162, some 163, some 164, some 165, some 166, some 167, some 168, some 169, some 170, some 171, some 172, some 173, some 174, some 175, some 176, some 177, some 14]) rfl (by decide)) (by rw [ha0]; simp) ?_ ?_
      · intro q hq
        simp only [List.mem_cons, List.not_mem_nil, or_false] at hq
        rcases hq with rfl | rfl | rfl | rfl | rfl | rfl | rfl | rfl | rfl | rfl | rfl | rfl | rfl | rfl | rfl | rfl | rfl | rfl | rfl | rfl <;> exact hu _
      · intro t ht
        refine hr t (not_of ?_)
        rw [hds]
        simp only [List.mem_cons, List.not_mem_nil, or_false, forall_eq_or_imp, forall_eq] at ht
        simp only [List.contains_cons, List.contains_nil, Bool.or_eq_false_iff, beq_eq_false_iff_ne, ne_eq, Option.some.injEq, Bool.or_false]
        simp only [eq_comm (a := t)]
        simp [ht]
    have hfin : Pk b cv bv 11 (u 14) w := by
      obtain ⟨o, h1, h2, _⟩ := E19.ex
      rw [← hu]
      exact hp 19 o _ h1 h2
    rw [e]
    exact hend u w hinv hfin
theorem ln20_0 {oq : Oper} {w : World} {ρ : Operand → Value} {v : Value} (ho : oq.op = Op.move (Operand.tmp 9)) (hx : ρ (Operand.tmp 9) = v) : (execOp ρ oq).run Try.prog w = .ok (.value (v)) (w) := by
  simp [execOp, ho, hx, go_sem]
theorem ln20_1 {oq : Oper} {w : World} {ρ : Operand → Value} {ao : Option Addr} {c : Nat} (hc : ∀ v, ρ (.const v) = v) (ho : oq.op = Op.slice 26 (Operand.tmp 125) none (some (Operand.const (Value.int IntKind.i64 12))) none) (hx : ρ (Operand.tmp 125) = .slice ao 13 c) (hl : 13 ≤ c) : (execOp ρ oq).run Try.prog w = .ok (.value (.slice ao 12 c)) (w) := by
  have h1 : (12 : Int) ≤ c := by omega
  simp [h1, execOp, ho, hx, hc, go_sem]
theorem ln20_2 {oq : Oper} {w : World} {ρ : Operand → Value} {v : Value} (ho : oq.op = Op.move (Operand.tmp 9)) (hx : ρ (Operand.tmp 9) = v) : (execOp ρ oq).run Try.prog w = .ok (.value (v)) (w) := by
  simp [execOp, ho, hx, go_sem]
theorem ln20_3 {oq : Oper} {w : World} {ρ : Operand → Value} {v : Value} (ho : oq.op = Op.move (Operand.tmp 11)) (hx : ρ (Operand.tmp 11) = v) : (execOp ρ oq).run Try.prog w = .ok (.value (v)) (w) := by
  simp [execOp, ho, hx, go_sem]
theorem ln20_4 {oq : Oper} {w : World} {ρ : Operand → Value}  (hc : ∀ v, ρ (.const v) = v) (ho : oq.op = Op.buildSlice 26 1 #[(0, Operand.const (Value.int IntKind.u8 5))])  : (execOp ρ oq).run Try.prog w = .ok (.value (.slice (some ⟨w.heap.size, 0, none⟩) 1 1)) (w.alloc (.cells (U [5]).toArray 5)) := by
  simp [execOp, ho, hc, U, go_sem]
theorem ln20_5 {oq : Oper} {w : World} {ρ : Operand → Value}  (hc : ∀ v, ρ (.const v) = v) (ho : oq.op = Op.buildSlice 26 1 #[(0, Operand.const (Value.int IntKind.u8 0))])  : (execOp ρ oq).run Try.prog w = .ok (.value (.slice (some ⟨w.heap.size, 0, none⟩) 1 1)) (w.alloc (.cells (U [0]).toArray 5)) := by
  simp [execOp, ho, hc, U, go_sem]
theorem ln20_6 {oq : Oper} {w : World} {ρ : Operand → Value}  (hc : ∀ v, ρ (.const v) = v) (ho : oq.op = Op.buildSlice 26 2 #[(0, Operand.const (Value.int IntKind.u8 4)), (1, Operand.const (Value.int IntKind.u8 0))])  : (execOp ρ oq).run Try.prog w = .ok (.value (.slice (some ⟨w.heap.size, 0, none⟩) 2 2)) (w.alloc (.cells (U [4, 0]).toArray 5)) := by
  simp [execOp, ho, hc, U, go_sem]
theorem ln20_7 {oq : Oper} {w : World} {ρ : Operand → Value} {v : Value} (ho : oq.op = Op.move (Operand.tmp 3)) (hx : ρ (Operand.tmp 3) = v) : (execOp ρ oq).run Try.prog w = .ok (.value (v)) (w) := by
  simp [execOp, ho, hx, go_sem]
theorem ln20_8 {oq : Oper} {w : World} {ρ : Operand → Value} {v : Value} (ho : oq.op = Op.move (Operand.tmp 3)) (hx : ρ (Operand.tmp 3) = v) : (execOp ρ oq).run Try.prog w = .ok (.value (v)) (w) := by
  simp [execOp, ho, hx, go_sem]
theorem ln20_9 {oq : Oper} {w : World} {ρ : Operand → Value} {ao : Option Addr} {c : Nat} (hc : ∀ v, ρ (.const v) = v) (ho : oq.op = Op.slice 26 (Operand.tmp 133) none (some (Operand.const (Value.int IntKind.i64 8))) none) (hx : ρ (Operand.tmp 133) = .slice ao 9 c) (hl : 9 ≤ c) : (execOp ρ oq).run Try.prog w = .ok (.value (.slice ao 8 c)) (w) := by
  have h1 : (8 : Int) ≤ c := by omega
  simp [h1, execOp, ho, hx, hc, go_sem]
theorem ln20_10 {oq : Oper} {w : World} {ρ : Operand → Value}  (hc : ∀ v, ρ (.const v) = v) (ho : oq.op = Op.buildSlice 26 6 #[(0, Operand.const (Value.int IntKind.u8 1)), (1, Operand.const (Value.int IntKind.u8 0)), (2, Operand.const (Value.int IntKind.u8 131)), (3, Operand.const (Value.int IntKind.u8 0)), (4, Operand.const (Value.int IntKind.u8 2)), (5, Operand.const (Value.int IntKind.u8 6))])  : (execOp ρ oq).run Try.prog w = .ok (.value (.slice (some ⟨w.heap.size, 0, none⟩) 6 6)) (w.alloc (.cells (U [1, 0, 131, 0, 2, 6]).toArray 5)) := by
  simp [execOp, ho, hc, U, go_sem]
theorem ln20_11 {oq : Oper} {w : World} {ρ : Operand → Value}  (hc : ∀ v, ρ (.const v) = v) (ho : oq.op = Op.buildSlice 26 13 #[(0, Operand.const (Value.int IntKind.u8 2)), (1, Operand.const (Value.int IntKind.u8 3)), (2, Operand.const (Value.int IntKind.u8 0)), (3, Operand.const (Value.int IntKind.u8 0)), (4, Operand.const (Value.int IntKind.u8 0)), (5, Operand.const (Value.int IntKind.u8 0)), (6, Operand.const (Value.int IntKind.u8 0)), (7, Operand.const (Value.int IntKind.u8 2)), (8, Operand.const (Value.int IntKind.u8 5)), (9, Operand.const (Value.int IntKind.u8 2)), (10, Operand.const (Value.int IntKind.u8 1)), (11, Operand.const (Value.int IntKind.u8 7)), (12, Operand.const (Value.int IntKind.u8 0))])  : (execOp ρ oq).run Try.prog w = .ok (.value (.slice (some ⟨w.heap.size, 0, none⟩) 13 13)) (w.alloc (.cells (U [2, 3, 0, 0, 0, 0, 0, 2, 5, 2, 1, 7, 0]).toArray 5)) := by
  simp [execOp, ho, hc, U, go_sem]
theorem ln20_12 {oq : Oper} {w : World} {ρ : Operand → Value}  (hc : ∀ v, ρ (.const v) = v) (ho : oq.op = Op.buildSlice 26 14 #[(0, Operand.const (Value.int IntKind.u8 2)), (1, Operand.const (Value.int IntKind.u8 3)), (2, Operand.const (Value.int IntKind.u8 0)), (3, Operand.const (Value.int IntKind.u8 0)), (4, Operand.const (Value.int IntKind.u8 0)), (5, Operand.const (Value.int IntKind.u8 0)), (6, Operand.const (Value.int IntKind.u8 0)), (7, Operand.const (Value.int IntKind.u8 0)), (8, Operand.const (Value.int IntKind.u8 5)), (9, Operand.const (Value.int IntKind.u8 2)), (10, Operand.const (Value.int IntKind.u8 1)), (11, Operand.const (Value.int IntKind.u8 7)), (12, Operand.const (Value.int IntKind.u8 161)), (13, Operand.const (Value.int IntKind.u8 1))])  : (execOp ρ oq).run Try.prog w = .ok (.value (.slice (some ⟨w.heap.size, 0, none⟩) 14 14)) (w.alloc (.cells (U [2, 3, 0, 0, 0, 0, 0, 0, 5, 2, 1, 7, 161, 1]).toArray 5)) := by
  simp [execOp, ho, hc, U, go_sem]
theorem ln20_13 {oq : Oper} {w : World} {ρ : Operand → Value} {a126 : Option Addr} {n126 c126 : Nat} {a127 : Option Addr} {n127 c127 : Nat} {a128 : Option Addr} {n128 c128 : Nat} {a129 : Option Addr} {n129 c129 : Nat} {a130 : Option Addr} {n130 c130 : Nat} {a131 : Option Addr} {n131 c131 : Nat} {a132 : Option Addr} {n132 c132 : Nat} {a134 : Option Addr} {n134 c134 : Nat} {a135 : Option Addr} {n135 c135 : Nat} {a136 : Option Addr} {n136 c136 : Nat} {a137 : Option Addr} {n137 c137 : Nat} (hc : ∀ v, ρ (.const v) = v) (ho : oq.op = Op.buildSlice 62 12 #[(0, Operand.const (Value.slice none 0 0)), (1, Operand.tmp 126), (2, Operand.tmp 127), (3, Operand.tmp 128), (4, Operand.tmp 129), (5, Operand.tmp 130), (6, Operand.tmp 131), (7, Operand.tmp 132), (8, Operand.tmp 134), (9, Operand.tmp 135), (10, Operand.tmp 136), (11, Operand.tmp 137)]) (h126 : ρ (Operand.tmp 126) = .slice a126 n126 c126) (h127 : ρ (Operand.tmp 127) = .slice a127 n127 c127) (h128 : ρ (Operand.tmp 128) = .slice a128 n128 c128) (h129 : ρ (Operand.tmp 129) = .slice a129 n129 c129) (h130 : ρ (Operand.tmp 130) = .slice a130 n130 c130) (h131 : ρ (Operand.tmp 131) = .slice a131 n131 c131) (h132 : ρ (Operand.tmp 132) = .slice a132 n132 c132) (h134 : ρ (Operand.tmp 134) = .slice a134 n134 c134) (h135 : ρ (Operand.tmp 135) = .slice a135 n135 c135) (h136 : ρ (Operand.tmp 136) = .slice a136 n136 c136) (h137 : ρ (Operand.tmp 137) = .slice a137 n137 c137) : (execOp ρ oq).run Try.prog w = .ok (.value (.slice (some ⟨w.heap.size, 0, none⟩) 12 12)) (w.alloc (.cells #[.slice none 0 0, .slice a126 n126 c126, .slice a127 n127 c127, .slice a128 n128 c128, .slice a129 n129 c129, .slice a130 n130 c130, .slice a131 n131 c131, .slice a132 n132 c132, .slice a134 n134 c134, .slice a135 n135 c135, .slice a136 n136 c136, .slice a137 n137 c137] 26)) := by
  simp [execOp, ho, h126, h127, h128, h129, h130, h131, h132, h134, h135, h136, h137, hc, go_sem]
theorem ln20_14 {oq : Oper} {w : World} {ρ : Operand → Value} {v : Value} (ho : oq.op = Op.assign (Operand.tmp 138)) (hx : ρ (Operand.tmp 138) = v) : (execOp ρ oq).run Try.prog w = .ok (.value (v)) (w) := by
  simp [execOp, ho, hx, go_sem]
set_option maxRecDepth 100000 in
set_option maxHeartbeats 4000000 in
theorem region20 {ops : Array Oper} {id : Nat} {a0 : Act} {w0 : World} {Q : Exit → Act → World → Prop} (b : Nat) (cv bv : Value) (dv : Value) (a9 a3 : Option Addr) (c9 c3 : Nat)
    (E0 : Is ops 0 (some 125) (Op.move (Operand.tmp 9)) none [])
    (E1 : Is ops 1 (some 126) (Op.slice 26 (Operand.tmp 125) none (some (Operand.const (Value.int IntKind.i64 12))) none) none [0])
    (E2 : Is ops 2 (some 127) (Op.move (Operand.tmp 9)) none [])
    (E3 : Is ops 3 (some 128) (Op.move (Operand.tmp 11)) none [])
    (E4 : Is ops 4 (some 129) (Op.buildSlice 26 1 #[(0, Operand.const (Value.int IntKind.u8 5))]) none [])
    (E5 : Is ops 5 (some 130) (Op.buildSlice 26 1 #[(0, Operand.const (Value.int IntKind.u8 0))]) none [])
    (E6 : Is ops 6 (some 131) (Op.buildSlice 26 2 #[(0, Operand.const (Value.int IntKind.u8 4)), (1, Operand.const (Value.int IntKind.u8 0))]) none [])
    (E7 : Is ops 7 (some 132) (Op.move (Operand.tmp 3)) none [])
    (E8 : Is ops 8 (some 133) (Op.move (Operand.tmp 3)) none [])
    (E9 : Is ops 9 (some 134) (Op.slice 26 (Operand.tmp 133) none (some (Operand.const (Value.int IntKind.i64 8))) none) none [8])
    (E10 : Is ops 10 (some 135) (Op.buildSlice 26 6 #[(0, Operand.const (Value.int IntKind.u8 1)), (1, Operand.const (Value.int IntKind.u8 0)), (2, Operand.const (Value.int IntKind.u8 131)), (3, Operand.const (Value.int IntKind.u8 0)), (4, Operand.const (Value.int IntKind.u8 2)), (5, Operand.const (Value.int IntKind.u8 6))]) none [])
    (E11 : Is ops 11 (some 136) (Op.buildSlice 26 13 #[(0, Operand.const (Value.int IntKind.u8 2)), (1, Operand.const (Value.int IntKind.u8 3)), (2, Operand.const (Value.int IntKind.u8 0)), (3, Operand.const (Value.int IntKind.u8 0)), (4, Operand.const (Value.int IntKind.u8 0)), (5, Operand.const (Value.int IntKind.u8 0)), (6, Operand.const (Value.int IntKind.u8 0)), (7, Operand.const (Value.int IntKind.u8 2)), (8, Operand.const (Value.int IntKind.u8 5)), (9, Operand.const (Value.int IntKind.u8 2)), (10, Operand.const (Value.int IntKind.u8 1)), (11, Operand.const (Value.int IntKind.u8 7)), (12, Operand.const (Value.int IntKind.u8 0))]) none [])
    (E12 : Is ops 12 (some 137) (Op.buildSlice 26 14 #[(0, Operand.const (Value.int IntKind.u8 2)), (1, Operand.const (Value.int IntKind.u8 3)), (2, Operand.const (Value.int IntKind.u8 0)), (3, Operand.const (Value.int IntKind.u8 0)), (4, Operand.const (Value.int IntKind.u8 0)), (5, Operand.const (Value.int IntKind.u8 0)), (6, Operand.const (Value.int IntKind.u8 0)), (7, Operand.const (Value.int IntKind.u8 0)), (8, Operand.const (Value.int IntKind.u8 5)), (9, Operand.const (Value.int IntKind.u8 2)), (10, Operand.const (Value.int IntKind.u8 1)), (11, Operand.const (Value.int IntKind.u8 7)), (12, Operand.const (Value.int IntKind.u8 161)), (13, Operand.const (Value.int IntKind.u8 1))]) none [])
    (E13 : Is ops 13 (some 138) (Op.buildSlice 62 12 #[(0, Operand.const (Value.slice none 0 0)), (1, Operand.tmp 126), (2, Operand.tmp 127), (3, Operand.tmp 128), (4, Operand.tmp 129), (5, Operand.tmp 130), (6, Operand.tmp 131), (7, Operand.tmp 132), (8, Operand.tmp 134), (9, Operand.tmp 135), (10, Operand.tmp 136), (11, Operand.tmp 137)]) none [1, 2, 3, 4, 5, 6, 7, 9, 10, 11, 12])
    (E14 : Is ops 14 (some 12) (Op.assign (Operand.tmp 138)) none [0, 1, 2, 3, 4, 5, 6, 7, 8, 9, 10, 11, 12, 13])
    (hN : ops.size = 15) (hlow : lowB ops = true) (hds : dsts ops = [some 125, some 126, some 127, some 128, some 129, some 130, some 131, some 132, some 133, some 134, some 135, some 136, some 137, some 138, some 12]) (hnd : injB ops = true)
    (hmx : Try.prog.follows .mixedOrders = true) (ha0 : a0.tmps.size = 223)
    (h9 : a0.tmps.getD 9 undef = cv) (h11 : a0.tmps.getD 11 undef = dv) (h3 : a0.tmps.getD 3 undef = bv) (hv9 : cv = .slice a9 13 c9) (hv3 : bv = .slice a3 9 c3)
    (b9 : ∀ {W}, Mod (fun _ => False) w0 W → IsB W cv) (b11 : ∀ {W}, Mod (fun _ => False) w0 W → IsB W dv) (b3 : ∀ {W}, Mod (fun _ => False) w0 W → IsB W bv) (cut9 : ∀ {W}, Mod (fun _ => False) w0 W → IsB W (.slice a9 12 c9)) (cut3 : ∀ {W}, Mod (fun _ => False) w0 W → IsB W (.slice a3 8 c3)) (l9 : 13 ≤ c9) (l3 : 9 ≤ c3)
    (hend : ∀ (u : Nat → Value) w, Mod (fun _ => False) w0.drew w → Tw IsB w (u 12) → Q .normal (puts a0 [(125, u 125), (126, u 126), (127, u 127), (128, u 128), (129, u 129), (130, u 130), (131, u 131), (132, u 132), (133, u 133), (134, u 134), (135, u 135), (136, u 136), (137, u 137), (138, u 138), (12, u 12)]) w) :
    (Code.region id ops true).wp Try.prog Q a0 w0 := by
  have D : ∀ {W : World} {a : Addr} {v : Value}, Mod (fun _ => False) w0.drew W → w0.cell? a = some v → W.cell? a = some v := fun hW hc => hW.cell (by simpa using hc) (fun h => h)
  have D0 : ∀ {W : World}, Mod (fun _ => False) w0.drew W → Mod (fun _ => False) w0 W := fun hW => ((Mod.refl (fun _ => False) w0).drew).trans hW (fun _ _ h => h) (fun _ _ h => h)
  have s0 : ∀ o, ops[0]? = some o → StepW Try.prog ops (fun i v w => Pk b cv bv ([7, 5, 5, 5, 5, 5, 5, 5, 8, 5, 5, 5, 5, 6, 6].getD i 0) v w) (fun _ W => Mod (fun _ => False) w0.drew W) a0 Q 0 o := by
    refine E0.stepW fun o hd ho hg hw => ?_
    intro y w listed hsz hls hun hwt hdown D' R hinv K hK
    refine .inl ⟨wanted_none hg, ?_⟩
    have hc : ∀ v, y.eval (.const v) = v := fun _ => rfl
    have f9 : y.eval (Operand.tmp 9) = cv := (R 9 (not_of (by rw [hds]; decide))).trans h9
    exact wp_value (ln20_0 ho f9) (hK _ _ (Mod.refl _ _) rfl hinv)
  have s1 : ∀ o, ops[1]? = some o → StepW Try.prog ops (fun i v w => Pk b cv bv ([7, 5, 5, 5, 5, 5, 5, 5, 8, 5, 5, 5, 5, 6, 6].getD i 0) v w) (fun _ W => Mod (fun _ => False) w0.drew W) a0 Q 1 o := by
    refine E1.stepW fun o hd ho hg hw => ?_
    intro y w listed hsz hls hun hwt hdown D' R hinv K hK
    refine .inl ⟨wanted_none hg, ?_⟩
    have hc : ∀ v, y.eval (.const v) = v := fun _ => rfl
    have f125 : y.eval (Operand.tmp 125) = cv := E0.postW (Post := (fun i v w => Pk b cv bv ([7, 5, 5, 5, 5, 5, 5, 5, 8, 5, 5, 5, 5, 6, 6].getD i 0) v w)) (a := y) (w := w) D' (hw 0 (by simp))
    exact wp_value (ln20_1 hc ho (f125.trans hv9) l9) (hK _ _ (Mod.refl _ _) (cut9 (D0 hinv)) hinv)
  have s2 : ∀ o, ops[2]? = some o → StepW Try.prog ops (fun i v w => Pk b cv bv ([7, 5, 5, 5, 5, 5, 5, 5, 8, 5, 5, 5, 5, 6, 6].getD i 0) v w) (fun _ W => Mod (fun _ => False) w0.drew W) a0 Q 2 o := by
    refine E2.stepW fun o hd ho hg hw => ?_
    intro y w listed hsz hls hun hwt hdown D' R hinv K hK
    refine .inl ⟨wanted_none hg, ?_⟩
    have hc : ∀ v, y.eval (.const v) = v := fun _ => rfl
    have f9 : y.eval (Operand.tmp 9) = cv := (R 9 (not_of (by rw [hds]; decide))).trans h9
    exact wp_value (ln20_2 ho f9) (hK _ _ (Mod.refl _ _) (f9 ▸ (b9 (D0 hinv))) hinv)
  have s3 : ∀ o, ops[3]? = some o → StepW Try.prog ops (fun i v w => Pk b cv bv ([7, 5, 5, 5, 5, 5, 5, 5, 8, 5, 5, 5, 5, 6, 6].getD i 0) v w) (fun _ W => Mod (fun _ => False) w0.drew W) a0 Q 3 o := by
    refine E3.stepW fun o hd ho hg hw => ?_
    intro y w listed hsz hls hun hwt hdown D' R hinv K hK
    refine .inl ⟨wanted_none hg, ?_⟩
    have hc : ∀ v, y.eval (.const v) = v := fun _ => rfl
    have f11 : y.eval (Operand.tmp 11) = dv := (R 11 (not_of (by rw [hds]; decide))).trans h11
    exact wp_value (ln20_3 ho f11) (hK _ _ (Mod.refl _ _) (f11 ▸ (b11 (D0 hinv))) hinv)
  have s4 : ∀ o, ops[4]? = some o → StepW Try.prog ops (fun i v w => Pk b cv bv ([7, 5, 5, 5, 5, 5, 5, 5, 8, 5, 5, 5, 5, 6, 6].getD i 0) v w) (fun _ W => Mod (fun _ => False) w0.drew W) a0 Q 4 o := by
    refine E4.stepW fun o hd ho hg hw => ?_
    intro y w listed hsz hls hun hwt hdown D' R hinv K hK
    refine .inl ⟨wanted_none hg, ?_⟩
    have hc : ∀ v, y.eval (.const v) = v := fun _ => rfl
    exact wp_value (ln20_4 hc ho) (hK _ _ ((Mod.refl (fun _ => False) w).alloc _) ⟨_, (Own.lit w [5] (by simp [maxLen])).sl (by simp), by simp⟩ (hinv.alloc _))
  have s5 : ∀ o, ops[5]? = some o → StepW Try.prog ops (fun i v w => Pk b cv bv ([7, 5, 5, 5, 5, 5, 5, 5, 8, 5, 5, 5, 5, 6, 6].getD i 0) v w) (fun _ W => Mod (fun _ => False) w0.drew W) a0 Q 5 o := by
    refine E5.stepW fun o hd ho hg hw => ?_
    intro y w listed hsz hls hun hwt hdown D' R hinv K hK
    refine .inl ⟨wanted_none hg, ?_⟩
    have hc : ∀ v, y.eval (.const v) = v := fun _ => rfl
    exact wp_value (ln20_5 hc ho) (hK _ _ ((Mod.refl (fun _ => False) w).alloc _) ⟨_, (Own.lit w [0] (by simp [maxLen])).sl (by simp), by simp⟩ (hinv.alloc _))
  have s6 : ∀ o, ops[6]? = some o → StepW Try.prog ops (fun i v w => Pk b cv bv ([7, 5, 5, 5, 5, 5, 5, 5, 8, 5, 5, 5, 5, 6, 6].getD i 0) v w) (fun _ W => Mod (fun _ => False) w0.drew W) a0 Q 6 o := by
    refine E6.stepW fun o hd ho hg hw => ?_
    intro y w listed hsz hls hun hwt hdown D' R hinv K hK
    refine .inl ⟨wanted_none hg, ?_⟩
    have hc : ∀ v, y.eval (.const v) = v := fun _ => rfl
    exact wp_value (ln20_6 hc ho) (hK _ _ ((Mod.refl (fun _ => False) w).alloc _) ⟨_, (Own.lit w [4, 0] (by simp [maxLen])).sl (by simp), by simp⟩ (hinv.alloc _))
  have s7 : ∀ o, ops[7]? = some o → StepW Try.prog ops (fun i v w => Pk b cv bv ([7, 5, 5, 5, 5, 5, 5, 5, 8, 5, 5, 5, 5, 6, 6].getD i 0) v w) (fun _ W => Mod (fun _ => False) w0.drew W) a0 Q 7 o := by
    refine E7.stepW fun o hd ho hg hw => ?_
    intro y w listed hsz hls hun hwt hdown D' R hinv K hK
    refine .inl ⟨wanted_none hg, ?_⟩
    have hc : ∀ v, y.eval (.const v) = v := fun _ => rfl
    have f3 : y.eval (Operand.tmp 3) = bv := (R 3 (not_of (by rw [hds]; decide))).trans h3
    exact wp_value (ln20_7 ho f3) (hK _ _ (Mod.refl _ _) (f3 ▸ (b3 (D0 hinv))) hinv)
  have s8 : ∀ o, ops[8]? = some o → StepW Try.prog ops (fun i v w => Pk b cv bv ([7, 5, 5, 5, 5, 5, 5, 5, 8, 5, 5, 5, 5, 6, 6].getD i 0) v w) (fun _ W => Mod (fun _ => False) w0.drew W) a0 Q 8 o := by
    refine E8.stepW fun o hd ho hg hw => ?_
    intro y w listed hsz hls hun hwt hdown D' R hinv K hK
    refine .inl ⟨wanted_none hg, ?_⟩
    have hc : ∀ v, y.eval (.const v) = v := fun _ => rfl
    have f3 : y.eval (Operand.tmp 3) = bv := (R 3 (not_of (by rw [hds]; decide))).trans h3
    exact wp_value (ln20_8 ho f3) (hK _ _ (Mod.refl _ _) rfl hinv)
  have s9 : ∀ o, ops[9]? = some o → StepW Try.prog ops (fun i v w => Pk b cv bv ([7, 5, 5, 5, 5, 5, 5, 5, 8, 5, 5, 5, 5, 6, 6].getD i 0) v w) (fun _ W => Mod (fun _ => False) w0.drew W) a0 Q 9 o := by
    refine E9.stepW fun o hd ho hg hw => ?_
    intro y w listed hsz hls hun hwt hdown D' R hinv K hK
    refine .inl ⟨wanted_none hg, ?_⟩
    have hc : ∀ v, y.eval (.const v) = v := fun _ => rfl
    have f133 : y.eval (Operand.tmp 133) = bv := E8.postW (Post := (fun i v w => Pk b cv bv ([7, 5, 5, 5, 5, 5, 5, 5, 8, 5, 5, 5, 5, 6, 6].getD i 0) v w)) (a := y) (w := w) D' (hw 8 (by simp))
    exact wp_value (ln20_9 hc ho (f133.trans hv3) l3) (hK _ _ (Mod.refl _ _) (cut3 (D0 hinv)) hinv)
  have s10 : ∀ o, ops[10]? = some o → StepW Try.prog ops (fun i v w => Pk b cv bv ([7, 5, 5, 5, 5, 5, 5, 5, 8, 5, 5, 5, 5, 6, 6].getD i 0) v w) (fun _ W => Mod (fun _ => False) w0.drew W) a0 Q 10 o := by
    refine E10.stepW fun o hd ho hg hw => ?_
    intro y w listed hsz hls hun hwt hdown D' R hinv K hK
    refine .inl ⟨wanted_none hg, ?_⟩
    have hc : ∀ v, y.eval (.const v) = v := fun _ => rfl
    exact wp_value (ln20_10 hc ho) (hK _ _ ((Mod.refl (fun _ => False) w).alloc _) ⟨_, (Own.lit w [1, 0, 131, 0, 2, 6] (by simp [maxLen])).sl (by simp), by simp⟩ (hinv.alloc _))
  have s11 : ∀ o, ops[11]? = some o → StepW Try.prog ops (fun i v w => Pk b cv bv ([7, 5, 5, 5, 5, 5, 5, 5, 8, 5, 5, 5, 5, 6, 6].getD i 0) v w) (fun _ W => Mod (fun _ => False) w0.drew W) a0 Q 11 o := by
    refine E11.stepW fun o hd ho hg hw => ?_
    intro y w listed hsz hls hun hwt hdown D' R hinv K hK
    refine .inl ⟨wanted_none hg, ?_⟩
    have hc : ∀ v, y.eval (.const v) = v := fun _ => rfl
    exact wp_value (ln20_11 hc ho) (hK _ _ ((Mod.refl (fun _ => False) w).alloc _) ⟨_, (Own.lit w [2, 3, 0, 0, 0, 0, 0, 2, 5, 2, 1, 7, 0] (by simp [maxLen])).sl (by simp), by simp⟩ (hinv.alloc _))
  have s12 : ∀ o, ops[12]? = some o → StepW Try.prog ops (fun i v w => Pk b cv bv ([7, 5, 5, 5, 5, 5, 5, 5, 8, 5, 5, 5, 5, 6, 6].getD i 0) v w) (fun _ W => Mod (fun _ => False) w0.drew W) a0 Q 12 o := by
    refine E12.stepW fun o hd ho hg hw => ?_
    intro y w listed hsz hls hun hwt hdown D' R hinv K hK
    refine .inl ⟨wanted_none hg, ?_⟩
    have hc : ∀ v, y.eval (.const v) = v := fun _ => rfl
    exact wp_value (ln20_12 hc ho) (hK _ _ ((Mod.refl (fun _ => False) w).alloc _) ⟨_, (Own.lit w [2, 3, 0, 0, 0, 0, 0, 0, 5, 2, 1, 7, 161, 1] (by simp [maxLen])).sl (by simp), by simp⟩ (hinv.alloc _))
  have s13 : ∀ o, ops[13]? = some o → StepW Try.prog ops (fun i v w => Pk b cv bv ([7, 5, 5, 5, 5, 5, 5, 5, 8, 5, 5, 5, 5, 6, 6].getD i 0) v w) (fun _ W => Mod (fun _ => False) w0.drew W) a0 Q 13 o := by
    refine E13.stepW fun o hd ho hg hw => ?_
    intro y w listed hsz hls hun hwt hdown D' R hinv K hK
    refine .inl ⟨wanted_none hg, ?_⟩
    have hc : ∀ v, y.eval (.const v) = v := fun _ => rfl
    have f126 : IsB w (y.eval (Operand.tmp 126)) := E1.postW (Post := (fun i v w => Pk b cv bv ([7, 5, 5, 5, 5, 5, 5, 5, 8, 5, 5, 5, 5, 6, 6].getD i 0) v w)) (a := y) (w := w) D' (hw 1 (by simp))
    have f127 : IsB w (y.eval (Operand.tmp 127)) := E2.postW (Post := (fun i v w => Pk b cv bv ([7, 5, 5, 5, 5, 5, 5, 5, 8, 5, 5, 5, 5, 6, 6].getD i 0) v w)) (a := y) (w := w) D' (hw 2 (by simp))
    have f128 : IsB w (y.eval (Operand.tmp 128)) := E3.postW (Post := (fun i v w => Pk b cv bv ([7, 5, 5, 5, 5, 5, 5, 5, 8, 5, 5, 5, 5, 6, 6].getD i 0) v w)) (a := y) (w := w) D' (hw 3 (by simp))
    have f129 : IsB w (y.eval (Operand.tmp 129)) := E4.postW (Post := (fun i v w => Pk b cv bv ([7, 5, 5, 5, 5, 5, 5, 5, 8, 5, 5, 5, 5, 6, 6].getD i 0) v w)) (a := y) (w := w) D' (hw 4 (by simp))
    have f130 : IsB w (y.eval (Operand.tmp 130)) := E5.postW (Post := (fun i v w => Pk b cv bv ([7, 5, 5, 5, 5, 5, 5, 5, 8, 5, 5, 5, 5, 6, 6].getD i 0) v w)) (a := y) (w := w) D' (hw 5 (by simp))
    have f131 : IsB w (y.eval (Operand.tmp 131)) := E6.postW (Post := (fun i v w => Pk b cv bv ([7, 5, 5, 5, 5, 5, 5, 5, 8, 5, 5, 5, 5, 6, 6].getD i 0) v w)) (a := y) (w := w) D' (hw 6 (by simp))
    have f132 : IsB w (y.eval (Operand.tmp 132)) := E7.postW (Post := (fun i v w => Pk b cv bv ([7, 5, 5, 5, 5, 5, 5, 5, 8, 5, 5, 5, 5, 6, 6].getD i 0) v w)) (a := y) (w := w) D' (hw 7 (by simp))
    have f134 : IsB w (y.eval (Operand.tmp 134)) := E9.postW (Post := (fun i v w => Pk b cv bv ([7, 5, 5, 5, 5, 5, 5, 5, 8, 5, 5, 5, 5, 6, 6].getD i 0) v w)) (a := y) (w := w) D' (hw 9 (by simp))
    have f135 : IsB w (y.eval (Operand.tmp 135)) := E10.postW (Post := (fun i v w => Pk b cv bv ([7, 5, 5, 5, 5, 5, 5, 5, 8, 5, 5, 5, 5, 6, 6].getD i 0) v w)) (a := y) (w := w) D' (hw 10 (by simp))
    have f136 : IsB w (y.eval (Operand.tmp 136)) := E11.postW (Post := (fun i v w => Pk b cv bv ([7, 5, 5, 5, 5, 5, 5, 5, 8, 5, 5, 5, 5, 6, 6].getD i 0) v w)) (a := y) (w := w) D' (hw 11 (by simp))
    have f137 : IsB w (y.eval (Operand.tmp 137)) := E12.postW (Post := (fun i v w => Pk b cv bv ([7, 5, 5, 5, 5, 5, 5, 5, 8, 5, 5, 5, 5, 6, 6].getD i 0) v w)) (a := y) (w := w) D' (hw 12 (by simp))
    obtain ⟨a126, n126, c126, sh126⟩ := IsB.shape f126
    rw [sh126] at f126
    obtain ⟨a127, n127, c127, sh127⟩ := IsB.shape f127
    rw [sh127] at f127
    obtain ⟨a128, n128, c128, sh128⟩ := IsB.shape f128
    rw [sh128] at f128
    obtain ⟨a129, n129, c129, sh129⟩ := IsB.shape f129
    rw [sh129] at f129
    obtain ⟨a130, n130, c130, sh130⟩ := IsB.shape f130
    rw [sh130] at f130
    obtain ⟨a131, n131, c131, sh131⟩ := IsB.shape f131
    rw [sh131] at f131
    obtain ⟨a132, n132, c132, sh132⟩ := IsB.shape f132
    rw [sh132] at f132
    obtain ⟨a134, n134, c134, sh134⟩ := IsB.shape f134
    rw [sh134] at f134
    obtain ⟨a135, n135, c135, sh135⟩ := IsB.shape f135
    rw [sh135] at f135
    obtain ⟨a136, n136, c136, sh136⟩ := IsB.shape f136
    rw [sh136] at f136
    obtain ⟨a137, n137, c137, sh137⟩ := IsB.shape f137
    rw [sh137] at f137
    have hA := (Mod.refl (fun _ => False) w).alloc (.cells #[.slice none 0 0, .slice a126 n126 c126, .slice a127 n127 c127, .slice a128 n128 c128, .slice a129 n129 c129, .slice a130 n130 c130, .slice a131 n131 c131, .slice a132 n132 c132, .slice a134 n134 c134, .slice a135 n135 c135, .slice a136 n136 c136, .slice a137 n137 c137] 26)
    exact wp_value (ln20_13 hc ho sh126 sh127 sh128 sh129 sh130 sh131 sh132 sh134 sh135 sh136 sh137) (hK _ _ hA ⟨w.heap.size, rfl, by
      intro j hj
      rcases (by omega : j = 0 ∨ j = 1 ∨ j = 2 ∨ j = 3 ∨ j = 4 ∨ j = 5 ∨ j = 6 ∨ j = 7 ∨ j = 8 ∨ j = 9 ∨ j = 10 ∨ j = 11) with rfl | rfl | rfl | rfl | rfl | rfl | rfl | rfl | rfl | rfl | rfl | rfl
      · exact ⟨_, by simp, IsB.nil _⟩
      · exact ⟨_, by simp, f126.mod hA⟩
      · exact ⟨_, by simp, f127.mod hA⟩
      · exact ⟨_, by simp, f128.mod hA⟩
      · exact ⟨_, by simp, f129.mod hA⟩
      · exact ⟨_, by simp, f130.mod hA⟩
      · exact ⟨_, by simp, f131.mod hA⟩
      · exact ⟨_, by simp, f132.mod hA⟩
      · exact ⟨_, by simp, f134.mod hA⟩
      · exact ⟨_, by simp, f135.mod hA⟩
      · exact ⟨_, by simp, f136.mod hA⟩
      · exact ⟨_, by simp, f137.mod hA⟩
      ⟩ (hinv.alloc _))
  have s14 : ∀ o, ops[14]? = some o → StepW Try.prog ops (fun i v w => Pk b cv bv ([7, 5, 5, 5, 5, 5, 5, 5, 8, 5, 5, 5, 5, 6, 6].getD i 0) v w) (fun _ W => Mod (fun _ => False) w0.drew W) a0 Q 14 o := by
    refine E14.stepW fun o hd ho hg hw => ?_
    intro y w listed hsz hls hun hwt hdown D' R hinv K hK
    refine .inl ⟨wanted_none hg, ?_⟩
    have hc : ∀ v, y.eval (.const v) = v := fun _ => rfl
    have f138 : Tw IsB w (y.eval (Operand.tmp 138)) := E13.postW (Post := (fun i v w => Pk b cv bv ([7, 5, 5, 5, 5, 5, 5, 5, 8, 5, 5, 5, 5, 6, 6].getD i 0) v w)) (a := y) (w := w) D' (hw 13 (by simp))
    exact wp_value (ln20_14 ho rfl) (hK _ _ (Mod.refl _ _) f138 hinv)
  refine region_freeW (Post := (fun i v w => Pk b cv bv ([7, 5, 5, 5, 5, 5, 5, 5, 8, 5, 5, 5, 5, 6, 6].getD i 0) v w)) (Inv := (fun _ W => Mod (fun _ => False) w0.drew W)) hmx (low_of hlow) (fun i o ho => by rw [ha0]; exact dst_of (by rw [hds]; decide) i o ho) (inj_of hnd) (Mod.refl _ _) (fun _ _ _ _ hm h => Pk.mod hm h) ?_ ?_
  · intro i o ho
    have hi : i < 15 := by
      rw [← hN]
      rcases Nat.lt_or_ge i ops.size with h | h
      · exact h
      · rw [Array.getElem?_eq_none h] at ho; cases ho
    clear hend
    by_cases e0 : i = 0
    · subst e0; exact s0 o ho
    by_cases e1 : i = 1
    · subst e1; exact s1 o ho
    by_cases e2 : i = 2
    · subst e2; exact s2 o ho
    by_cases e3 : i = 3
    · subst e3; exact s3 o ho
    by_cases e4 : i = 4
    · subst e4; exact s4 o ho
    by_cases e5 : i = 5
    · subst e5; exact s5 o ho
    by_cases e6 : i = 6
    · subst e6; exact s6 o ho
    by_cases e7 : i = 7
    · subst e7; exact s7 o ho
    by_cases e8 : i = 8
    · subst e8; exact s8 o ho
    by_cases e9 : i = 9
    · subst e9; exact s9 o ho
    by_cases e10 : i = 10
    · subst e10; exact s10 o ho
    by_cases e11 : i = 11
    · subst e11; exact s11 o ho
    by_cases e12 : i = 12
    · subst e12; exact s12 o ho
    by_cases e13 : i = 13
    · subst e13; exact s13 o ho
    by_cases e14 : i = 14
    · subst e14; exact s14 o ho
    omega
  · intro y w listed hsz hdf hls hall hinv hp hr
    obtain ⟨u, hu⟩ : ∃ u : Nat → Value, ∀ d, y.tmps.getD d undef = u d := ⟨fun d => y.tmps.getD d undef, fun _ => rfl⟩
    have e : y = puts a0 [(125, u 125), (126, u 126), (127, u 127), (128, u 128), (129, u 129), (130, u 130), (131, u 131), (132, u 132), (133, u 133), (134, u 134), (135, u 135), (136, u 136), (137, u 137), (138, u 138), (12, u 12)] := by
      refine eq_puts hsz hdf (nodup_of (D := [some 125, some 126, some 127, some 128, some 129, some 130, some 131, some 132, some 133, some 134, some 135, some 136, some 137, some 138, some 12]) rfl (by decide)) (by rw [ha0]; simp) ?_ ?_
      · intro q hq
        simp only [List.mem_cons, List.not_mem_nil, or_false] at hq
        rcases hq with rfl | rfl | rfl | rfl | rfl | rfl | rfl | rfl | rfl | rfl | rfl | rfl | rfl | rfl | rfl <;> exact hu _
      · intro t ht
        refine hr t (not_of ?_)
        rw [hds]
        simp only [List.mem_cons, List.not_mem_nil, or_false, forall_eq_or_imp, forall_eq] at ht
        simp only [List.contains_cons, List.contains_nil, Bool.or_eq_false_iff, beq_eq_false_iff_ne, ne_eq, Option.some.injEq, Bool.or_false]
        simp only [eq_comm (a := t)]
        simp [ht]
    have hfin : Pk b cv bv 6 (u 12) w := by
      obtain ⟨o, h1, h2, _⟩ := E14.ex
      rw [← hu]
      exact hp 14 o _ h1 h2
    rw [e]
    exact hend u w hinv hfin
end Go.Proofs.Ytajhpnfpjickbaa
