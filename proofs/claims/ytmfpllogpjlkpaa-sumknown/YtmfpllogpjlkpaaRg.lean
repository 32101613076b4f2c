/- The great conjunction of SumKnown, whose order Go leaves open, answers true in whatever order. Conditions: what is said of the slots that it reads. -/
import Derived.Test.YtmfpllogpjlkpaaFrb
import Derived.Test.YtmfpllogpjlkpaaBit
namespace Go.Proofs.Ytmfpllogpjlkpaa
open Go.RowKit
theorem zeros_rng (n : Nat) : ∀ c ∈ List.replicate n (0 : Int), 0 ≤ c ∧ c ≤ 255 := fun c hc => by
  rw [List.mem_replicate] at hc
  omega
theorem made_zeros (n : Nat) : madeCells (Value.int .u8 0).cells n = (U (List.replicate n 0)).toArray := by
  apply Array.ext
  · simp [madeCells, U]
  · intro i h1 h2
    simp [madeCells, U, Value.cells, Nat.mod_one]
theorem make_zeros (n : Nat) (hn : n ≤ 140737488355328) (W : World) : (Instr.makeSlice 22 (.int .i64 (n : Int)) (.int .i64 (n : Int))).run Try.prog W = .ok (.slice (some ⟨W.heap.size, 0, none⟩) n n) (W.alloc (.cells (U (List.replicate n 0)).toArray 5)) := by
  obtain ⟨i0, hi, hz0, hz1, hz2⟩ := info_parts info5
  have h := run_make (P := Try.prog) W 22 5 i0 (.int .u8 0) Try.underlying22 hi hz0 .i64 .i64 (n : Int) (n : Int) (by omega) (by omega) (by rw [hz2]; omega) (by omega)
  rw [h, hz1, Nat.mul_one, Int.toNat_natCast, made_zeros]
theorem Sl.zeros (w : World) (n : Nat) (hn : n ≤ 140737488355328) : Sl (w.alloc (.cells (U (List.replicate n 0)).toArray 5)) (.slice (some ⟨w.heap.size, 0, none⟩) n n) (List.replicate n 0) := by
  have := Sl.lit w (List.replicate n 0) (by simp [maxLen]; omega) (zeros_rng n)
  rwa [List.length_replicate] at this
theorem Own.zeros (w : World) (n : Nat) (hn : n ≤ 140737488355328) : Own (w.alloc (.cells (U (List.replicate n 0)).toArray 5)) (.slice (some ⟨w.heap.size, 0, none⟩) n n) (List.replicate n 0) := by
  have := Own.lit w (List.replicate n 0) (by simp [maxLen]; omega)
  rwa [List.length_replicate] at this
theorem ck0 : chk [0] = 3523407757 := by decide +kernel
theorem se0 : sealed [] = [0, 0, 0, 0] := by decide +kernel
theorem se1 : sealed [97] = [97, 232, 183, 190, 67] := by decide +kernel
/-- What is said of a slot. -/
structure Kd where
  is : Option Value
  bytes : Option (List Int)
def Kd.val (v : Value) : Kd := ⟨some v, none⟩
def Kd.sl (l : List Int) : Kd := ⟨none, some l⟩
def Kd.lit : Kd := ⟨none, none⟩
def Holds (B : Nat) (k : Kd) (v : Value) (w : World) : Prop :=
  match k.is, k.bytes with
  | some x, _ => v = x
  | none, some l => Sl w v l
  | none, none => ∃ b f, B ≤ b ∧ v = .slice (some ⟨b, 0, none⟩) 1 1 ∧ w.heap[b]? = some (.cells #[.int .u8 97] 5 f)
theorem Holds.on {B C : Nat} {k : Kd} {v : Value} {w w' : World} (h : Holds B k v w) (o : On C w w') : Holds B k v w' := by
  obtain ⟨is, bytes⟩ := k
  cases is with
  | some x => exact h
  | none =>
    cases bytes with
    | some l => exact Sl.on h o
    | none =>
      obtain ⟨b, f, h1, h2, h3⟩ := h
      obtain ⟨f', h'⟩ := o.cells _ _ _ _ h3
      exact ⟨b, f', h1, h2, h'⟩
theorem sl_frozen {w : World} {b : Nat} {f : Nat × Nat} (h : w.heap[b]? = some (.cells #[.int .u8 97] 5 f)) : Sl w (.slice (some ⟨b, 0, none⟩) 1 1) [97] := by
  refine ⟨⟨_, _, rfl, Nat.le_refl _, by simp [maxLen], (by intro h; cases h), fun _ => ⟨b, 0, rfl, fun j hj => ?_⟩⟩, by decide⟩
  obtain rfl : j = 0 := by simpa using hj
  rw [cell_of_row w b _ _ _ _ h]
  rfl
def kd14 (lv : Value) (a1 : Option Addr) (c1 : Nat) : Nat → Kd
  | 4 => .val (.int .u32 0)
  | 8 => .sl [0]
  | 9 => .val (.int .u32 3523407757)
  | 13 => .sl [0, 0, 0, 0]
  | 14 => .sl [0, 0, 0, 0]
  | 18 => .lit
  | 19 => .sl [97]
  | 20 => .sl [97, 232, 183, 190, 67]
  | 21 => .sl [97, 232, 183, 190, 67]
  | 25 => .val (.int .i64 0)
  | 29 => .val (.slice a1 0 c1)
  | 30 => .val (.int .i64 0)
  | 34 => .val (.int .i64 60)
  | 38 => .val (lv)
  | 42 => .val (lv)
  | 46 => .val (lv)
  | _ => .val (.bool true)
set_option maxRecDepth 100000 in
set_option maxHeartbeats 4000000 in
theorem region14 {ops : Array Oper} {id : Nat} {a0 : Act} {w0 : World} {Q : Exit → Act → World → Prop} {lv : Value} {L : List Int} {a1 : Option Addr} {c1 : Nat}
    (E0 : Is ops 0 49 (Op.move (Operand.const (Value.bool true))) none [])
    (E1 : Is ops 1 50 (Op.call { callee := Callee.value (Operand.func 16), args := #[], argTypes := #[] }) (some (0, true)) [0])
    (E2 : Is ops 2 51 (Op.pick (Operand.tmp 49) (Operand.tmp 50) (Operand.const (Value.bool false))) none [0, 1])
    (E3 : Is ops 3 52 (Op.move (Operand.tmp 51)) none [1, 2])
    (E4 : Is ops 4 53 (Op.call { callee := Callee.value (Operand.func 10), args := #[Operand.const (Value.slice none 0 0)], argTypes := #[22] }) (some (3, true)) [3])
    (E5 : Is ops 5 54 (Op.binOp BinOp.eql 24 (Operand.tmp 53) (Operand.const (Value.int IntKind.u32 0)) 24) (some (3, true)) [3, 4])
    (E6 : Is ops 6 55 (Op.pick (Operand.tmp 52) (Operand.tmp 54) (Operand.const (Value.bool false))) none [3, 5])
    (E7 : Is ops 7 56 (Op.move (Operand.tmp 55)) none [4, 6])
    (E8 : Is ops 8 57 (Op.buildSlice 22 1 #[(0, Operand.const (Value.int IntKind.u8 0))]) (some (7, true)) [7])
    (E9 : Is ops 9 58 (Op.call { callee := Callee.value (Operand.func 10), args := #[Operand.tmp 57], argTypes := #[22] }) (some (7, true)) [7, 8])
    (E10 : Is ops 10 59 (Op.binOp BinOp.eql 24 (Operand.tmp 58) (Operand.const (Value.int IntKind.u32 3523407757)) 24) (some (7, true)) [7, 9])
    (E11 : Is ops 11 60 (Op.pick (Operand.tmp 56) (Operand.tmp 59) (Operand.const (Value.bool false))) none [7, 10])
    (E12 : Is ops 12 61 (Op.move (Operand.tmp 60)) none [9, 11])
    (E13 : Is ops 13 62 (Op.call { callee := Callee.value (Operand.func 9), args := #[Operand.const (Value.slice none 0 0)], argTypes := #[22] }) (some (12, true)) [12])
    (E14 : Is ops 14 63 (Op.makeSlice 22 (Operand.const (Value.int IntKind.i64 4)) (Operand.const (Value.int IntKind.i64 4))) (some (12, true)) [12])
    (E15 : Is ops 15 64 (Op.call { callee := Callee.value (Operand.func 12), args := #[Operand.tmp 62, Operand.tmp 63], argTypes := #[22, 22] }) (some (12, true)) [12, 13, 14])
    (E16 : Is ops 16 65 (Op.pick (Operand.tmp 61) (Operand.tmp 64) (Operand.const (Value.bool false))) none [12, 15])
    (E17 : Is ops 17 66 (Op.move (Operand.tmp 65)) none [15, 16])
    (E18 : Is ops 18 67 (Op.buildSlice 22 1 #[(0, Operand.const (Value.int IntKind.u8 97))]) (some (17, true)) [17])
    (E19 : Is ops 19 68 (Op.convert 22 22 (Operand.tmp 67)) (some (17, true)) [17, 18])
    (E20 : Is ops 20 69 (Op.call { callee := Callee.value (Operand.func 9), args := #[Operand.tmp 68], argTypes := #[22] }) (some (17, true)) [17, 19])
    (E21 : Is ops 21 70 (Op.buildSlice 22 5 #[(0, Operand.const (Value.int IntKind.u8 97)), (1, Operand.const (Value.int IntKind.u8 232)), (2, Operand.const (Value.int IntKind.u8 183)), (3, Operand.const (Value.int IntKind.u8 190)), (4, Operand.const (Value.int IntKind.u8 67))]) (some (17, true)) [17])
    (E22 : Is ops 22 71 (Op.call { callee := Callee.value (Operand.func 12), args := #[Operand.tmp 69, Operand.tmp 70], argTypes := #[22, 22] }) (some (17, true)) [17, 20, 21])
    (E23 : Is ops 23 72 (Op.pick (Operand.tmp 66) (Operand.tmp 71) (Operand.const (Value.bool false))) none [17, 22])
    (E24 : Is ops 24 73 (Op.move (Operand.tmp 72)) none [22, 23])
    (E25 : Is ops 25 74 (Op.move (Operand.tmp 5)) (some (24, true)) [24])
    (E26 : Is ops 26 75 (Op.binOp BinOp.eql 28 (Operand.tmp 74) (Operand.const (Value.int IntKind.i64 0)) 28) (some (24, true)) [24, 25])
    (E27 : Is ops 27 76 (Op.pick (Operand.tmp 73) (Operand.tmp 75) (Operand.const (Value.bool false))) none [24, 26])
    (E28 : Is ops 28 77 (Op.move (Operand.tmp 76)) none [24, 27])
    (E29 : Is ops 29 78 (Op.move (Operand.tmp 4)) (some (28, true)) [28])
    (E30 : Is ops 30 79 (Op.call { callee := Callee.builtin Builtin.len, args := #[Operand.tmp 78], argTypes := #[22] }) (some (28, true)) [28, 29])
    (E31 : Is ops 31 80 (Op.binOp BinOp.eql 3 (Operand.tmp 79) (Operand.const (Value.int IntKind.i64 0)) 3) (some (28, true)) [28, 30])
    (E32 : Is ops 32 81 (Op.pick (Operand.tmp 77) (Operand.tmp 80) (Operand.const (Value.bool false))) none [28, 31])
    (E33 : Is ops 33 82 (Op.move (Operand.tmp 81)) none [28, 32])
    (E34 : Is ops 34 83 (Op.move (Operand.tmp 7)) (some (33, true)) [33])
    (E35 : Is ops 35 84 (Op.binOp BinOp.eql 28 (Operand.tmp 83) (Operand.const (Value.int IntKind.i64 60)) 28) (some (33, true)) [33, 34])
    (E36 : Is ops 36 85 (Op.pick (Operand.tmp 82) (Operand.tmp 84) (Operand.const (Value.bool false))) none [33, 35])
    (E37 : Is ops 37 86 (Op.move (Operand.tmp 85)) none [33, 36])
    (E38 : Is ops 38 87 (Op.move (Operand.tmp 8)) (some (37, true)) [37])
    (E39 : Is ops 39 88 (Op.call { callee := Callee.value (Operand.func 4), args := #[Operand.tmp 87], argTypes := #[22] }) (some (37, true)) [37, 38])
    (E40 : Is ops 40 89 (Op.pick (Operand.tmp 86) (Operand.tmp 88) (Operand.const (Value.bool false))) none [37, 39])
    (E41 : Is ops 41 90 (Op.move (Operand.tmp 89)) none [39, 40])
    (E42 : Is ops 42 91 (Op.move (Operand.tmp 8)) (some (41, true)) [41])
    (E43 : Is ops 43 92 (Op.call { callee := Callee.value (Operand.func 5), args := #[Operand.tmp 91, Operand.const (Value.int IntKind.i64 4095)], argTypes := #[22, 3] }) (some (41, true)) [41, 42])
    (E44 : Is ops 44 93 (Op.pick (Operand.tmp 90) (Operand.tmp 92) (Operand.const (Value.bool false))) none [41, 43])
    (E45 : Is ops 45 94 (Op.move (Operand.tmp 93)) none [43, 44])
    (E46 : Is ops 46 95 (Op.move (Operand.tmp 8)) (some (45, true)) [45])
    (E47 : Is ops 47 96 (Op.call { callee := Callee.value (Operand.func 5), args := #[Operand.tmp 95, Operand.const (Value.int IntKind.i64 4127)], argTypes := #[22, 3] }) (some (45, true)) [45, 46])
    (E48 : Is ops 48 97 (Op.pick (Operand.tmp 94) (Operand.tmp 96) (Operand.const (Value.bool false))) none [45, 47])
    (E49 : Is ops 49 0 (Op.assign (Operand.tmp 97)) none [48])
    (hN : ops.size = 50) (hlow : lowB ops = true) (hds : ((dsts ops).all fun d => (d.map fun t => decide (t < 98)).getD false) = true) (hnd : (dsts ops).Nodup)
    (hb4 : (dsts ops).contains (some 4) = false) (hb5 : (dsts ops).contains (some 5) = false) (hb7 : (dsts ops).contains (some 7) = false) (hb8 : (dsts ops).contains (some 8) = false)
    (hmx : Try.prog.follows .mixedOrders = true) (ha0 : a0.tmps.size = 98) (h4 : a0.tmps.getD 4 undef = .slice a1 0 c1) (h5 : a0.tmps.getD 5 undef = .int .i64 0) (h7 : a0.tmps.getD 7 undef = .int .i64 60) (h8 : a0.tmps.getD 8 undef = lv)
    (hlong : Sl w0 lv L) (hL : L.length = 512)
    (hend : ∀ a w, a.defers = a0.defers → Mod (fun _ => False) w0 w → a.tmps.getD 0 undef = .bool true → Q .normal a w) : (Code.region id ops true).wp Try.prog Q a0 w0 := by
  have s0 : ∀ o, ops[0]? = some o → Step Try.prog ops (fun i => Holds w0.heap.size (kd14 lv a1 c1 i)) a0 w0 Q 0 o := by
    refine E0.step fun o hd ho hg hw => ?_
    intro a w hsz D R hon K hK
    refine ⟨wanted_none hg, ?_⟩
    exact wp_move (.inl ho) (hK _ _ rfl (On.refl _ _))
  have s1 : ∀ o, ops[1]? = some o → Step Try.prog ops (fun i => Holds w0.heap.size (kd14 lv a1 c1 i)) a0 w0 Q 1 o := by
    refine E1.step fun o hd ho hg hw => ?_
    intro a w hsz D R hon K hK
    have f0 : a.tmps.getD 49 undef = .bool true := E0.post D (hw 0 (by simp))
    refine ⟨E0.wanted hg (by rw [hsz, ha0]; decide) f0, ?_⟩
    exact wp_enter (exec_call0 _ cf16 rfl ho) (works_any w) (by rintro e w' ⟨rfl, hm⟩; exact ⟨_, rfl, hK _ _ rfl (On.of hm)⟩)
  have s2 : ∀ o, ops[2]? = some o → Step Try.prog ops (fun i => Holds w0.heap.size (kd14 lv a1 c1 i)) a0 w0 Q 2 o := by
    refine E2.step fun o hd ho hg hw => ?_
    intro a w hsz D R hon K hK
    have f0 : a.tmps.getD 49 undef = .bool true := E0.post D (hw 0 (by simp))
    have f1 : a.tmps.getD 50 undef = .bool true := E1.post D (hw 1 (by simp))
    refine ⟨wanted_none hg, ?_⟩
    exact wp_pick ho f0 (hK _ _ f1 (On.refl _ _))
  have s3 : ∀ o, ops[3]? = some o → Step Try.prog ops (fun i => Holds w0.heap.size (kd14 lv a1 c1 i)) a0 w0 Q 3 o := by
    refine E3.step fun o hd ho hg hw => ?_
    intro a w hsz D R hon K hK
    have f1 : a.tmps.getD 50 undef = .bool true := E1.post D (hw 1 (by simp))
    have f2 : a.tmps.getD 51 undef = .bool true := E2.post D (hw 2 (by simp))
    refine ⟨wanted_none hg, ?_⟩
    exact wp_move (.inl ho) (hK _ _ f2 (On.refl _ _))
  have s4 : ∀ o, ops[4]? = some o → Step Try.prog ops (fun i => Holds w0.heap.size (kd14 lv a1 c1 i)) a0 w0 Q 4 o := by
    refine E4.step fun o hd ho hg hw => ?_
    intro a w hsz D R hon K hK
    have f3 : a.tmps.getD 52 undef = .bool true := E3.post D (hw 3 (by simp))
    refine ⟨E3.wanted hg (by rw [hsz, ha0]; decide) f3, ?_⟩
    exact wp_enter (exec_call1 _ cf10 rfl ho) (Of_zero none 0 w) (by rintro e w' ⟨rfl, hm⟩; exact ⟨_, rfl, hK _ _ rfl (On.of hm)⟩)
  have s5 : ∀ o, ops[5]? = some o → Step Try.prog ops (fun i => Holds w0.heap.size (kd14 lv a1 c1 i)) a0 w0 Q 5 o := by
    refine E5.step fun o hd ho hg hw => ?_
    intro a w hsz D R hon K hK
    have f3 : a.tmps.getD 52 undef = .bool true := E3.post D (hw 3 (by simp))
    have f4 : a.tmps.getD 53 undef = .int .u32 0 := E4.post D (hw 4 (by simp))
    refine ⟨E3.wanted hg (by rw [hsz, ha0]; decide) f3, ?_⟩
    exact wp_value (exec_eql24 _ ho f4 rfl) (hK _ _ (by show Value.bool _ = _; simp) (On.refl _ _))
  have s6 : ∀ o, ops[6]? = some o → Step Try.prog ops (fun i => Holds w0.heap.size (kd14 lv a1 c1 i)) a0 w0 Q 6 o := by
    refine E6.step fun o hd ho hg hw => ?_
    intro a w hsz D R hon K hK
    have f3 : a.tmps.getD 52 undef = .bool true := E3.post D (hw 3 (by simp))
    have f5 : a.tmps.getD 54 undef = .bool true := E5.post D (hw 5 (by simp))
    refine ⟨wanted_none hg, ?_⟩
    exact wp_pick ho f3 (hK _ _ f5 (On.refl _ _))
  have s7 : ∀ o, ops[7]? = some o → Step Try.prog ops (fun i => Holds w0.heap.size (kd14 lv a1 c1 i)) a0 w0 Q 7 o := by
    refine E7.step fun o hd ho hg hw => ?_
    intro a w hsz D R hon K hK
    have f4 : a.tmps.getD 53 undef = .int .u32 0 := E4.post D (hw 4 (by simp))
    have f6 : a.tmps.getD 55 undef = .bool true := E6.post D (hw 6 (by simp))
    refine ⟨wanted_none hg, ?_⟩
    exact wp_move (.inl ho) (hK _ _ f6 (On.refl _ _))
  have s8 : ∀ o, ops[8]? = some o → Step Try.prog ops (fun i => Holds w0.heap.size (kd14 lv a1 c1 i)) a0 w0 Q 8 o := by
    refine E8.step fun o hd ho hg hw => ?_
    intro a w hsz D R hon K hK
    have f7 : a.tmps.getD 56 undef = .bool true := E7.post D (hw 7 (by simp))
    refine ⟨E7.wanted hg (by rw [hsz, ha0]; decide) f7, ?_⟩
    exact wp_value (exec_build1 ho) (hK _ _ (Sl.lit w [0] (by simp [maxLen]) (by decide)) (On.of ((Mod.refl _ w).alloc _)))
  have s9 : ∀ o, ops[9]? = some o → Step Try.prog ops (fun i => Holds w0.heap.size (kd14 lv a1 c1 i)) a0 w0 Q 9 o := by
    refine E9.step fun o hd ho hg hw => ?_
    intro a w hsz D R hon K hK
    have f7 : a.tmps.getD 56 undef = .bool true := E7.post D (hw 7 (by simp))
    have f8 : Sl w (a.tmps.getD 57 undef) [0] := E8.post D (hw 8 (by simp))
    refine ⟨E7.wanted hg (by rw [hsz, ha0]; decide) f7, ?_⟩
    exact wp_enter (exec_call1 _ cf10 rfl ho) (Of_at 3523407757 f8 ck0) (by rintro e w' ⟨rfl, hm⟩; exact ⟨_, rfl, hK _ _ rfl (On.of hm)⟩)
  have s10 : ∀ o, ops[10]? = some o → Step Try.prog ops (fun i => Holds w0.heap.size (kd14 lv a1 c1 i)) a0 w0 Q 10 o := by
    refine E10.step fun o hd ho hg hw => ?_
    intro a w hsz D R hon K hK
    have f7 : a.tmps.getD 56 undef = .bool true := E7.post D (hw 7 (by simp))
    have f9 : a.tmps.getD 58 undef = .int .u32 3523407757 := E9.post D (hw 9 (by simp))
    refine ⟨E7.wanted hg (by rw [hsz, ha0]; decide) f7, ?_⟩
    exact wp_value (exec_eql24 _ ho f9 rfl) (hK _ _ (by show Value.bool _ = _; simp) (On.refl _ _))
  have s11 : ∀ o, ops[11]? = some o → Step Try.prog ops (fun i => Holds w0.heap.size (kd14 lv a1 c1 i)) a0 w0 Q 11 o := by
    refine E11.step fun o hd ho hg hw => ?_
    intro a w hsz D R hon K hK
    have f7 : a.tmps.getD 56 undef = .bool true := E7.post D (hw 7 (by simp))
    have f10 : a.tmps.getD 59 undef = .bool true := E10.post D (hw 10 (by simp))
    refine ⟨wanted_none hg, ?_⟩
    exact wp_pick ho f7 (hK _ _ f10 (On.refl _ _))
  have s12 : ∀ o, ops[12]? = some o → Step Try.prog ops (fun i => Holds w0.heap.size (kd14 lv a1 c1 i)) a0 w0 Q 12 o := by
    refine E12.step fun o hd ho hg hw => ?_
    intro a w hsz D R hon K hK
    have f9 : a.tmps.getD 58 undef = .int .u32 3523407757 := E9.post D (hw 9 (by simp))
    have f11 : a.tmps.getD 60 undef = .bool true := E11.post D (hw 11 (by simp))
    refine ⟨wanted_none hg, ?_⟩
    exact wp_move (.inl ho) (hK _ _ f11 (On.refl _ _))
  have s13 : ∀ o, ops[13]? = some o → Step Try.prog ops (fun i => Holds w0.heap.size (kd14 lv a1 c1 i)) a0 w0 Q 13 o := by
    refine E13.step fun o hd ho hg hw => ?_
    intro a w hsz D R hon K hK
    have f12 : a.tmps.getD 61 undef = .bool true := E12.post D (hw 12 (by simp))
    refine ⟨E12.wanted hg (by rw [hsz, ha0]; decide) f12, ?_⟩
    exact wp_enter (exec_call1 _ cf9 rfl ho) (Seal_any (.slice none 0 0) [] w ((Own.nil w).sl (by simp)) (by simp)) (by rintro e w' ⟨v, rfl, hv, hm, _⟩; rw [se0] at hv; exact ⟨_, rfl, hK _ _ (hv.sl (by decide)) (On.of hm)⟩)
  have s14 : ∀ o, ops[14]? = some o → Step Try.prog ops (fun i => Holds w0.heap.size (kd14 lv a1 c1 i)) a0 w0 Q 14 o := by
    refine E14.step fun o hd ho hg hw => ?_
    intro a w hsz D R hon K hK
    have f12 : a.tmps.getD 61 undef = .bool true := E12.post D (hw 12 (by simp))
    refine ⟨E12.wanted hg (by rw [hsz, ha0]; decide) f12, ?_⟩
    exact wp_value (exec_make _ ho (make_zeros 4 (by omega) w)) (hK _ _ (Sl.zeros w 4 (by omega)) (On.of ((Mod.refl _ w).alloc _)))
  have s15 : ∀ o, ops[15]? = some o → Step Try.prog ops (fun i => Holds w0.heap.size (kd14 lv a1 c1 i)) a0 w0 Q 15 o := by
    refine E15.step fun o hd ho hg hw => ?_
    intro a w hsz D R hon K hK
    have f12 : a.tmps.getD 61 undef = .bool true := E12.post D (hw 12 (by simp))
    have f13 : Sl w (a.tmps.getD 62 undef) [0, 0, 0, 0] := E13.post D (hw 13 (by simp))
    have f14 : Sl w (a.tmps.getD 63 undef) [0, 0, 0, 0] := E14.post D (hw 14 (by simp))
    refine ⟨E12.wanted hg (by rw [hsz, ha0]; decide) f12, ?_⟩
    exact wp_enter (exec_call2 _ cf12 rfl ho) (EqBytes_at true f13 f14 (by decide)) (by rintro e w' ⟨rfl, hm⟩; exact ⟨_, rfl, hK _ _ rfl (On.of hm)⟩)
  have s16 : ∀ o, ops[16]? = some o → Step Try.prog ops (fun i => Holds w0.heap.size (kd14 lv a1 c1 i)) a0 w0 Q 16 o := by
    refine E16.step fun o hd ho hg hw => ?_
    intro a w hsz D R hon K hK
    have f12 : a.tmps.getD 61 undef = .bool true := E12.post D (hw 12 (by simp))
    have f15 : a.tmps.getD 64 undef = .bool true := E15.post D (hw 15 (by simp))
    refine ⟨wanted_none hg, ?_⟩
    exact wp_pick ho f12 (hK _ _ f15 (On.refl _ _))
  have s17 : ∀ o, ops[17]? = some o → Step Try.prog ops (fun i => Holds w0.heap.size (kd14 lv a1 c1 i)) a0 w0 Q 17 o := by
    refine E17.step fun o hd ho hg hw => ?_
    intro a w hsz D R hon K hK
    have f15 : a.tmps.getD 64 undef = .bool true := E15.post D (hw 15 (by simp))
    have f16 : a.tmps.getD 65 undef = .bool true := E16.post D (hw 16 (by simp))
    refine ⟨wanted_none hg, ?_⟩
    exact wp_move (.inl ho) (hK _ _ f16 (On.refl _ _))
  have s18 : ∀ o, ops[18]? = some o → Step Try.prog ops (fun i => Holds w0.heap.size (kd14 lv a1 c1 i)) a0 w0 Q 18 o := by
    refine E18.step fun o hd ho hg hw => ?_
    intro a w hsz D R hon K hK
    have f17 : a.tmps.getD 66 undef = .bool true := E17.post D (hw 17 (by simp))
    refine ⟨E17.wanted hg (by rw [hsz, ha0]; decide) f17, ?_⟩
    exact wp_value (exec_build1 ho) (hK _ _ ⟨w.heap.size, (0, 0), hon.mod.size, rfl, heap_alloc_last w _⟩ (On.of ((Mod.refl _ w).alloc _)))
  have s19 : ∀ o, ops[19]? = some o → Step Try.prog ops (fun i => Holds w0.heap.size (kd14 lv a1 c1 i)) a0 w0 Q 19 o := by
    refine E19.step fun o hd ho hg hw => ?_
    intro a w hsz D R hon K hK
    have f17 : a.tmps.getD 66 undef = .bool true := E17.post D (hw 17 (by simp))
    have f18 : ∃ b f, w0.heap.size ≤ b ∧ a.tmps.getD 67 undef = .slice (some ⟨b, 0, none⟩) 1 1 ∧ w.heap[b]? = some (.cells #[.int .u8 97] 5 f) := E18.post D (hw 18 (by simp))
    refine ⟨E17.wanted hg (by rw [hsz, ha0]; decide) f17, ?_⟩
    obtain ⟨b, f, hB, hv, hb⟩ := f18
    exact wp_value (exec_convert _ ho hv hb) (hK _ _ ((sl_frozen hb).on (On.freeze b _ hB)) (On.freeze b _ hB))
  have s20 : ∀ o, ops[20]? = some o → Step Try.prog ops (fun i => Holds w0.heap.size (kd14 lv a1 c1 i)) a0 w0 Q 20 o := by
    refine E20.step fun o hd ho hg hw => ?_
    intro a w hsz D R hon K hK
    have f17 : a.tmps.getD 66 undef = .bool true := E17.post D (hw 17 (by simp))
    have f19 : Sl w (a.tmps.getD 68 undef) [97] := E19.post D (hw 19 (by simp))
    refine ⟨E17.wanted hg (by rw [hsz, ha0]; decide) f17, ?_⟩
    exact wp_enter (exec_call1 _ cf9 rfl ho) (Seal_any _ [97] w f19 (by simp)) (by rintro e w' ⟨v, rfl, hv, hm, _⟩; rw [se1] at hv; exact ⟨_, rfl, hK _ _ (hv.sl (by decide)) (On.of hm)⟩)
  have s21 : ∀ o, ops[21]? = some o → Step Try.prog ops (fun i => Holds w0.heap.size (kd14 lv a1 c1 i)) a0 w0 Q 21 o := by
    refine E21.step fun o hd ho hg hw => ?_
    intro a w hsz D R hon K hK
    have f17 : a.tmps.getD 66 undef = .bool true := E17.post D (hw 17 (by simp))
    refine ⟨E17.wanted hg (by rw [hsz, ha0]; decide) f17, ?_⟩
    exact wp_value (exec_build5 ho) (hK _ _ (Sl.lit w [97, 232, 183, 190, 67] (by simp [maxLen]) (by decide)) (On.of ((Mod.refl _ w).alloc _)))
  have s22 : ∀ o, ops[22]? = some o → Step Try.prog ops (fun i => Holds w0.heap.size (kd14 lv a1 c1 i)) a0 w0 Q 22 o := by
    refine E22.step fun o hd ho hg hw => ?_
    intro a w hsz D R hon K hK
    have f17 : a.tmps.getD 66 undef = .bool true := E17.post D (hw 17 (by simp))
    have f20 : Sl w (a.tmps.getD 69 undef) [97, 232, 183, 190, 67] := E20.post D (hw 20 (by simp))
    have f21 : Sl w (a.tmps.getD 70 undef) [97, 232, 183, 190, 67] := E21.post D (hw 21 (by simp))
    refine ⟨E17.wanted hg (by rw [hsz, ha0]; decide) f17, ?_⟩
    exact wp_enter (exec_call2 _ cf12 rfl ho) (EqBytes_at true f20 f21 (by decide)) (by rintro e w' ⟨rfl, hm⟩; exact ⟨_, rfl, hK _ _ rfl (On.of hm)⟩)
  have s23 : ∀ o, ops[23]? = some o → Step Try.prog ops (fun i => Holds w0.heap.size (kd14 lv a1 c1 i)) a0 w0 Q 23 o := by
    refine E23.step fun o hd ho hg hw => ?_
    intro a w hsz D R hon K hK
    have f17 : a.tmps.getD 66 undef = .bool true := E17.post D (hw 17 (by simp))
    have f22 : a.tmps.getD 71 undef = .bool true := E22.post D (hw 22 (by simp))
    refine ⟨wanted_none hg, ?_⟩
    exact wp_pick ho f17 (hK _ _ f22 (On.refl _ _))
  have s24 : ∀ o, ops[24]? = some o → Step Try.prog ops (fun i => Holds w0.heap.size (kd14 lv a1 c1 i)) a0 w0 Q 24 o := by
    refine E24.step fun o hd ho hg hw => ?_
    intro a w hsz D R hon K hK
    have f22 : a.tmps.getD 71 undef = .bool true := E22.post D (hw 22 (by simp))
    have f23 : a.tmps.getD 72 undef = .bool true := E23.post D (hw 23 (by simp))
    refine ⟨wanted_none hg, ?_⟩
    exact wp_move (.inl ho) (hK _ _ f23 (On.refl _ _))
  have s25 : ∀ o, ops[25]? = some o → Step Try.prog ops (fun i => Holds w0.heap.size (kd14 lv a1 c1 i)) a0 w0 Q 25 o := by
    refine E25.step fun o hd ho hg hw => ?_
    intro a w hsz D R hon K hK
    have f24 : a.tmps.getD 73 undef = .bool true := E24.post D (hw 24 (by simp))
    refine ⟨E24.wanted hg (by rw [hsz, ha0]; decide) f24, ?_⟩
    have fb : a.tmps.getD 5 undef = .int .i64 0 := (R 5 (not_of hb5)).trans h5
    exact wp_move (.inl ho) (hK _ _ fb (On.refl _ _))
  have s26 : ∀ o, ops[26]? = some o → Step Try.prog ops (fun i => Holds w0.heap.size (kd14 lv a1 c1 i)) a0 w0 Q 26 o := by
    refine E26.step fun o hd ho hg hw => ?_
    intro a w hsz D R hon K hK
    have f24 : a.tmps.getD 73 undef = .bool true := E24.post D (hw 24 (by simp))
    have f25 : a.tmps.getD 74 undef = .int .i64 0 := E25.post D (hw 25 (by simp))
    refine ⟨E24.wanted hg (by rw [hsz, ha0]; decide) f24, ?_⟩
    exact wp_value (exec_eql28 _ ho f25 rfl) (hK _ _ (by show Value.bool _ = _; simp) (On.refl _ _))
  have s27 : ∀ o, ops[27]? = some o → Step Try.prog ops (fun i => Holds w0.heap.size (kd14 lv a1 c1 i)) a0 w0 Q 27 o := by
    refine E27.step fun o hd ho hg hw => ?_
    intro a w hsz D R hon K hK
    have f24 : a.tmps.getD 73 undef = .bool true := E24.post D (hw 24 (by simp))
    have f26 : a.tmps.getD 75 undef = .bool true := E26.post D (hw 26 (by simp))
    refine ⟨wanted_none hg, ?_⟩
    exact wp_pick ho f24 (hK _ _ f26 (On.refl _ _))
  have s28 : ∀ o, ops[28]? = some o → Step Try.prog ops (fun i => Holds w0.heap.size (kd14 lv a1 c1 i)) a0 w0 Q 28 o := by
    refine E28.step fun o hd ho hg hw => ?_
    intro a w hsz D R hon K hK
    have f24 : a.tmps.getD 73 undef = .bool true := E24.post D (hw 24 (by simp))
    have f27 : a.tmps.getD 76 undef = .bool true := E27.post D (hw 27 (by simp))
    refine ⟨wanted_none hg, ?_⟩
    exact wp_move (.inl ho) (hK _ _ f27 (On.refl _ _))
  have s29 : ∀ o, ops[29]? = some o → Step Try.prog ops (fun i => Holds w0.heap.size (kd14 lv a1 c1 i)) a0 w0 Q 29 o := by
    refine E29.step fun o hd ho hg hw => ?_
    intro a w hsz D R hon K hK
    have f28 : a.tmps.getD 77 undef = .bool true := E28.post D (hw 28 (by simp))
    refine ⟨E28.wanted hg (by rw [hsz, ha0]; decide) f28, ?_⟩
    have fb : a.tmps.getD 4 undef = .slice a1 0 c1 := (R 4 (not_of hb4)).trans h4
    exact wp_move (.inl ho) (hK _ _ fb (On.refl _ _))
  have s30 : ∀ o, ops[30]? = some o → Step Try.prog ops (fun i => Holds w0.heap.size (kd14 lv a1 c1 i)) a0 w0 Q 30 o := by
    refine E30.step fun o hd ho hg hw => ?_
    intro a w hsz D R hon K hK
    have f28 : a.tmps.getD 77 undef = .bool true := E28.post D (hw 28 (by simp))
    have f29 : a.tmps.getD 78 undef = .slice a1 0 c1 := E29.post D (hw 29 (by simp))
    refine ⟨E28.wanted hg (by rw [hsz, ha0]; decide) f28, ?_⟩
    exact wp_value (exec_len _ ho f29) (hK _ _ rfl (On.refl _ _))
  have s31 : ∀ o, ops[31]? = some o → Step Try.prog ops (fun i => Holds w0.heap.size (kd14 lv a1 c1 i)) a0 w0 Q 31 o := by
    refine E31.step fun o hd ho hg hw => ?_
    intro a w hsz D R hon K hK
    have f28 : a.tmps.getD 77 undef = .bool true := E28.post D (hw 28 (by simp))
    have f30 : a.tmps.getD 79 undef = .int .i64 0 := E30.post D (hw 30 (by simp))
    refine ⟨E28.wanted hg (by rw [hsz, ha0]; decide) f28, ?_⟩
    exact wp_value (exec_eql3 _ ho f30 rfl) (hK _ _ (by show Value.bool _ = _; simp) (On.refl _ _))
  have s32 : ∀ o, ops[32]? = some o → Step Try.prog ops (fun i => Holds w0.heap.size (kd14 lv a1 c1 i)) a0 w0 Q 32 o := by
    refine E32.step fun o hd ho hg hw => ?_
    intro a w hsz D R hon K hK
    have f28 : a.tmps.getD 77 undef = .bool true := E28.post D (hw 28 (by simp))
    have f31 : a.tmps.getD 80 undef = .bool true := E31.post D (hw 31 (by simp))
    refine ⟨wanted_none hg, ?_⟩
    exact wp_pick ho f28 (hK _ _ f31 (On.refl _ _))
  have s33 : ∀ o, ops[33]? = some o → Step Try.prog ops (fun i => Holds w0.heap.size (kd14 lv a1 c1 i)) a0 w0 Q 33 o := by
    refine E33.step fun o hd ho hg hw => ?_
    intro a w hsz D R hon K hK
    have f28 : a.tmps.getD 77 undef = .bool true := E28.post D (hw 28 (by simp))
    have f32 : a.tmps.getD 81 undef = .bool true := E32.post D (hw 32 (by simp))
    refine ⟨wanted_none hg, ?_⟩
    exact wp_move (.inl ho) (hK _ _ f32 (On.refl _ _))
  have s34 : ∀ o, ops[34]? = some o → Step Try.prog ops (fun i => Holds w0.heap.size (kd14 lv a1 c1 i)) a0 w0 Q 34 o := by
    refine E34.step fun o hd ho hg hw => ?_
    intro a w hsz D R hon K hK
    have f33 : a.tmps.getD 82 undef = .bool true := E33.post D (hw 33 (by simp))
    refine ⟨E33.wanted hg (by rw [hsz, ha0]; decide) f33, ?_⟩
    have fb : a.tmps.getD 7 undef = .int .i64 60 := (R 7 (not_of hb7)).trans h7
    exact wp_move (.inl ho) (hK _ _ fb (On.refl _ _))
  have s35 : ∀ o, ops[35]? = some o → Step Try.prog ops (fun i => Holds w0.heap.size (kd14 lv a1 c1 i)) a0 w0 Q 35 o := by
    refine E35.step fun o hd ho hg hw => ?_
    intro a w hsz D R hon K hK
    have f33 : a.tmps.getD 82 undef = .bool true := E33.post D (hw 33 (by simp))
    have f34 : a.tmps.getD 83 undef = .int .i64 60 := E34.post D (hw 34 (by simp))
    refine ⟨E33.wanted hg (by rw [hsz, ha0]; decide) f33, ?_⟩
    exact wp_value (exec_eql28 _ ho f34 rfl) (hK _ _ (by show Value.bool _ = _; simp) (On.refl _ _))
  have s36 : ∀ o, ops[36]? = some o → Step Try.prog ops (fun i => Holds w0.heap.size (kd14 lv a1 c1 i)) a0 w0 Q 36 o := by
    refine E36.step fun o hd ho hg hw => ?_
    intro a w hsz D R hon K hK
    have f33 : a.tmps.getD 82 undef = .bool true := E33.post D (hw 33 (by simp))
    have f35 : a.tmps.getD 84 undef = .bool true := E35.post D (hw 35 (by simp))
    refine ⟨wanted_none hg, ?_⟩
    exact wp_pick ho f33 (hK _ _ f35 (On.refl _ _))
  have s37 : ∀ o, ops[37]? = some o → Step Try.prog ops (fun i => Holds w0.heap.size (kd14 lv a1 c1 i)) a0 w0 Q 37 o := by
    refine E37.step fun o hd ho hg hw => ?_
    intro a w hsz D R hon K hK
    have f33 : a.tmps.getD 82 undef = .bool true := E33.post D (hw 33 (by simp))
    have f36 : a.tmps.getD 85 undef = .bool true := E36.post D (hw 36 (by simp))
    refine ⟨wanted_none hg, ?_⟩
    exact wp_move (.inl ho) (hK _ _ f36 (On.refl _ _))
  have s38 : ∀ o, ops[38]? = some o → Step Try.prog ops (fun i => Holds w0.heap.size (kd14 lv a1 c1 i)) a0 w0 Q 38 o := by
    refine E38.step fun o hd ho hg hw => ?_
    intro a w hsz D R hon K hK
    have f37 : a.tmps.getD 86 undef = .bool true := E37.post D (hw 37 (by simp))
    refine ⟨E37.wanted hg (by rw [hsz, ha0]; decide) f37, ?_⟩
    have fb : a.tmps.getD 8 undef = lv := (R 8 (not_of hb8)).trans h8
    exact wp_move (.inl ho) (hK _ _ fb (On.refl _ _))
  have s39 : ∀ o, ops[39]? = some o → Step Try.prog ops (fun i => Holds w0.heap.size (kd14 lv a1 c1 i)) a0 w0 Q 39 o := by
    refine E39.step fun o hd ho hg hw => ?_
    intro a w hsz D R hon K hK
    have f37 : a.tmps.getD 86 undef = .bool true := E37.post D (hw 37 (by simp))
    have f38 : a.tmps.getD 87 undef = lv := E38.post D (hw 38 (by simp))
    refine ⟨E37.wanted hg (by rw [hsz, ha0]; decide) f37, ?_⟩
    have hc : Calls Try.prog 4 #[a.eval (.tmp 87)] w fun e w' => e = .returned (.bool true) ∧ Mod (fun _ => False) w w' := by
      rw [show a.eval (.tmp 87) = lv from f38]
      exact back_walk lv L w (hlong.on hon) (by omega)
    exact wp_enter (exec_call1 _ cf4 rfl ho) hc (by rintro e w' ⟨rfl, hm⟩; exact ⟨_, rfl, hK _ _ rfl (On.of hm)⟩)
  have s40 : ∀ o, ops[40]? = some o → Step Try.prog ops (fun i => Holds w0.heap.size (kd14 lv a1 c1 i)) a0 w0 Q 40 o := by
    refine E40.step fun o hd ho hg hw => ?_
    intro a w hsz D R hon K hK
    have f37 : a.tmps.getD 86 undef = .bool true := E37.post D (hw 37 (by simp))
    have f39 : a.tmps.getD 88 undef = .bool true := E39.post D (hw 39 (by simp))
    refine ⟨wanted_none hg, ?_⟩
    exact wp_pick ho f37 (hK _ _ f39 (On.refl _ _))
  have s41 : ∀ o, ops[41]? = some o → Step Try.prog ops (fun i => Holds w0.heap.size (kd14 lv a1 c1 i)) a0 w0 Q 41 o := by
    refine E41.step fun o hd ho hg hw => ?_
    intro a w hsz D R hon K hK
    have f39 : a.tmps.getD 88 undef = .bool true := E39.post D (hw 39 (by simp))
    have f40 : a.tmps.getD 89 undef = .bool true := E40.post D (hw 40 (by simp))
    refine ⟨wanted_none hg, ?_⟩
    exact wp_move (.inl ho) (hK _ _ f40 (On.refl _ _))
  have s42 : ∀ o, ops[42]? = some o → Step Try.prog ops (fun i => Holds w0.heap.size (kd14 lv a1 c1 i)) a0 w0 Q 42 o := by
    refine E42.step fun o hd ho hg hw => ?_
    intro a w hsz D R hon K hK
    have f41 : a.tmps.getD 90 undef = .bool true := E41.post D (hw 41 (by simp))
    refine ⟨E41.wanted hg (by rw [hsz, ha0]; decide) f41, ?_⟩
    have fb : a.tmps.getD 8 undef = lv := (R 8 (not_of hb8)).trans h8
    exact wp_move (.inl ho) (hK _ _ fb (On.refl _ _))
  have s43 : ∀ o, ops[43]? = some o → Step Try.prog ops (fun i => Holds w0.heap.size (kd14 lv a1 c1 i)) a0 w0 Q 43 o := by
    refine E43.step fun o hd ho hg hw => ?_
    intro a w hsz D R hon K hK
    have f41 : a.tmps.getD 90 undef = .bool true := E41.post D (hw 41 (by simp))
    have f42 : a.tmps.getD 91 undef = lv := E42.post D (hw 42 (by simp))
    refine ⟨E41.wanted hg (by rw [hsz, ha0]; decide) f41, ?_⟩
    have hc : Calls Try.prog 5 #[a.eval (.tmp 91), a.eval (.const (.int .i64 4095))] w fun e w' => e = .returned (.bool true) ∧ Mod (fun _ => False) w w' := by
      rw [show a.eval (.tmp 91) = lv from f42]
      exact bit_walk lv L 4095 w (hlong.on hon) (by omega) (by omega) (by omega)
    exact wp_enter (exec_call2 _ cf5 rfl ho) hc (by rintro e w' ⟨rfl, hm⟩; exact ⟨_, rfl, hK _ _ rfl (On.of hm)⟩)
  have s44 : ∀ o, ops[44]? = some o → Step Try.prog ops (fun i => Holds w0.heap.size (kd14 lv a1 c1 i)) a0 w0 Q 44 o := by
    refine E44.step fun o hd ho hg hw => ?_
    intro a w hsz D R hon K hK
    have f41 : a.tmps.getD 90 undef = .bool true := E41.post D (hw 41 (by simp))
    have f43 : a.tmps.getD 92 undef = .bool true := E43.post D (hw 43 (by simp))
    refine ⟨wanted_none hg, ?_⟩
    exact wp_pick ho f41 (hK _ _ f43 (On.refl _ _))
  have s45 : ∀ o, ops[45]? = some o → Step Try.prog ops (fun i => Holds w0.heap.size (kd14 lv a1 c1 i)) a0 w0 Q 45 o := by
    refine E45.step fun o hd ho hg hw => ?_
    intro a w hsz D R hon K hK
    have f43 : a.tmps.getD 92 undef = .bool true := E43.post D (hw 43 (by simp))
    have f44 : a.tmps.getD 93 undef = .bool true := E44.post D (hw 44 (by simp))
    refine ⟨wanted_none hg, ?_⟩
    exact wp_move (.inl ho) (hK _ _ f44 (On.refl _ _))
  have s46 : ∀ o, ops[46]? = some o → Step Try.prog ops (fun i => Holds w0.heap.size (kd14 lv a1 c1 i)) a0 w0 Q 46 o := by
    refine E46.step fun o hd ho hg hw => ?_
    intro a w hsz D R hon K hK
    have f45 : a.tmps.getD 94 undef = .bool true := E45.post D (hw 45 (by simp))
    refine ⟨E45.wanted hg (by rw [hsz, ha0]; decide) f45, ?_⟩
    have fb : a.tmps.getD 8 undef = lv := (R 8 (not_of hb8)).trans h8
    exact wp_move (.inl ho) (hK _ _ fb (On.refl _ _))
  have s47 : ∀ o, ops[47]? = some o → Step Try.prog ops (fun i => Holds w0.heap.size (kd14 lv a1 c1 i)) a0 w0 Q 47 o := by
    refine E47.step fun o hd ho hg hw => ?_
    intro a w hsz D R hon K hK
    have f45 : a.tmps.getD 94 undef = .bool true := E45.post D (hw 45 (by simp))
    have f46 : a.tmps.getD 95 undef = lv := E46.post D (hw 46 (by simp))
    refine ⟨E45.wanted hg (by rw [hsz, ha0]; decide) f45, ?_⟩
    have hc : Calls Try.prog 5 #[a.eval (.tmp 95), a.eval (.const (.int .i64 4127))] w fun e w' => e = .returned (.bool true) ∧ Mod (fun _ => False) w w' := by
      rw [show a.eval (.tmp 95) = lv from f46]
      exact bit_walk lv L 4127 w (hlong.on hon) (by omega) (by omega) (by omega)
    exact wp_enter (exec_call2 _ cf5 rfl ho) hc (by rintro e w' ⟨rfl, hm⟩; exact ⟨_, rfl, hK _ _ rfl (On.of hm)⟩)
  have s48 : ∀ o, ops[48]? = some o → Step Try.prog ops (fun i => Holds w0.heap.size (kd14 lv a1 c1 i)) a0 w0 Q 48 o := by
    refine E48.step fun o hd ho hg hw => ?_
    intro a w hsz D R hon K hK
    have f45 : a.tmps.getD 94 undef = .bool true := E45.post D (hw 45 (by simp))
    have f47 : a.tmps.getD 96 undef = .bool true := E47.post D (hw 47 (by simp))
    refine ⟨wanted_none hg, ?_⟩
    exact wp_pick ho f45 (hK _ _ f47 (On.refl _ _))
  have s49 : ∀ o, ops[49]? = some o → Step Try.prog ops (fun i => Holds w0.heap.size (kd14 lv a1 c1 i)) a0 w0 Q 49 o := by
    refine E49.step fun o hd ho hg hw => ?_
    intro a w hsz D R hon K hK
    have f48 : a.tmps.getD 97 undef = .bool true := E48.post D (hw 48 (by simp))
    refine ⟨wanted_none hg, ?_⟩
    exact wp_move (.inr ho) (hK _ _ f48 (On.refl _ _))
  refine region_free (Post := fun i => Holds w0.heap.size (kd14 lv a1 c1 i)) hmx (low_of hlow) (fun i o ho => by rw [ha0]; exact dst_of hds i o ho) (inj_of hnd) (fun i v w w' h k => h.on k) ?_ ?_
  · intro i o ho
    have hi : i < 50 := by
      rw [← hN]
      rcases Nat.lt_or_ge i ops.size with h | h
      · exact h
      · rw [Array.getElem?_eq_none h] at ho; cases ho
    clear hend
    by_cases e0 : i = 0
    · subst e0; exact s0 o ho
    by_cases e1 : i = 1
    · subst e1; exact s1 o ho
    by_cases e2 : i = 2
    · subst e2; exact s2 o ho
    by_cases e3 : i = 3
    · subst e3; exact s3 o ho
    by_cases e4 : i = 4
    · subst e4; exact s4 o ho
    by_cases e5 : i = 5
    · subst e5; exact s5 o ho
    by_cases e6 : i = 6
    · subst e6; exact s6 o ho
    by_cases e7 : i = 7
    · subst e7; exact s7 o ho
    by_cases e8 : i = 8
    · subst e8; exact s8 o ho
    by_cases e9 : i = 9
    · subst e9; exact s9 o ho
    by_cases e10 : i = 10
    · subst e10; exact s10 o ho
    by_cases e11 : i = 11
    · subst e11; exact s11 o ho
    by_cases e12 : i = 12
    · subst e12; exact s12 o ho
    by_cases e13 : i = 13
    · subst e13; exact s13 o ho
    by_cases e14 : i = 14
    · subst e14; exact s14 o ho
    by_cases e15 : i = 15
    · subst e15; exact s15 o ho
    by_cases e16 : i = 16
    · subst e16; exact s16 o ho
    by_cases e17 : i = 17
    · subst e17; exact s17 o ho
    by_cases e18 : i = 18
    · subst e18; exact s18 o ho
    by_cases e19 : i = 19
    · subst e19; exact s19 o ho
    by_cases e20 : i = 20
    · subst e20; exact s20 o ho
    by_cases e21 : i = 21
    · subst e21; exact s21 o ho
    by_cases e22 : i = 22
    · subst e22; exact s22 o ho
    by_cases e23 : i = 23
    · subst e23; exact s23 o ho
    by_cases e24 : i = 24
    · subst e24; exact s24 o ho
    by_cases e25 : i = 25
    · subst e25; exact s25 o ho
    by_cases e26 : i = 26
    · subst e26; exact s26 o ho
    by_cases e27 : i = 27
    · subst e27; exact s27 o ho
    by_cases e28 : i = 28
    · subst e28; exact s28 o ho
    by_cases e29 : i = 29
    · subst e29; exact s29 o ho
    by_cases e30 : i = 30
    · subst e30; exact s30 o ho
    by_cases e31 : i = 31
    · subst e31; exact s31 o ho
    by_cases e32 : i = 32
    · subst e32; exact s32 o ho
    by_cases e33 : i = 33
    · subst e33; exact s33 o ho
    by_cases e34 : i = 34
    · subst e34; exact s34 o ho
    by_cases e35 : i = 35
    · subst e35; exact s35 o ho
    by_cases e36 : i = 36
    · subst e36; exact s36 o ho
    by_cases e37 : i = 37
    · subst e37; exact s37 o ho
    by_cases e38 : i = 38
    · subst e38; exact s38 o ho
    by_cases e39 : i = 39
    · subst e39; exact s39 o ho
    by_cases e40 : i = 40
    · subst e40; exact s40 o ho
    by_cases e41 : i = 41
    · subst e41; exact s41 o ho
    by_cases e42 : i = 42
    · subst e42; exact s42 o ho
    by_cases e43 : i = 43
    · subst e43; exact s43 o ho
    by_cases e44 : i = 44
    · subst e44; exact s44 o ho
    by_cases e45 : i = 45
    · subst e45; exact s45 o ho
    by_cases e46 : i = 46
    · subst e46; exact s46 o ho
    by_cases e47 : i = 47
    · subst e47; exact s47 o ho
    by_cases e48 : i = 48
    · subst e48; exact s48 o ho
    by_cases e49 : i = 49
    · subst e49; exact s49 o ho
    omega
  · intro a w _ hdf hon hp _
    refine hend a w hdf ⟨hon.mod.os, hon.mod.tape, hon.mod.output, hon.mod.size, fun k hk _ => hon.mod.block k hk (by omega)⟩ ?_
    obtain ⟨o, h1, h2, _⟩ := E49.ex
    exact hp 49 o 0 h1 h2
end Go.Proofs.Ytmfpllogpjlkpaa
