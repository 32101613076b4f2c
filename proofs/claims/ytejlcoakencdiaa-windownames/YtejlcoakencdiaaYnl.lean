/- The list of calls that WindowNames plays. Conditions: none. -/
import Derived.Test.YtejlcoakencdiaaYl
import Derived.Test.YtejlcoakencdiaaYp
import Derived.Laws.Tables
namespace Go.Proofs.Ytejlcoakencdiaa
open Go.RowKit
def odd : Dt := ⟨1, 0, 5, 1, 0, ⟨3, 1, 0, 5, 0, 0, 0, false, 0, 0, 0, 0, []⟩⟩
def exs : List (Bool × Int × Dt × Value) := [(false, 9, on 2, .slice none 0 0), (false, 1, on 2, .slice none 0 0), (false, 2, on 0, .slice none 0 0), (true, 4, d0, .slice none 0 0), (true, (-1), d0, .slice none 0 0), (false, 3, on 1, .slice none 0 0), (false, 1, odd, .slice none 0 0), (false, 0, on (-5), .slice none 0 0), (true, 40, d0, .slice none 0 0), (false, 99, on 9007199254740992, .slice none 0 0), (false, 9007199254740990, on 9007199254740991, .slice none 0 0), (true, 9007199254740992, d0, .slice none 0 0), (false, 4611686018427387904, on 3, .slice none 0 0), (false, (-9223372036854775808), on 4, .slice none 0 0)]
def oag (e : Bool × Int × Dt × Value) : Value := .agg (ocl e).toArray
theorem run_bslice (w : World) (t et : TypeId) (n sz : Nat) (parts : Array (Nat × Value)) (cells : Array Value) (z : Value) (hu : Try.prog.underlying t = some (.slice et)) (hi : (Try.prog.info? et).map (fun i => (i.zero, i.size)) = some (some z, sz)) (hl : ¬ n * sz > 2 ^ 24) (h0 : ¬ n * sz = 0)
    (h : Instr.fill (fun i => some (i * sz, sz)) ((Array.range (n * sz)).map (z.cells[· % z.cells.size]!)) parts.toList = some cells) : (Instr.buildSlice t n parts).run Try.prog w = .ok (.slice (some ⟨w.heap.size, 0, none⟩) n n) (w.alloc (.cells cells et)) := by
  cases hie : Try.prog.info? et with
  | none => simp [hie] at hi
  | some ie =>
    simp [hie] at hi
    obtain ⟨h1, h2⟩ := hi
    simp [Instr.buildSlice, run_underlying hu, sizeOf, typeInfo, zeroValue, hie, h1, h2, hl, h0, h, newRow]
theorem infoDz : (Try.prog.info? 37).map (fun i => (i.zero, i.size)) = some (some (oag (false, 0, d0, .slice none 0 0)), 20) := by kernel_rfl
theorem fill14 : Instr.fill (fun i => some (i * 20, 20)) ((Array.range (14 * 20)).map ((oag (false, 0, d0, .slice none 0 0)).cells[· % (oag (false, 0, d0, .slice none 0 0)).cells.size]!)) [(0, oag (false, 9, on 2, .slice none 0 0)), (1, oag (false, 1, on 2, .slice none 0 0)), (2, oag (false, 2, on 0, .slice none 0 0)), (3, oag (true, 4, d0, .slice none 0 0)), (4, oag (true, (-1), d0, .slice none 0 0)), (5, oag (false, 3, on 1, .slice none 0 0)), (6, oag (false, 1, odd, .slice none 0 0)), (7, oag (false, 0, on (-5), .slice none 0 0)), (8, oag (true, 40, d0, .slice none 0 0)), (9, oag (false, 99, on 9007199254740992, .slice none 0 0)), (10, oag (false, 9007199254740990, on 9007199254740991, .slice none 0 0)), (11, oag (true, 9007199254740992, d0, .slice none 0 0)), (12, oag (false, 4611686018427387904, on 3, .slice none 0 0)), (13, oag (false, (-9223372036854775808), on 4, .slice none 0 0))] = some (exs.flatMap ocl).toArray := by kernel_rfl
def v13 : Nat → Value
  | 0 => dv (on 2) (.slice none 0 0)
  | 1 => oag (false, 9, on 2, .slice none 0 0)
  | 2 => dv (on 2) (.slice none 0 0)
  | 3 => oag (false, 1, on 2, .slice none 0 0)
  | 4 => dv (on 0) (.slice none 0 0)
  | 5 => oag (false, 2, on 0, .slice none 0 0)
  | 6 => oag (true, 4, d0, .slice none 0 0)
  | 7 => oag (true, (-1), d0, .slice none 0 0)
  | 8 => dv (on 1) (.slice none 0 0)
  | 9 => oag (false, 3, on 1, .slice none 0 0)
  | 10 => dv odd (.slice none 0 0)
  | 11 => oag (false, 1, odd, .slice none 0 0)
  | 12 => dv (on (-5)) (.slice none 0 0)
  | 13 => oag (false, 0, on (-5), .slice none 0 0)
  | 14 => oag (true, 40, d0, .slice none 0 0)
  | 15 => dv (on 9007199254740992) (.slice none 0 0)
  | 16 => oag (false, 99, on 9007199254740992, .slice none 0 0)
  | 17 => dv (on 9007199254740991) (.slice none 0 0)
  | 18 => oag (false, 9007199254740990, on 9007199254740991, .slice none 0 0)
  | 19 => oag (true, 9007199254740992, d0, .slice none 0 0)
  | 20 => dv (on 3) (.slice none 0 0)
  | 21 => oag (false, 4611686018427387904, on 3, .slice none 0 0)
  | 22 => dv (on 4) (.slice none 0 0)
  | 23 => oag (false, (-9223372036854775808), on 4, .slice none 0 0)
  | _ => undef
/-- The calls, laid. -/
def Lr (v : Value) (w : World) : Prop := ∃ g, v = .slice (some ⟨g, 0, none⟩) 14 14 ∧ Bk w g 37 (exs.flatMap ocl).toArray
def q13 (i : Nat) (v : Value) (w : World) : Prop := if i = 24 ∨ i = 25 then Lr v w else v = v13 i
theorem q13_stab : ∀ i v w w', Mod (fun _ => False) w w' → q13 i v w → q13 i v w' := by
  intro i v w w' hm h
  unfold q13 at h ⊢
  split
  · rw [if_pos (by assumption)] at h
    obtain ⟨g, h1, h2⟩ := h
    exact ⟨g, h1, h2.mod hm (fun h => h)⟩
  · rw [if_neg (by assumption)] at h
    exact h
theorem ox_build {o : Oper} {w : World} {ρ : Operand → Value} {t : TypeId} {parts : Array (Nat × Operand)} (ho : o.op = .build t parts) {cells : Array Value} (h : Try.prog.built t (parts.map fun (i, x) => (i, ρ x)).toList = some cells) : (execOp ρ o).run Try.prog w = .ok (.value (.agg cells)) w := by
  simp only [execOp, ho, Sem.run_bind, run_build w t _ cells h, Result.andThen_ok]
  rfl
theorem ox_assign' {o : Oper} {w : World} {ρ : Operand → Value} {x : Operand} (ho : o.op = .assign x) {v : Value} (hx : ρ x = v) : (execOp ρ o).run Try.prog w = .ok (.value v) w := by simp [execOp, ho, hx]
theorem ox_bslice {o : Oper} {w : World} {ρ : Operand → Value} {t : TypeId} {n : Nat} {parts : Array (Nat × Operand)} (ho : o.op = .buildSlice t n parts) {v : Value} {w' : World} (h : (Instr.buildSlice t n (parts.map fun (i, x) => (i, ρ x))).run Try.prog w = .ok v w') : (execOp ρ o).run Try.prog w = .ok (.value v) w' := by
  simp only [execOp, ho, Sem.run_bind, h, Result.andThen_ok]
  rfl
set_option maxRecDepth 100000 in
set_option maxHeartbeats 4000000 in
theorem region13 {ops : Array Oper} {id : Nat} {a0 : Act} {w0 : World} {Q : Exit → Act → World → Prop} (bA bB : Nat)
    (E0 : Is ops 0 (some 66) (Op.call { callee := Callee.value (Operand.func 28), args := #[Operand.const (Value.int IntKind.i64 2)], argTypes := #[3] }) none [])
    (E1 : Is ops 1 (some 67) (Op.build 37 #[(2, Operand.tmp 66), (1, Operand.const (Value.int IntKind.i64 9))]) none [0])
    (E2 : Is ops 2 (some 68) (Op.call { callee := Callee.value (Operand.func 28), args := #[Operand.const (Value.int IntKind.i64 2)], argTypes := #[3] }) none [0])
    (E3 : Is ops 3 (some 69) (Op.build 37 #[(2, Operand.tmp 68), (1, Operand.const (Value.int IntKind.i64 1))]) none [2])
    (E4 : Is ops 4 (some 70) (Op.call { callee := Callee.value (Operand.func 28), args := #[Operand.const (Value.int IntKind.i64 0)], argTypes := #[3] }) none [2])
    (E5 : Is ops 5 (some 71) (Op.build 37 #[(2, Operand.tmp 70), (1, Operand.const (Value.int IntKind.i64 2))]) none [4])
    (E6 : Is ops 6 (some 72) (Op.build 37 #[(0, Operand.const (Value.bool true)), (1, Operand.const (Value.int IntKind.i64 4))]) none [])
    (E7 : Is ops 7 (some 73) (Op.build 37 #[(0, Operand.const (Value.bool true)), (1, Operand.const (Value.int IntKind.i64 (-1)))]) none [])
    (E8 : Is ops 8 (some 74) (Op.call { callee := Callee.value (Operand.func 28), args := #[Operand.const (Value.int IntKind.i64 1)], argTypes := #[3] }) none [4])
    (E9 : Is ops 9 (some 75) (Op.build 37 #[(2, Operand.tmp 74), (1, Operand.const (Value.int IntKind.i64 3))]) none [8])
    (E10 : Is ops 10 (some 76) (Op.load 35 (Operand.tmp 7)) none [])
    (E11 : Is ops 11 (some 77) (Op.build 37 #[(2, Operand.tmp 76), (1, Operand.const (Value.int IntKind.i64 1))]) none [10])
    (E12 : Is ops 12 (some 78) (Op.call { callee := Callee.value (Operand.func 28), args := #[Operand.const (Value.int IntKind.i64 (-5))], argTypes := #[3] }) none [8])
    (E13 : Is ops 13 (some 79) (Op.build 37 #[(2, Operand.tmp 78)]) none [12])
    (E14 : Is ops 14 (some 80) (Op.build 37 #[(0, Operand.const (Value.bool true)), (1, Operand.const (Value.int IntKind.i64 40))]) none [])
    (E15 : Is ops 15 (some 81) (Op.call { callee := Callee.value (Operand.func 28), args := #[Operand.const (Value.int IntKind.i64 9007199254740992)], argTypes := #[3] }) none [12])
    (E16 : Is ops 16 (some 82) (Op.build 37 #[(2, Operand.tmp 81), (1, Operand.const (Value.int IntKind.i64 99))]) none [15])
    (E17 : Is ops 17 (some 83) (Op.load 35 (Operand.tmp 8)) none [])
    (E18 : Is ops 18 (some 84) (Op.build 37 #[(2, Operand.tmp 83), (1, Operand.const (Value.int IntKind.i64 9007199254740990))]) none [17])
    (E19 : Is ops 19 (some 85) (Op.build 37 #[(0, Operand.const (Value.bool true)), (1, Operand.const (Value.int IntKind.i64 9007199254740992))]) none [])
    (E20 : Is ops 20 (some 86) (Op.call { callee := Callee.value (Operand.func 28), args := #[Operand.const (Value.int IntKind.i64 3)], argTypes := #[3] }) none [15])
    (E21 : Is ops 21 (some 87) (Op.build 37 #[(2, Operand.tmp 86), (1, Operand.const (Value.int IntKind.i64 4611686018427387904))]) none [20])
    (E22 : Is ops 22 (some 88) (Op.call { callee := Callee.value (Operand.func 28), args := #[Operand.const (Value.int IntKind.i64 4)], argTypes := #[3] }) none [20])
    (E23 : Is ops 23 (some 89) (Op.build 37 #[(2, Operand.tmp 88), (1, Operand.const (Value.int IntKind.i64 (-9223372036854775808)))]) none [22])
    (E24 : Is ops 24 (some 90) (Op.buildSlice 22 14 #[(0, Operand.tmp 67), (1, Operand.tmp 69), (2, Operand.tmp 71), (3, Operand.tmp 72), (4, Operand.tmp 73), (5, Operand.tmp 75), (6, Operand.tmp 77), (7, Operand.tmp 79), (8, Operand.tmp 80), (9, Operand.tmp 82), (10, Operand.tmp 84), (11, Operand.tmp 85), (12, Operand.tmp 87), (13, Operand.tmp 89)]) none [1, 3, 5, 6, 7, 9, 11, 13, 14, 16, 18, 19, 21, 23])
    (E25 : Is ops 25 (some 9) (Op.assign (Operand.tmp 90)) none [0, 1, 2, 3, 4, 5, 6, 7, 8, 9, 10, 11, 12, 13, 14, 15, 16, 17, 18, 19, 20, 21, 22, 23, 24])
    (hN : ops.size = 26) (hlow : lowB ops = true) (hds : dsts ops = [some 66, some 67, some 68, some 69, some 70, some 71, some 72, some 73, some 74, some 75, some 76, some 77, some 78, some 79, some 80, some 81, some 82, some 83, some 84, some 85, some 86, some 87, some 88, some 89, some 90, some 9]) (hnd : injB ops = true)
    (ha0 : a0.tmps.size = 98) (h7 : a0.tmps.getD 7 undef = .pointer (some ⟨bA, 0, none⟩)) (h8 : a0.tmps.getD 8 undef = .pointer (some ⟨bB, 0, none⟩))
    (rA : w0.rangeAt bA 0 (dcl odd (.slice none 0 0))) (rB : w0.rangeAt bB 0 (dcl (on 9007199254740991) (.slice none 0 0)))
    (hend : ∀ y66 y67 y68 y69 y70 y71 y72 y73 y74 y75 y76 y77 y78 y79 y80 y81 y82 y83 y84 y85 y86 y87 y88 y89 y90 lv w, Mod (fun _ => False) w0.drew w → Lr lv w → Q .normal (puts a0 [(66, y66), (67, y67), (68, y68), (69, y69), (70, y70), (71, y71), (72, y72), (73, y73), (74, y74), (75, y75), (76, y76), (77, y77), (78, y78), (79, y79), (80, y80), (81, y81), (82, y82), (83, y83), (84, y84), (85, y85), (86, y86), (87, y87), (88, y88), (89, y89), (90, y90), (9, lv)]) w) :
    (Code.region id ops true).wp Try.prog Q a0 w0 := by
  have DD : ∀ {W : World} {a : Addr} {v : Value}, Mod (fun _ => False) w0.drew W → w0.cell? a = some v → W.cell? a = some v := fun hW hc => hW.cell (by simpa using hc) (fun h => h)
  have s0 : ∀ o, ops[0]? = some o → StepW Try.prog ops q13 (fun _ W => Mod (fun _ => False) w0.drew W) a0 Q 0 o := by
    refine E0.stepW fun o hd ho hg hw => ?_
    intro y w listed hsz hls hun hwt hdown D' R hinv K hK
    refine .inl ⟨wanted_none hg, ?_⟩
    refine wp_enter (f := 28) (args := #[.int .i64 2]) ?_ (one_any 2 w) ?_
    · rw [exec_call1 y.eval (fun args w => by simp [go_sem]) rfl ho]; rfl
    · rintro e w' ⟨rfl, hm⟩
      exact ⟨_, rfl, hK _ _ hm (by unfold q13; rfl) (hinv.and hm)⟩
  have s1 : ∀ o, ops[1]? = some o → StepW Try.prog ops q13 (fun _ W => Mod (fun _ => False) w0.drew W) a0 Q 1 o := by
    refine E1.stepW fun o hd ho hg hw => ?_
    intro y w listed hsz hls hun hwt hdown D' R hinv K hK
    refine .inl ⟨wanted_none hg, ?_⟩
    have f66 : y.eval (Operand.tmp 66) = dv (on 2) (.slice none 0 0) := E0.postW (Post := q13) (a := y) (w := w) D' (hw 0 (by simp))
    exact wp_value (ox_build ho (cells := (ocl (false, 9, on 2, .slice none 0 0)).toArray) (by simp only [List.map_toArray, List.map_cons, List.map_nil, f66]; kernel_rfl)) (hK _ _ (Mod.refl _ _) (by unfold q13; rfl) hinv)
  have s2 : ∀ o, ops[2]? = some o → StepW Try.prog ops q13 (fun _ W => Mod (fun _ => False) w0.drew W) a0 Q 2 o := by
    refine E2.stepW fun o hd ho hg hw => ?_
    intro y w listed hsz hls hun hwt hdown D' R hinv K hK
    refine .inl ⟨wanted_none hg, ?_⟩
    refine wp_enter (f := 28) (args := #[.int .i64 2]) ?_ (one_any 2 w) ?_
    · rw [exec_call1 y.eval (fun args w => by simp [go_sem]) rfl ho]; rfl
    · rintro e w' ⟨rfl, hm⟩
      exact ⟨_, rfl, hK _ _ hm (by unfold q13; rfl) (hinv.and hm)⟩
  have s3 : ∀ o, ops[3]? = some o → StepW Try.prog ops q13 (fun _ W => Mod (fun _ => False) w0.drew W) a0 Q 3 o := by
    refine E3.stepW fun o hd ho hg hw => ?_
    intro y w listed hsz hls hun hwt hdown D' R hinv K hK
    refine .inl ⟨wanted_none hg, ?_⟩
    have f68 : y.eval (Operand.tmp 68) = dv (on 2) (.slice none 0 0) := E2.postW (Post := q13) (a := y) (w := w) D' (hw 2 (by simp))
    exact wp_value (ox_build ho (cells := (ocl (false, 1, on 2, .slice none 0 0)).toArray) (by simp only [List.map_toArray, List.map_cons, List.map_nil, f68]; kernel_rfl)) (hK _ _ (Mod.refl _ _) (by unfold q13; rfl) hinv)
  have s4 : ∀ o, ops[4]? = some o → StepW Try.prog ops q13 (fun _ W => Mod (fun _ => False) w0.drew W) a0 Q 4 o := by
    refine E4.stepW fun o hd ho hg hw => ?_
    intro y w listed hsz hls hun hwt hdown D' R hinv K hK
    refine .inl ⟨wanted_none hg, ?_⟩
    refine wp_enter (f := 28) (args := #[.int .i64 0]) ?_ (one_any 0 w) ?_
    · rw [exec_call1 y.eval (fun args w => by simp [go_sem]) rfl ho]; rfl
    · rintro e w' ⟨rfl, hm⟩
      exact ⟨_, rfl, hK _ _ hm (by unfold q13; rfl) (hinv.and hm)⟩
  have s5 : ∀ o, ops[5]? = some o → StepW Try.prog ops q13 (fun _ W => Mod (fun _ => False) w0.drew W) a0 Q 5 o := by
    refine E5.stepW fun o hd ho hg hw => ?_
    intro y w listed hsz hls hun hwt hdown D' R hinv K hK
    refine .inl ⟨wanted_none hg, ?_⟩
    have f70 : y.eval (Operand.tmp 70) = dv (on 0) (.slice none 0 0) := E4.postW (Post := q13) (a := y) (w := w) D' (hw 4 (by simp))
    exact wp_value (ox_build ho (cells := (ocl (false, 2, on 0, .slice none 0 0)).toArray) (by simp only [List.map_toArray, List.map_cons, List.map_nil, f70]; kernel_rfl)) (hK _ _ (Mod.refl _ _) (by unfold q13; rfl) hinv)
  have s6 : ∀ o, ops[6]? = some o → StepW Try.prog ops q13 (fun _ W => Mod (fun _ => False) w0.drew W) a0 Q 6 o := by
    refine E6.stepW fun o hd ho hg hw => ?_
    intro y w listed hsz hls hun hwt hdown D' R hinv K hK
    refine .inl ⟨wanted_none hg, ?_⟩
    exact wp_value (ox_build ho (cells := (ocl (true, 4, d0, .slice none 0 0)).toArray) (by simp only [List.map_toArray, List.map_cons, List.map_nil]; kernel_rfl)) (hK _ _ (Mod.refl _ _) (by unfold q13; rfl) hinv)
  have s7 : ∀ o, ops[7]? = some o → StepW Try.prog ops q13 (fun _ W => Mod (fun _ => False) w0.drew W) a0 Q 7 o := by
    refine E7.stepW fun o hd ho hg hw => ?_
    intro y w listed hsz hls hun hwt hdown D' R hinv K hK
    refine .inl ⟨wanted_none hg, ?_⟩
    exact wp_value (ox_build ho (cells := (ocl (true, (-1), d0, .slice none 0 0)).toArray) (by simp only [List.map_toArray, List.map_cons, List.map_nil]; kernel_rfl)) (hK _ _ (Mod.refl _ _) (by unfold q13; rfl) hinv)
  have s8 : ∀ o, ops[8]? = some o → StepW Try.prog ops q13 (fun _ W => Mod (fun _ => False) w0.drew W) a0 Q 8 o := by
    refine E8.stepW fun o hd ho hg hw => ?_
    intro y w listed hsz hls hun hwt hdown D' R hinv K hK
    refine .inl ⟨wanted_none hg, ?_⟩
    refine wp_enter (f := 28) (args := #[.int .i64 1]) ?_ (one_any 1 w) ?_
    · rw [exec_call1 y.eval (fun args w => by simp [go_sem]) rfl ho]; rfl
    · rintro e w' ⟨rfl, hm⟩
      exact ⟨_, rfl, hK _ _ hm (by unfold q13; rfl) (hinv.and hm)⟩
  have s9 : ∀ o, ops[9]? = some o → StepW Try.prog ops q13 (fun _ W => Mod (fun _ => False) w0.drew W) a0 Q 9 o := by
    refine E9.stepW fun o hd ho hg hw => ?_
    intro y w listed hsz hls hun hwt hdown D' R hinv K hK
    refine .inl ⟨wanted_none hg, ?_⟩
    have f74 : y.eval (Operand.tmp 74) = dv (on 1) (.slice none 0 0) := E8.postW (Post := q13) (a := y) (w := w) D' (hw 8 (by simp))
    exact wp_value (ox_build ho (cells := (ocl (false, 3, on 1, .slice none 0 0)).toArray) (by simp only [List.map_toArray, List.map_cons, List.map_nil, f74]; kernel_rfl)) (hK _ _ (Mod.refl _ _) (by unfold q13; rfl) hinv)
  have s10 : ∀ o, ops[10]? = some o → StepW Try.prog ops q13 (fun _ W => Mod (fun _ => False) w0.drew W) a0 Q 10 o := by
    refine E10.stepW fun o hd ho hg hw => ?_
    intro y w listed hsz hls hun hwt hdown D' R hinv K hK
    refine .inl ⟨wanted_none hg, ?_⟩
    have f7 : y.eval (Operand.tmp 7) = .pointer (some ⟨bA, 0, none⟩) := (R 7 (not_of (by rw [hds]; decide))).trans h7
    refine wp_load_mid (P := Try.prog) 35 _ ho bA 0 f7 (dcl odd (.slice none 0 0)) _ (fun t c ht => DD hinv (rA t c ht)) Try.underlying35 rfl (by rw [info18]; rfl) (hK _ _ (Mod.refl _ _) (by unfold q13; rfl) hinv)
  have s11 : ∀ o, ops[11]? = some o → StepW Try.prog ops q13 (fun _ W => Mod (fun _ => False) w0.drew W) a0 Q 11 o := by
    refine E11.stepW fun o hd ho hg hw => ?_
    intro y w listed hsz hls hun hwt hdown D' R hinv K hK
    refine .inl ⟨wanted_none hg, ?_⟩
    have f76 : y.eval (Operand.tmp 76) = dv odd (.slice none 0 0) := E10.postW (Post := q13) (a := y) (w := w) D' (hw 10 (by simp))
    exact wp_value (ox_build ho (cells := (ocl (false, 1, odd, .slice none 0 0)).toArray) (by simp only [List.map_toArray, List.map_cons, List.map_nil, f76]; kernel_rfl)) (hK _ _ (Mod.refl _ _) (by unfold q13; rfl) hinv)
  have s12 : ∀ o, ops[12]? = some o → StepW Try.prog ops q13 (fun _ W => Mod (fun _ => False) w0.drew W) a0 Q 12 o := by
    refine E12.stepW fun o hd ho hg hw => ?_
    intro y w listed hsz hls hun hwt hdown D' R hinv K hK
    refine .inl ⟨wanted_none hg, ?_⟩
    refine wp_enter (f := 28) (args := #[.int .i64 (-5)]) ?_ (one_any (-5) w) ?_
    · rw [exec_call1 y.eval (fun args w => by simp [go_sem]) rfl ho]; rfl
    · rintro e w' ⟨rfl, hm⟩
      exact ⟨_, rfl, hK _ _ hm (by unfold q13; rfl) (hinv.and hm)⟩
  have s13 : ∀ o, ops[13]? = some o → StepW Try.prog ops q13 (fun _ W => Mod (fun _ => False) w0.drew W) a0 Q 13 o := by
    refine E13.stepW fun o hd ho hg hw => ?_
    intro y w listed hsz hls hun hwt hdown D' R hinv K hK
    refine .inl ⟨wanted_none hg, ?_⟩
    have f78 : y.eval (Operand.tmp 78) = dv (on (-5)) (.slice none 0 0) := E12.postW (Post := q13) (a := y) (w := w) D' (hw 12 (by simp))
    exact wp_value (ox_build ho (cells := (ocl (false, 0, on (-5), .slice none 0 0)).toArray) (by simp only [List.map_toArray, List.map_cons, List.map_nil, f78]; kernel_rfl)) (hK _ _ (Mod.refl _ _) (by unfold q13; rfl) hinv)
  have s14 : ∀ o, ops[14]? = some o → StepW Try.prog ops q13 (fun _ W => Mod (fun _ => False) w0.drew W) a0 Q 14 o := by
    refine E14.stepW fun o hd ho hg hw => ?_
    intro y w listed hsz hls hun hwt hdown D' R hinv K hK
    refine .inl ⟨wanted_none hg, ?_⟩
    exact wp_value (ox_build ho (cells := (ocl (true, 40, d0, .slice none 0 0)).toArray) (by simp only [List.map_toArray, List.map_cons, List.map_nil]; kernel_rfl)) (hK _ _ (Mod.refl _ _) (by unfold q13; rfl) hinv)
  have s15 : ∀ o, ops[15]? = some o → StepW Try.prog ops q13 (fun _ W => Mod (fun _ => False) w0.drew W) a0 Q 15 o := by
    refine E15.stepW fun o hd ho hg hw => ?_
    intro y w listed hsz hls hun hwt hdown D' R hinv K hK
    refine .inl ⟨wanted_none hg, ?_⟩
    refine wp_enter (f := 28) (args := #[.int .i64 9007199254740992]) ?_ (one_any 9007199254740992 w) ?_
    · rw [exec_call1 y.eval (fun args w => by simp [go_sem]) rfl ho]; rfl
    · rintro e w' ⟨rfl, hm⟩
      exact ⟨_, rfl, hK _ _ hm (by unfold q13; rfl) (hinv.and hm)⟩
  have s16 : ∀ o, ops[16]? = some o → StepW Try.prog ops q13 (fun _ W => Mod (fun _ => False) w0.drew W) a0 Q 16 o := by
    refine E16.stepW fun o hd ho hg hw => ?_
    intro y w listed hsz hls hun hwt hdown D' R hinv K hK
    refine .inl ⟨wanted_none hg, ?_⟩
    have f81 : y.eval (Operand.tmp 81) = dv (on 9007199254740992) (.slice none 0 0) := E15.postW (Post := q13) (a := y) (w := w) D' (hw 15 (by simp))
    exact wp_value (ox_build ho (cells := (ocl (false, 99, on 9007199254740992, .slice none 0 0)).toArray) (by simp only [List.map_toArray, List.map_cons, List.map_nil, f81]; kernel_rfl)) (hK _ _ (Mod.refl _ _) (by unfold q13; rfl) hinv)
  have s17 : ∀ o, ops[17]? = some o → StepW Try.prog ops q13 (fun _ W => Mod (fun _ => False) w0.drew W) a0 Q 17 o := by
    refine E17.stepW fun o hd ho hg hw => ?_
    intro y w listed hsz hls hun hwt hdown D' R hinv K hK
    refine .inl ⟨wanted_none hg, ?_⟩
    have f8 : y.eval (Operand.tmp 8) = .pointer (some ⟨bB, 0, none⟩) := (R 8 (not_of (by rw [hds]; decide))).trans h8
    refine wp_load_mid (P := Try.prog) 35 _ ho bB 0 f8 (dcl (on 9007199254740991) (.slice none 0 0)) _ (fun t c ht => DD hinv (rB t c ht)) Try.underlying35 rfl (by rw [info18]; rfl) (hK _ _ (Mod.refl _ _) (by unfold q13; rfl) hinv)
  have s18 : ∀ o, ops[18]? = some o → StepW Try.prog ops q13 (fun _ W => Mod (fun _ => False) w0.drew W) a0 Q 18 o := by
    refine E18.stepW fun o hd ho hg hw => ?_
    intro y w listed hsz hls hun hwt hdown D' R hinv K hK
    refine .inl ⟨wanted_none hg, ?_⟩
    have f83 : y.eval (Operand.tmp 83) = dv (on 9007199254740991) (.slice none 0 0) := E17.postW (Post := q13) (a := y) (w := w) D' (hw 17 (by simp))
    exact wp_value (ox_build ho (cells := (ocl (false, 9007199254740990, on 9007199254740991, .slice none 0 0)).toArray) (by simp only [List.map_toArray, List.map_cons, List.map_nil, f83]; kernel_rfl)) (hK _ _ (Mod.refl _ _) (by unfold q13; rfl) hinv)
  have s19 : ∀ o, ops[19]? = some o → StepW Try.prog ops q13 (fun _ W => Mod (fun _ => False) w0.drew W) a0 Q 19 o := by
    refine E19.stepW fun o hd ho hg hw => ?_
    intro y w listed hsz hls hun hwt hdown D' R hinv K hK
    refine .inl ⟨wanted_none hg, ?_⟩
    exact wp_value (ox_build ho (cells := (ocl (true, 9007199254740992, d0, .slice none 0 0)).toArray) (by simp only [List.map_toArray, List.map_cons, List.map_nil]; kernel_rfl)) (hK _ _ (Mod.refl _ _) (by unfold q13; rfl) hinv)
  have s20 : ∀ o, ops[20]? = some o → StepW Try.prog ops q13 (fun _ W => Mod (fun _ => False) w0.drew W) a0 Q 20 o := by
    refine E20.stepW fun o hd ho hg hw => ?_
    intro y w listed hsz hls hun hwt hdown D' R hinv K hK
    refine .inl ⟨wanted_none hg, ?_⟩
    refine wp_enter (f := 28) (args := #[.int .i64 3]) ?_ (one_any 3 w) ?_
    · rw [exec_call1 y.eval (fun args w => by simp [go_sem]) rfl ho]; rfl
    · rintro e w' ⟨rfl, hm⟩
      exact ⟨_, rfl, hK _ _ hm (by unfold q13; rfl) (hinv.and hm)⟩
  have s21 : ∀ o, ops[21]? = some o → StepW Try.prog ops q13 (fun _ W => Mod (fun _ => False) w0.drew W) a0 Q 21 o := by
    refine E21.stepW fun o hd ho hg hw => ?_
    intro y w listed hsz hls hun hwt hdown D' R hinv K hK
    refine .inl ⟨wanted_none hg, ?_⟩
    have f86 : y.eval (Operand.tmp 86) = dv (on 3) (.slice none 0 0) := E20.postW (Post := q13) (a := y) (w := w) D' (hw 20 (by simp))
    exact wp_value (ox_build ho (cells := (ocl (false, 4611686018427387904, on 3, .slice none 0 0)).toArray) (by simp only [List.map_toArray, List.map_cons, List.map_nil, f86]; kernel_rfl)) (hK _ _ (Mod.refl _ _) (by unfold q13; rfl) hinv)
  have s22 : ∀ o, ops[22]? = some o → StepW Try.prog ops q13 (fun _ W => Mod (fun _ => False) w0.drew W) a0 Q 22 o := by
    refine E22.stepW fun o hd ho hg hw => ?_
    intro y w listed hsz hls hun hwt hdown D' R hinv K hK
    refine .inl ⟨wanted_none hg, ?_⟩
    refine wp_enter (f := 28) (args := #[.int .i64 4]) ?_ (one_any 4 w) ?_
    · rw [exec_call1 y.eval (fun args w => by simp [go_sem]) rfl ho]; rfl
    · rintro e w' ⟨rfl, hm⟩
      exact ⟨_, rfl, hK _ _ hm (by unfold q13; rfl) (hinv.and hm)⟩
  have s23 : ∀ o, ops[23]? = some o → StepW Try.prog ops q13 (fun _ W => Mod (fun _ => False) w0.drew W) a0 Q 23 o := by
    refine E23.stepW fun o hd ho hg hw => ?_
    intro y w listed hsz hls hun hwt hdown D' R hinv K hK
    refine .inl ⟨wanted_none hg, ?_⟩
    have f88 : y.eval (Operand.tmp 88) = dv (on 4) (.slice none 0 0) := E22.postW (Post := q13) (a := y) (w := w) D' (hw 22 (by simp))
    exact wp_value (ox_build ho (cells := (ocl (false, (-9223372036854775808), on 4, .slice none 0 0)).toArray) (by simp only [List.map_toArray, List.map_cons, List.map_nil, f88]; kernel_rfl)) (hK _ _ (Mod.refl _ _) (by unfold q13; rfl) hinv)
  have s24 : ∀ o, ops[24]? = some o → StepW Try.prog ops q13 (fun _ W => Mod (fun _ => False) w0.drew W) a0 Q 24 o := by
    refine E24.stepW fun o hd ho hg hw => ?_
    intro y w listed hsz hls hun hwt hdown D' R hinv K hK
    refine .inl ⟨wanted_none hg, ?_⟩
    have f67 : y.eval (Operand.tmp 67) = oag (false, 9, on 2, .slice none 0 0) := E1.postW (Post := q13) (a := y) (w := w) D' (hw 1 (by simp))
    have f69 : y.eval (Operand.tmp 69) = oag (false, 1, on 2, .slice none 0 0) := E3.postW (Post := q13) (a := y) (w := w) D' (hw 3 (by simp))
    have f71 : y.eval (Operand.tmp 71) = oag (false, 2, on 0, .slice none 0 0) := E5.postW (Post := q13) (a := y) (w := w) D' (hw 5 (by simp))
    have f72 : y.eval (Operand.tmp 72) = oag (true, 4, d0, .slice none 0 0) := E6.postW (Post := q13) (a := y) (w := w) D' (hw 6 (by simp))
    have f73 : y.eval (Operand.tmp 73) = oag (true, (-1), d0, .slice none 0 0) := E7.postW (Post := q13) (a := y) (w := w) D' (hw 7 (by simp))
    have f75 : y.eval (Operand.tmp 75) = oag (false, 3, on 1, .slice none 0 0) := E9.postW (Post := q13) (a := y) (w := w) D' (hw 9 (by simp))
    have f77 : y.eval (Operand.tmp 77) = oag (false, 1, odd, .slice none 0 0) := E11.postW (Post := q13) (a := y) (w := w) D' (hw 11 (by simp))
    have f79 : y.eval (Operand.tmp 79) = oag (false, 0, on (-5), .slice none 0 0) := E13.postW (Post := q13) (a := y) (w := w) D' (hw 13 (by simp))
    have f80 : y.eval (Operand.tmp 80) = oag (true, 40, d0, .slice none 0 0) := E14.postW (Post := q13) (a := y) (w := w) D' (hw 14 (by simp))
    have f82 : y.eval (Operand.tmp 82) = oag (false, 99, on 9007199254740992, .slice none 0 0) := E16.postW (Post := q13) (a := y) (w := w) D' (hw 16 (by simp))
    have f84 : y.eval (Operand.tmp 84) = oag (false, 9007199254740990, on 9007199254740991, .slice none 0 0) := E18.postW (Post := q13) (a := y) (w := w) D' (hw 18 (by simp))
    have f85 : y.eval (Operand.tmp 85) = oag (true, 9007199254740992, d0, .slice none 0 0) := E19.postW (Post := q13) (a := y) (w := w) D' (hw 19 (by simp))
    have f87 : y.eval (Operand.tmp 87) = oag (false, 4611686018427387904, on 3, .slice none 0 0) := E21.postW (Post := q13) (a := y) (w := w) D' (hw 21 (by simp))
    have f89 : y.eval (Operand.tmp 89) = oag (false, (-9223372036854775808), on 4, .slice none 0 0) := E23.postW (Post := q13) (a := y) (w := w) D' (hw 23 (by simp))
    have hb : (Instr.buildSlice 22 14 (#[(0, Operand.tmp 67), (1, Operand.tmp 69), (2, Operand.tmp 71), (3, Operand.tmp 72), (4, Operand.tmp 73), (5, Operand.tmp 75), (6, Operand.tmp 77), (7, Operand.tmp 79), (8, Operand.tmp 80), (9, Operand.tmp 82), (10, Operand.tmp 84), (11, Operand.tmp 85), (12, Operand.tmp 87), (13, Operand.tmp 89)].map fun (i, x) => (i, y.eval x))).run Try.prog w = .ok (.slice (some ⟨w.heap.size, 0, none⟩) 14 14) (w.alloc (.cells (exs.flatMap ocl).toArray 37)) := by
      refine run_bslice w _ _ 14 20 _ _ (oag (false, 0, d0, .slice none 0 0)) Try.underlying22 infoDz (by decide) (by decide) ?_
      simp only [List.map_toArray, List.map_cons, List.map_nil, f67, f69, f71, f72, f73, f75, f77, f79, f80, f82, f84, f85, f87, f89]
      exact fill14
    exact wp_value (ox_bslice ho hb) (hK _ _ ((Mod.refl (fun _ => False) w).alloc _) (by unfold q13; exact ⟨_, rfl, Bk.new w _ _⟩) (hinv.alloc _))
  have s25 : ∀ o, ops[25]? = some o → StepW Try.prog ops q13 (fun _ W => Mod (fun _ => False) w0.drew W) a0 Q 25 o := by
    refine E25.stepW fun o hd ho hg hw => ?_
    intro y w listed hsz hls hun hwt hdown D' R hinv K hK
    refine .inl ⟨wanted_none hg, ?_⟩
    have f90 : Lr (y.eval (Operand.tmp 90)) w := E24.postW (Post := q13) (a := y) (w := w) D' (hw 24 (by simp))
    exact wp_value (ox_assign' ho rfl) (hK _ _ (Mod.refl _ _) (by unfold q13; exact f90) hinv)
  refine region_freeW (Post := q13) (Inv := (fun _ W => Mod (fun _ => False) w0.drew W)) mixedD (low_of hlow) (fun i o ho => by rw [ha0]; exact dst_of (by rw [hds]; decide) i o ho) (inj_of hnd) (Mod.refl _ _) q13_stab ?_ ?_
  · intro i o ho
    have hi : i < 26 := by
      rw [← hN]
      rcases Nat.lt_or_ge i ops.size with h | h
      · exact h
      · rw [Array.getElem?_eq_none h] at ho; cases ho
    clear hend
    by_cases e0 : i = 0
    · subst e0; exact s0 o ho
    by_cases e1 : i = 1
    · subst e1; exact s1 o ho
    by_cases e2 : i = 2
    · subst e2; exact s2 o ho
    by_cases e3 : i = 3
    · subst e3; exact s3 o ho
    by_cases e4 : i = 4
    · subst e4; exact s4 o ho
    by_cases e5 : i = 5
    · subst e5; exact s5 o ho
    by_cases e6 : i = 6
    · subst e6; exact s6 o ho
    by_cases e7 : i = 7
    · subst e7; exact s7 o ho
    by_cases e8 : i = 8
    · subst e8; exact s8 o ho
    by_cases e9 : i = 9
    · subst e9; exact s9 o ho
    by_cases e10 : i = 10
    · subst e10; exact s10 o ho
    by_cases e11 : i = 11
    · subst e11; exact s11 o ho
    by_cases e12 : i = 12
    · subst e12; exact s12 o ho
    by_cases e13 : i = 13
    · subst e13; exact s13 o ho
    by_cases e14 : i = 14
    · subst e14; exact s14 o ho
    by_cases e15 : i = 15
    · subst e15; exact s15 o ho
    by_cases e16 : i = 16
    · subst e16; exact s16 o ho
    by_cases e17 : i = 17
    · subst e17; exact s17 o ho
    by_cases e18 : i = 18
    · subst e18; exact s18 o ho
    by_cases e19 : i = 19
    · subst e19; exact s19 o ho
    by_cases e20 : i = 20
    · subst e20; exact s20 o ho
    by_cases e21 : i = 21
    · subst e21; exact s21 o ho
    by_cases e22 : i = 22
    · subst e22; exact s22 o ho
    by_cases e23 : i = 23
    · subst e23; exact s23 o ho
    by_cases e24 : i = 24
    · subst e24; exact s24 o ho
    by_cases e25 : i = 25
    · subst e25; exact s25 o ho
    omega
  · intro y w listed hsz hdf hls hall hinv hp hr
    have e : y = puts a0 [(66, y.tmps.getD 66 undef), (67, y.tmps.getD 67 undef), (68, y.tmps.getD 68 undef), (69, y.tmps.getD 69 undef), (70, y.tmps.getD 70 undef), (71, y.tmps.getD 71 undef), (72, y.tmps.getD 72 undef), (73, y.tmps.getD 73 undef), (74, y.tmps.getD 74 undef), (75, y.tmps.getD 75 undef), (76, y.tmps.getD 76 undef), (77, y.tmps.getD 77 undef), (78, y.tmps.getD 78 undef), (79, y.tmps.getD 79 undef), (80, y.tmps.getD 80 undef), (81, y.tmps.getD 81 undef), (82, y.tmps.getD 82 undef), (83, y.tmps.getD 83 undef), (84, y.tmps.getD 84 undef), (85, y.tmps.getD 85 undef), (86, y.tmps.getD 86 undef), (87, y.tmps.getD 87 undef), (88, y.tmps.getD 88 undef), (89, y.tmps.getD 89 undef), (90, y.tmps.getD 90 undef), (9, y.tmps.getD 9 undef)] := by
      refine eq_puts hsz hdf (nodup_of (D := [some 66, some 67, some 68, some 69, some 70, some 71, some 72, some 73, some 74, some 75, some 76, some 77, some 78, some 79, some 80, some 81, some 82, some 83, some 84, some 85, some 86, some 87, some 88, some 89, some 90, some 9]) rfl (by decide)) (by rw [ha0]; simp) ?_ ?_
      · intro q hq
        simp only [List.mem_cons, List.not_mem_nil, or_false] at hq
        rcases hq with rfl | rfl | rfl | rfl | rfl | rfl | rfl | rfl | rfl | rfl | rfl | rfl | rfl | rfl | rfl | rfl | rfl | rfl | rfl | rfl | rfl | rfl | rfl | rfl | rfl | rfl <;> rfl
      · intro t ht
        refine hr t (not_of ?_)
        rw [hds]
        simp only [List.mem_cons, List.not_mem_nil, or_false, forall_eq_or_imp, forall_eq] at ht
        simp only [List.contains_cons, List.contains_nil, Bool.or_eq_false_iff, beq_eq_false_iff_ne, ne_eq, Option.some.injEq, Bool.or_false]
        simp only [eq_comm (a := t)]
        simp [ht]
    have hL : Lr (y.tmps.getD 9 undef) w := by
      obtain ⟨o, h1, h2, _⟩ := E25.ex
      exact hp 25 o _ h1 h2
    rw [e]
    exact hend _ _ _ _ _ _ _ _ _ _ _ _ _ _ _ _ _ _ _ _ _ _ _ _ _ _ w hinv hL
end Go.Proofs.Ytejlcoakencdiaa
