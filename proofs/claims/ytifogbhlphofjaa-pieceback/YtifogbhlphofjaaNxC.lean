/- PieceBack holds: what was split is put together as it was. For every list of payloads and every turns; no conditions. -/
import Derived.Test.YtifogbhlphofjaaXt
import Derived.Test.YtifogbhlphofjaaFrx
import Derived.Laws.Tables
import Derived.Deep.MidRow
import Derived.Test.YtifogbhlphofjaaNxB
import Derived.Test.YtifogbhlphofjaaNxA
import Derived.Test.YtifogbhlphofjaaXw
import Derived.Test.YtifogbhlphofjaaXi
import Derived.Deep.QuietTactic
import Derived.BigQuiet
import Derived.Deep.Light
import Derived.Deep.DeepCutAuto
import Derived.Deep.CutBlock
import Derived.Lib.MinMax
namespace Go.Proofs.Ytifogbhlphofjaa
open Go.RowKit
section
variable {o : Oper} {w : World} {ρ : Operand → Value} {x y : Operand}
theorem ox_rem8 (ho : o.op = .binOp .rem 3 x (.const (.int .i64 8)) 3) (hc : ∀ v, ρ (.const v) = v) {a r : Nat} (hx : ρ x = .int .i64 (a : Int)) (hr : r = a % 8) : (execOp ρ o).run Try.prog w = .ok (.value (.int .i64 (r : Int))) w := by
  have e : (a : Int).tmod 8 = (r : Int) := by rw [Int.tmod_eq_emod_of_nonneg (by omega)]; omega
  simp [execOp, ho, hx, hc, go_sem, e]
theorem ox_quo8 (ho : o.op = .binOp .quo 3 x (.const (.int .i64 8)) 3) (hc : ∀ v, ρ (.const v) = v) {a r : Nat} (hx : ρ x = .int .i64 (a : Int)) (ha : a < 16) (hr : r = a / 8) : (execOp ρ o).run Try.prog w = .ok (.value (.int .i64 (r : Int))) w := by
  have e : (a : Int).tdiv 8 = (r : Int) := by rw [Int.tdiv_eq_ediv_of_nonneg (by omega)]; omega
  have e2 : IntKind.i64.wrap (r : Int) = (r : Int) := by rw [IntKind.wrap_i64]; omega
  simp [execOp, ho, hx, hc, go_sem, e, e2]
theorem ox_add1 (ho : o.op = .binOp .add 3 (.const (.int .i64 1)) x 3) (hc : ∀ v, ρ (.const v) = v) {a : Nat} (hx : ρ x = .int .i64 (a : Int)) (ha : a < 1000) : (execOp ρ o).run Try.prog w = .ok (.value (.int .i64 (1 + (a : Int)))) w := by
  have e2 : IntKind.i64.wrap (1 + (a : Int)) = 1 + (a : Int) := by rw [IntKind.wrap_i64]; omega
  simp [execOp, ho, hx, hc, go_sem, e2]
theorem ox_bld {t : TypeId} {parts : Array (Nat × Operand)} (ho : o.op = .build t parts) {cells : Array Value} (h : Try.prog.built t (parts.map fun (i, x) => (i, ρ x)).toList = some cells) : (execOp ρ o).run Try.prog w = .ok (.value (.agg cells)) w := by
  simp only [execOp, ho, Sem.run_bind, run_build w t _ cells h, Result.andThen_ok]
  rfl
theorem ox_allocM (ho : o.op = .alloc 28) : (execOp ρ o).run Try.prog w = .ok (.value (.pointer (some ⟨w.heap.size, 0, none⟩))) (w.alloc (.cells #[.int .i64 0, .int .i64 0, .int .i64 0, .int .i64 0, .int .i64 0, .int .i64 0, .int .i64 0, .bool false, .int .i64 0, .int .i64 0, .int .i64 0, .int .i64 0, .slice none 0 0] 28)) := by
  simp [execOp, ho, go_sem]
end
theorem infoM9 : (Try.prog.info? 28).map (·.size) = some 13 := by kernel_rfl
def v9 (b off n c j kk ka kb G W : Nat) (g : Int) (s : Bool) : Nat → Value
  | 0 => .int .i64 (kk : Int)
  | 1 => .int .i64 (ka : Int)
  | 2 => .int .i64 (1 + (ka : Int))
  | 3 => .int .i64 (kk : Int)
  | 4 => .int .i64 (kb : Int)
  | 5 => .int .i64 (1 + (kb : Int))
  | 6 => .int .i64 (j : Int)
  | 7 => .slice (some ⟨b, off, none⟩) n c
  | 8 => .int .i64 (j : Int)
  | 9 => .pointer (some ⟨b, off + j * 5, none⟩)
  | 10 => .pointer (some ⟨b, off + j * 5 + 2, none⟩)
  | 11 => .int .i64 g
  | 12 => .int .i64 (G : Int)
  | 13 => .int .i64 (1 + (G : Int))
  | 14 => .slice (some ⟨b, off, none⟩) n c
  | 15 => .int .i64 (j : Int)
  | 16 => .pointer (some ⟨b, off + j * 5, none⟩)
  | 17 => .pointer (some ⟨b, off + j * 5 + 3, none⟩)
  | 18 => .bool s
  | 19 => .agg #[.int .i64 1, .int .i64 (1 + (ka : Int)), .int .i64 (1 + (kb : Int)), .int .i64 (j : Int), .int .i64 0, .int .i64 0, .int .i64 (1 + (G : Int)), .bool s, .int .i64 0, .int .i64 0, .int .i64 0, .int .i64 0, .slice none 0 0]
  | 20 => .pointer (some ⟨W, 0, none⟩)
  | _ => undef
/-- What memory is, by whether the block is made, and the message laid. -/
def I9 (w0 : World) (cells : Array Value) (a b : Bool) (w : World) : Prop :=
  if b = true then Bk w w0.heap.size 28 cells ∧ Mod (fun _ => False) w0 w else if a = true then w = w0.alloc (.cells #[.int .i64 0, .int .i64 0, .int .i64 0, .int .i64 0, .int .i64 0, .int .i64 0, .int .i64 0, .bool false, .int .i64 0, .int .i64 0, .int .i64 0, .int .i64 0, .slice none 0 0] 28) else w = w0
theorem I9.mod {w0 w : World} {cells : Array Value} {a b : Bool} (h : I9 w0 cells a b w) : Mod (fun _ => False) w0 w := by
  unfold I9 at h
  split at h
  · exact h.2
  · split at h
    · subst h
      exact (Mod.refl _ w0).alloc _
    · subst h
      exact Mod.refl _ _
theorem getD_ne {l : Array Bool} {i t : Nat} (h : i ≠ t) : (l.setIfInBounds i true).getD t false = l.getD t false := by
  simp only [Array.getD_eq_getD_getElem?, Array.getElem?_setIfInBounds, if_neg h]
set_option maxRecDepth 100000 in
set_option maxHeartbeats 4000000 in
theorem region9 {ops : Array Oper} {id : Nat} {a0 : Act} {w0 : World} {Q : Exit → Act → World → Prop} (b off n c j kk ka kb G : Nat) (g : Int) (s : Bool)
    (E0 : Is ops 0 (some 48) (Op.move (Operand.tmp 8)) none [])
    (E1 : Is ops 1 (some 49) (Op.binOp BinOp.rem 3 (Operand.tmp 48) (Operand.const (Value.int IntKind.i64 8)) 3) none [0])
    (E2 : Is ops 2 (some 50) (Op.binOp BinOp.add 3 (Operand.const (Value.int IntKind.i64 1)) (Operand.tmp 49) 3) none [1])
    (E3 : Is ops 3 (some 51) (Op.move (Operand.tmp 8)) none [])
    (E4 : Is ops 4 (some 52) (Op.binOp BinOp.quo 3 (Operand.tmp 51) (Operand.const (Value.int IntKind.i64 8)) 3) none [3])
    (E5 : Is ops 5 (some 53) (Op.binOp BinOp.add 3 (Operand.const (Value.int IntKind.i64 1)) (Operand.tmp 52) 3) none [4])
    (E6 : Is ops 6 (some 54) (Op.move (Operand.tmp 7)) none [])
    (E7 : Is ops 7 (some 55) (Op.move (Operand.tmp 0)) none [])
    (E8 : Is ops 8 (some 56) (Op.move (Operand.tmp 7)) none [])
    (E9 : Is ops 9 (some 57) (Op.indexAddr 48 (Operand.tmp 55) (Operand.tmp 56)) none [7, 8])
    (E10 : Is ops 10 (some 58) (Op.fieldAddr 55 (Operand.tmp 57) 2) none [9])
    (E11 : Is ops 11 (some 59) (Op.load 3 (Operand.tmp 58)) none [10])
    (E12 : Is ops 12 (some 60) (Op.call { callee := Callee.value (Operand.func 22), args := #[Operand.tmp 59, Operand.const (Value.int IntKind.i64 255)], argTypes := #[3, 3] }) none [11])
    (E13 : Is ops 13 (some 61) (Op.binOp BinOp.add 3 (Operand.const (Value.int IntKind.i64 1)) (Operand.tmp 60) 3) none [12])
    (E14 : Is ops 14 (some 62) (Op.move (Operand.tmp 0)) none [])
    (E15 : Is ops 15 (some 63) (Op.move (Operand.tmp 7)) none [])
    (E16 : Is ops 16 (some 64) (Op.indexAddr 48 (Operand.tmp 62) (Operand.tmp 63)) none [14, 15])
    (E17 : Is ops 17 (some 65) (Op.fieldAddr 55 (Operand.tmp 64) 3) none [16])
    (E18 : Is ops 18 (some 66) (Op.load 4 (Operand.tmp 65)) none [17])
    (E19 : Is ops 19 (some 67) (Op.build 28 #[(0, Operand.const (Value.int IntKind.i64 1)), (1, Operand.tmp 50), (2, Operand.tmp 53), (3, Operand.tmp 54), (6, Operand.tmp 61), (7, Operand.tmp 66)]) none [2, 5, 6, 13, 18])
    (E20 : Is ops 20 (some 9) (Op.alloc 28) none [])
    (E21 : Is ops 21 none (Op.store 28 (Operand.tmp 9) (Operand.tmp 67)) none [0, 1, 2, 3, 4, 5, 6, 7, 8, 9, 10, 11, 12, 13, 14, 15, 16, 17, 18, 19, 20])
    (hN : ops.size = 22) (hlow : lowB ops = true) (hds : dsts ops = [some 48, some 49, some 50, some 51, some 52, some 53, some 54, some 55, some 56, some 57, some 58, some 59, some 60, some 61, some 62, some 63, some 64, some 65, some 66, some 67, some 9, none]) (hnd : injB ops = true)
    (ha0 : a0.tmps.size = 201) (h0 : a0.tmps.getD 0 undef = .slice (some ⟨b, off, none⟩) n c) (h7 : a0.tmps.getD 7 undef = .int .i64 (j : Int)) (h8 : a0.tmps.getD 8 undef = .int .i64 (kk : Int))
    (hj : j < n) (hk : kk < 16) (hka : ka = kk % 8) (hkb : kb = kk / 8) (hG : G < 255)
    (c2 : w0.cell? ⟨b, off + j * 5 + 2, none⟩ = some (.int .i64 g)) (c3 : w0.cell? ⟨b, off + j * 5 + 3, none⟩ = some (.bool s))
    (HB : ∀ W, Calls Try.prog 22 #[.int .i64 g, .int .i64 255] W fun e w' => e = .returned (.int .i64 (G : Int)) ∧ w' = W)
    (hend : ∀ y48 y49 y50 y51 y52 y53 y54 y55 y56 y57 y58 y59 y60 y61 y62 y63 y64 y65 y66 y67 w, Bk w w0.heap.size 28 #[.int .i64 1, .int .i64 (1 + (ka : Int)), .int .i64 (1 + (kb : Int)), .int .i64 (j : Int), .int .i64 0, .int .i64 0, .int .i64 (1 + (G : Int)), .bool s, .int .i64 0, .int .i64 0, .int .i64 0, .int .i64 0, .slice none 0 0] → Mod (fun _ => False) w0 w → Q .normal (puts a0 [(48, y48), (49, y49), (50, y50), (51, y51), (52, y52), (53, y53), (54, y54), (55, y55), (56, y56), (57, y57), (58, y58), (59, y59), (60, y60), (61, y61), (62, y62), (63, y63), (64, y64), (65, y65), (66, y66), (67, y67), (9, .pointer (some ⟨w0.heap.size, 0, none⟩))]) w) :
    (Code.region id ops true).wp Try.prog Q a0 w0 := by
  have DD : ∀ {W : World} {a : Addr} {v : Value}, Mod (fun _ => False) w0.drew W → w0.cell? a = some v → W.cell? a = some v := fun hW hc => hW.cell (by simpa using hc) (fun h => h)
  have idx : ∀ (W : World), (Instr.indexAt 48 (.slice (some ⟨b, off, none⟩) n c) (.int .i64 (j : Int))).run Try.prog W = .ok (.pointer (some ⟨b, off + j * 5, none⟩)) W := fun W => by
    have hj' : (j : Int) < (n : Int) := by omega
    have hj0 : (0 : Int) ≤ (j : Int) := by omega
    simp [go_sem, hj', hj0]
  have fld2 : ∀ (W : World), (Instr.fieldAt 55 (.pointer (some ⟨b, off + j * 5, none⟩)) 2).run Try.prog W = .ok (.pointer (some ⟨b, off + j * 5 + 2, none⟩)) W := fun W => by
    simp [go_sem]
  have fld3 : ∀ (W : World), (Instr.fieldAt 55 (.pointer (some ⟨b, off + j * 5, none⟩)) 3).run Try.prog W = .ok (.pointer (some ⟨b, off + j * 5 + 3, none⟩)) W := fun W => by
    simp [go_sem]
  have ld2 : ∀ (W : World), W.cell? ⟨b, off + j * 5 + 2, none⟩ = some (.int .i64 g) → (Instr.loadAt 3 (.pointer (some ⟨b, off + j * 5 + 2, none⟩))).run Try.prog W = .ok (.int .i64 g) W := fun W h => by
    simp [go_sem, h]
  have ld3 : ∀ (W : World), W.cell? ⟨b, off + j * 5 + 3, none⟩ = some (.bool s) → (Instr.loadAt 4 (.pointer (some ⟨b, off + j * 5 + 3, none⟩))).run Try.prog W = .ok (.bool s) W := fun W h => by
    simp [go_sem, h]
  have s0 : ∀ o, ops[0]? = some o → Step Try.prog ops (fun i' v => i' = 21 ∨ v = v9 b off n c j kk ka kb G w0.heap.size g s i') (fun l W => I9 w0.drew #[.int .i64 1, .int .i64 (1 + (ka : Int)), .int .i64 (1 + (kb : Int)), .int .i64 (j : Int), .int .i64 0, .int .i64 0, .int .i64 (1 + (G : Int)), .bool s, .int .i64 0, .int .i64 0, .int .i64 0, .int .i64 0, .slice none 0 0] (l.getD 20 false) (l.getD 21 false) W) a0 Q 0 o := by
    refine E0.step fun o hd ho hg hw => ?_
    intro y w listed hsz hls hun hwt hdown D' R hinv K hK
    refine .inl ⟨wanted_none hg, ?_⟩
    have hinv' : (fun l W => I9 w0.drew #[.int .i64 1, .int .i64 (1 + (ka : Int)), .int .i64 (1 + (kb : Int)), .int .i64 (j : Int), .int .i64 0, .int .i64 0, .int .i64 (1 + (G : Int)), .bool s, .int .i64 0, .int .i64 0, .int .i64 0, .int .i64 0, .slice none 0 0] (l.getD 20 false) (l.getD 21 false) W) (listed.setIfInBounds 0 true) w := by
      show I9 _ _ _ _ _
      rw [getD_ne (by decide), getD_ne (by decide)]
      exact hinv
    have f8 : y.eval (Operand.tmp 8) = .int .i64 (kk : Int) := (R 8 (not_of (by rw [hds]; decide))).trans h8
    exact wp_value (ox_move ho f8) (hK _ _ (.inr rfl) hinv')
  have s1 : ∀ o, ops[1]? = some o → Step Try.prog ops (fun i' v => i' = 21 ∨ v = v9 b off n c j kk ka kb G w0.heap.size g s i') (fun l W => I9 w0.drew #[.int .i64 1, .int .i64 (1 + (ka : Int)), .int .i64 (1 + (kb : Int)), .int .i64 (j : Int), .int .i64 0, .int .i64 0, .int .i64 (1 + (G : Int)), .bool s, .int .i64 0, .int .i64 0, .int .i64 0, .int .i64 0, .slice none 0 0] (l.getD 20 false) (l.getD 21 false) W) a0 Q 1 o := by
    refine E1.step fun o hd ho hg hw => ?_
    intro y w listed hsz hls hun hwt hdown D' R hinv K hK
    refine .inl ⟨wanted_none hg, ?_⟩
    have hc : ∀ v, y.eval (.const v) = v := fun _ => rfl
    have hinv' : (fun l W => I9 w0.drew #[.int .i64 1, .int .i64 (1 + (ka : Int)), .int .i64 (1 + (kb : Int)), .int .i64 (j : Int), .int .i64 0, .int .i64 0, .int .i64 (1 + (G : Int)), .bool s, .int .i64 0, .int .i64 0, .int .i64 0, .int .i64 0, .slice none 0 0] (l.getD 20 false) (l.getD 21 false) W) (listed.setIfInBounds 1 true) w := by
      show I9 _ _ _ _ _
      rw [getD_ne (by decide), getD_ne (by decide)]
      exact hinv
    have f48 : y.eval (Operand.tmp 48) = .int .i64 (kk : Int) := (E0.post (Post := (fun i' v => i' = 21 ∨ v = v9 b off n c j kk ka kb G w0.heap.size g s i')) (a := y) D' (hw 0 (by simp))).resolve_left (by decide)
    exact wp_value (ox_rem8 ho hc f48 hka) (hK _ _ (.inr rfl) hinv')
  have s2 : ∀ o, ops[2]? = some o → Step Try.prog ops (fun i' v => i' = 21 ∨ v = v9 b off n c j kk ka kb G w0.heap.size g s i') (fun l W => I9 w0.drew #[.int .i64 1, .int .i64 (1 + (ka : Int)), .int .i64 (1 + (kb : Int)), .int .i64 (j : Int), .int .i64 0, .int .i64 0, .int .i64 (1 + (G : Int)), .bool s, .int .i64 0, .int .i64 0, .int .i64 0, .int .i64 0, .slice none 0 0] (l.getD 20 false) (l.getD 21 false) W) a0 Q 2 o := by
    refine E2.step fun o hd ho hg hw => ?_
    intro y w listed hsz hls hun hwt hdown D' R hinv K hK
    refine .inl ⟨wanted_none hg, ?_⟩
    have hc : ∀ v, y.eval (.const v) = v := fun _ => rfl
    have hinv' : (fun l W => I9 w0.drew #[.int .i64 1, .int .i64 (1 + (ka : Int)), .int .i64 (1 + (kb : Int)), .int .i64 (j : Int), .int .i64 0, .int .i64 0, .int .i64 (1 + (G : Int)), .bool s, .int .i64 0, .int .i64 0, .int .i64 0, .int .i64 0, .slice none 0 0] (l.getD 20 false) (l.getD 21 false) W) (listed.setIfInBounds 2 true) w := by
      show I9 _ _ _ _ _
      rw [getD_ne (by decide), getD_ne (by decide)]
      exact hinv
    have f49 : y.eval (Operand.tmp 49) = .int .i64 (ka : Int) := (E1.post (Post := (fun i' v => i' = 21 ∨ v = v9 b off n c j kk ka kb G w0.heap.size g s i')) (a := y) D' (hw 1 (by simp))).resolve_left (by decide)
    exact wp_value (ox_add1 ho hc f49 (by omega)) (hK _ _ (.inr rfl) hinv')
  have s3 : ∀ o, ops[3]? = some o → Step Try.prog ops (fun i' v => i' = 21 ∨ v = v9 b off n c j kk ka kb G w0.heap.size g s i') (fun l W => I9 w0.drew #[.int .i64 1, .int .i64 (1 + (ka : Int)), .int .i64 (1 + (kb : Int)), .int .i64 (j : Int), .int .i64 0, .int .i64 0, .int .i64 (1 + (G : Int)), .bool s, .int .i64 0, .int .i64 0, .int .i64 0, .int .i64 0, .slice none 0 0] (l.getD 20 false) (l.getD 21 false) W) a0 Q 3 o := by
    refine E3.step fun o hd ho hg hw => ?_
    intro y w listed hsz hls hun hwt hdown D' R hinv K hK
    refine .inl ⟨wanted_none hg, ?_⟩
    have hinv' : (fun l W => I9 w0.drew #[.int .i64 1, .int .i64 (1 + (ka : Int)), .int .i64 (1 + (kb : Int)), .int .i64 (j : Int), .int .i64 0, .int .i64 0, .int .i64 (1 + (G : Int)), .bool s, .int .i64 0, .int .i64 0, .int .i64 0, .int .i64 0, .slice none 0 0] (l.getD 20 false) (l.getD 21 false) W) (listed.setIfInBounds 3 true) w := by
      show I9 _ _ _ _ _
      rw [getD_ne (by decide), getD_ne (by decide)]
      exact hinv
    have f8 : y.eval (Operand.tmp 8) = .int .i64 (kk : Int) := (R 8 (not_of (by rw [hds]; decide))).trans h8
    exact wp_value (ox_move ho f8) (hK _ _ (.inr rfl) hinv')
  have s4 : ∀ o, ops[4]? = some o → Step Try.prog ops (fun i' v => i' = 21 ∨ v = v9 b off n c j kk ka kb G w0.heap.size g s i') (fun l W => I9 w0.drew #[.int .i64 1, .int .i64 (1 + (ka : Int)), .int .i64 (1 + (kb : Int)), .int .i64 (j : Int), .int .i64 0, .int .i64 0, .int .i64 (1 + (G : Int)), .bool s, .int .i64 0, .int .i64 0, .int .i64 0, .int .i64 0, .slice none 0 0] (l.getD 20 false) (l.getD 21 false) W) a0 Q 4 o := by
    refine E4.step fun o hd ho hg hw => ?_
    intro y w listed hsz hls hun hwt hdown D' R hinv K hK
    refine .inl ⟨wanted_none hg, ?_⟩
    have hc : ∀ v, y.eval (.const v) = v := fun _ => rfl
    have hinv' : (fun l W => I9 w0.drew #[.int .i64 1, .int .i64 (1 + (ka : Int)), .int .i64 (1 + (kb : Int)), .int .i64 (j : Int), .int .i64 0, .int .i64 0, .int .i64 (1 + (G : Int)), .bool s, .int .i64 0, .int .i64 0, .int .i64 0, .int .i64 0, .slice none 0 0] (l.getD 20 false) (l.getD 21 false) W) (listed.setIfInBounds 4 true) w := by
      show I9 _ _ _ _ _
      rw [getD_ne (by decide), getD_ne (by decide)]
      exact hinv
    have f51 : y.eval (Operand.tmp 51) = .int .i64 (kk : Int) := (E3.post (Post := (fun i' v => i' = 21 ∨ v = v9 b off n c j kk ka kb G w0.heap.size g s i')) (a := y) D' (hw 3 (by simp))).resolve_left (by decide)
    exact wp_value (ox_quo8 ho hc f51 hk hkb) (hK _ _ (.inr rfl) hinv')
  have s5 : ∀ o, ops[5]? = some o → Step Try.prog ops (fun i' v => i' = 21 ∨ v = v9 b off n c j kk ka kb G w0.heap.size g s i') (fun l W => I9 w0.drew #[.int .i64 1, .int .i64 (1 + (ka : Int)), .int .i64 (1 + (kb : Int)), .int .i64 (j : Int), .int .i64 0, .int .i64 0, .int .i64 (1 + (G : Int)), .bool s, .int .i64 0, .int .i64 0, .int .i64 0, .int .i64 0, .slice none 0 0] (l.getD 20 false) (l.getD 21 false) W) a0 Q 5 o := by
    refine E5.step fun o hd ho hg hw => ?_
    intro y w listed hsz hls hun hwt hdown D' R hinv K hK
    refine .inl ⟨wanted_none hg, ?_⟩
    have hc : ∀ v, y.eval (.const v) = v := fun _ => rfl
    have hinv' : (fun l W => I9 w0.drew #[.int .i64 1, .int .i64 (1 + (ka : Int)), .int .i64 (1 + (kb : Int)), .int .i64 (j : Int), .int .i64 0, .int .i64 0, .int .i64 (1 + (G : Int)), .bool s, .int .i64 0, .int .i64 0, .int .i64 0, .int .i64 0, .slice none 0 0] (l.getD 20 false) (l.getD 21 false) W) (listed.setIfInBounds 5 true) w := by
      show I9 _ _ _ _ _
      rw [getD_ne (by decide), getD_ne (by decide)]
      exact hinv
    have f52 : y.eval (Operand.tmp 52) = .int .i64 (kb : Int) := (E4.post (Post := (fun i' v => i' = 21 ∨ v = v9 b off n c j kk ka kb G w0.heap.size g s i')) (a := y) D' (hw 4 (by simp))).resolve_left (by decide)
    exact wp_value (ox_add1 ho hc f52 (by omega)) (hK _ _ (.inr rfl) hinv')
  have s6 : ∀ o, ops[6]? = some o → Step Try.prog ops (fun i' v => i' = 21 ∨ v = v9 b off n c j kk ka kb G w0.heap.size g s i') (fun l W => I9 w0.drew #[.int .i64 1, .int .i64 (1 + (ka : Int)), .int .i64 (1 + (kb : Int)), .int .i64 (j : Int), .int .i64 0, .int .i64 0, .int .i64 (1 + (G : Int)), .bool s, .int .i64 0, .int .i64 0, .int .i64 0, .int .i64 0, .slice none 0 0] (l.getD 20 false) (l.getD 21 false) W) a0 Q 6 o := by
    refine E6.step fun o hd ho hg hw => ?_
    intro y w listed hsz hls hun hwt hdown D' R hinv K hK
    refine .inl ⟨wanted_none hg, ?_⟩
    have hinv' : (fun l W => I9 w0.drew #[.int .i64 1, .int .i64 (1 + (ka : Int)), .int .i64 (1 + (kb : Int)), .int .i64 (j : Int), .int .i64 0, .int .i64 0, .int .i64 (1 + (G : Int)), .bool s, .int .i64 0, .int .i64 0, .int .i64 0, .int .i64 0, .slice none 0 0] (l.getD 20 false) (l.getD 21 false) W) (listed.setIfInBounds 6 true) w := by
      show I9 _ _ _ _ _
      rw [getD_ne (by decide), getD_ne (by decide)]
      exact hinv
    have f7 : y.eval (Operand.tmp 7) = .int .i64 (j : Int) := (R 7 (not_of (by rw [hds]; decide))).trans h7
    exact wp_value (ox_move ho f7) (hK _ _ (.inr rfl) hinv')
  have s7 : ∀ o, ops[7]? = some o → Step Try.prog ops (fun i' v => i' = 21 ∨ v = v9 b off n c j kk ka kb G w0.heap.size g s i') (fun l W => I9 w0.drew #[.int .i64 1, .int .i64 (1 + (ka : Int)), .int .i64 (1 + (kb : Int)), .int .i64 (j : Int), .int .i64 0, .int .i64 0, .int .i64 (1 + (G : Int)), .bool s, .int .i64 0, .int .i64 0, .int .i64 0, .int .i64 0, .slice none 0 0] (l.getD 20 false) (l.getD 21 false) W) a0 Q 7 o := by
    refine E7.step fun o hd ho hg hw => ?_
    intro y w listed hsz hls hun hwt hdown D' R hinv K hK
    refine .inl ⟨wanted_none hg, ?_⟩
    have hinv' : (fun l W => I9 w0.drew #[.int .i64 1, .int .i64 (1 + (ka : Int)), .int .i64 (1 + (kb : Int)), .int .i64 (j : Int), .int .i64 0, .int .i64 0, .int .i64 (1 + (G : Int)), .bool s, .int .i64 0, .int .i64 0, .int .i64 0, .int .i64 0, .slice none 0 0] (l.getD 20 false) (l.getD 21 false) W) (listed.setIfInBounds 7 true) w := by
      show I9 _ _ _ _ _
      rw [getD_ne (by decide), getD_ne (by decide)]
      exact hinv
    have f0 : y.eval (Operand.tmp 0) = .slice (some ⟨b, off, none⟩) n c := (R 0 (not_of (by rw [hds]; decide))).trans h0
    exact wp_value (ox_move ho f0) (hK _ _ (.inr rfl) hinv')
  have s8 : ∀ o, ops[8]? = some o → Step Try.prog ops (fun i' v => i' = 21 ∨ v = v9 b off n c j kk ka kb G w0.heap.size g s i') (fun l W => I9 w0.drew #[.int .i64 1, .int .i64 (1 + (ka : Int)), .int .i64 (1 + (kb : Int)), .int .i64 (j : Int), .int .i64 0, .int .i64 0, .int .i64 (1 + (G : Int)), .bool s, .int .i64 0, .int .i64 0, .int .i64 0, .int .i64 0, .slice none 0 0] (l.getD 20 false) (l.getD 21 false) W) a0 Q 8 o := by
    refine E8.step fun o hd ho hg hw => ?_
    intro y w listed hsz hls hun hwt hdown D' R hinv K hK
    refine .inl ⟨wanted_none hg, ?_⟩
    have hinv' : (fun l W => I9 w0.drew #[.int .i64 1, .int .i64 (1 + (ka : Int)), .int .i64 (1 + (kb : Int)), .int .i64 (j : Int), .int .i64 0, .int .i64 0, .int .i64 (1 + (G : Int)), .bool s, .int .i64 0, .int .i64 0, .int .i64 0, .int .i64 0, .slice none 0 0] (l.getD 20 false) (l.getD 21 false) W) (listed.setIfInBounds 8 true) w := by
      show I9 _ _ _ _ _
      rw [getD_ne (by decide), getD_ne (by decide)]
      exact hinv
    have f7 : y.eval (Operand.tmp 7) = .int .i64 (j : Int) := (R 7 (not_of (by rw [hds]; decide))).trans h7
    exact wp_value (ox_move ho f7) (hK _ _ (.inr rfl) hinv')
  have s9 : ∀ o, ops[9]? = some o → Step Try.prog ops (fun i' v => i' = 21 ∨ v = v9 b off n c j kk ka kb G w0.heap.size g s i') (fun l W => I9 w0.drew #[.int .i64 1, .int .i64 (1 + (ka : Int)), .int .i64 (1 + (kb : Int)), .int .i64 (j : Int), .int .i64 0, .int .i64 0, .int .i64 (1 + (G : Int)), .bool s, .int .i64 0, .int .i64 0, .int .i64 0, .int .i64 0, .slice none 0 0] (l.getD 20 false) (l.getD 21 false) W) a0 Q 9 o := by
    refine E9.step fun o hd ho hg hw => ?_
    intro y w listed hsz hls hun hwt hdown D' R hinv K hK
    refine .inl ⟨wanted_none hg, ?_⟩
    have hinv' : (fun l W => I9 w0.drew #[.int .i64 1, .int .i64 (1 + (ka : Int)), .int .i64 (1 + (kb : Int)), .int .i64 (j : Int), .int .i64 0, .int .i64 0, .int .i64 (1 + (G : Int)), .bool s, .int .i64 0, .int .i64 0, .int .i64 0, .int .i64 0, .slice none 0 0] (l.getD 20 false) (l.getD 21 false) W) (listed.setIfInBounds 9 true) w := by
      show I9 _ _ _ _ _
      rw [getD_ne (by decide), getD_ne (by decide)]
      exact hinv
    have f55 : y.eval (Operand.tmp 55) = .slice (some ⟨b, off, none⟩) n c := (E7.post (Post := (fun i' v => i' = 21 ∨ v = v9 b off n c j kk ka kb G w0.heap.size g s i')) (a := y) D' (hw 7 (by simp))).resolve_left (by decide)
    have f56 : y.eval (Operand.tmp 56) = .int .i64 (j : Int) := (E8.post (Post := (fun i' v => i' = 21 ∨ v = v9 b off n c j kk ka kb G w0.heap.size g s i')) (a := y) D' (hw 8 (by simp))).resolve_left (by decide)
    exact wp_value (ox_index ho f55 f56 (idx w)) (hK _ _ (.inr rfl) hinv')
  have s10 : ∀ o, ops[10]? = some o → Step Try.prog ops (fun i' v => i' = 21 ∨ v = v9 b off n c j kk ka kb G w0.heap.size g s i') (fun l W => I9 w0.drew #[.int .i64 1, .int .i64 (1 + (ka : Int)), .int .i64 (1 + (kb : Int)), .int .i64 (j : Int), .int .i64 0, .int .i64 0, .int .i64 (1 + (G : Int)), .bool s, .int .i64 0, .int .i64 0, .int .i64 0, .int .i64 0, .slice none 0 0] (l.getD 20 false) (l.getD 21 false) W) a0 Q 10 o := by
    refine E10.step fun o hd ho hg hw => ?_
    intro y w listed hsz hls hun hwt hdown D' R hinv K hK
    refine .inl ⟨wanted_none hg, ?_⟩
    have hinv' : (fun l W => I9 w0.drew #[.int .i64 1, .int .i64 (1 + (ka : Int)), .int .i64 (1 + (kb : Int)), .int .i64 (j : Int), .int .i64 0, .int .i64 0, .int .i64 (1 + (G : Int)), .bool s, .int .i64 0, .int .i64 0, .int .i64 0, .int .i64 0, .slice none 0 0] (l.getD 20 false) (l.getD 21 false) W) (listed.setIfInBounds 10 true) w := by
      show I9 _ _ _ _ _
      rw [getD_ne (by decide), getD_ne (by decide)]
      exact hinv
    have f57 : y.eval (Operand.tmp 57) = .pointer (some ⟨b, off + j * 5, none⟩) := (E9.post (Post := (fun i' v => i' = 21 ∨ v = v9 b off n c j kk ka kb G w0.heap.size g s i')) (a := y) D' (hw 9 (by simp))).resolve_left (by decide)
    exact wp_value (ox_field ho f57 (fld2 w)) (hK _ _ (.inr rfl) hinv')
  have s11 : ∀ o, ops[11]? = some o → Step Try.prog ops (fun i' v => i' = 21 ∨ v = v9 b off n c j kk ka kb G w0.heap.size g s i') (fun l W => I9 w0.drew #[.int .i64 1, .int .i64 (1 + (ka : Int)), .int .i64 (1 + (kb : Int)), .int .i64 (j : Int), .int .i64 0, .int .i64 0, .int .i64 (1 + (G : Int)), .bool s, .int .i64 0, .int .i64 0, .int .i64 0, .int .i64 0, .slice none 0 0] (l.getD 20 false) (l.getD 21 false) W) a0 Q 11 o := by
    refine E11.step fun o hd ho hg hw => ?_
    intro y w listed hsz hls hun hwt hdown D' R hinv K hK
    refine .inl ⟨wanted_none hg, ?_⟩
    have hinv' : (fun l W => I9 w0.drew #[.int .i64 1, .int .i64 (1 + (ka : Int)), .int .i64 (1 + (kb : Int)), .int .i64 (j : Int), .int .i64 0, .int .i64 0, .int .i64 (1 + (G : Int)), .bool s, .int .i64 0, .int .i64 0, .int .i64 0, .int .i64 0, .slice none 0 0] (l.getD 20 false) (l.getD 21 false) W) (listed.setIfInBounds 11 true) w := by
      show I9 _ _ _ _ _
      rw [getD_ne (by decide), getD_ne (by decide)]
      exact hinv
    have f58 : y.eval (Operand.tmp 58) = .pointer (some ⟨b, off + j * 5 + 2, none⟩) := (E10.post (Post := (fun i' v => i' = 21 ∨ v = v9 b off n c j kk ka kb G w0.heap.size g s i')) (a := y) D' (hw 10 (by simp))).resolve_left (by decide)
    exact wp_value (ox_load ho f58 (ld2 w (DD (I9.mod hinv) c2))) (hK _ _ (.inr rfl) hinv')
  have s12 : ∀ o, ops[12]? = some o → Step Try.prog ops (fun i' v => i' = 21 ∨ v = v9 b off n c j kk ka kb G w0.heap.size g s i') (fun l W => I9 w0.drew #[.int .i64 1, .int .i64 (1 + (ka : Int)), .int .i64 (1 + (kb : Int)), .int .i64 (j : Int), .int .i64 0, .int .i64 0, .int .i64 (1 + (G : Int)), .bool s, .int .i64 0, .int .i64 0, .int .i64 0, .int .i64 0, .slice none 0 0] (l.getD 20 false) (l.getD 21 false) W) a0 Q 12 o := by
    refine E12.step fun o hd ho hg hw => ?_
    intro y w listed hsz hls hun hwt hdown D' R hinv K hK
    refine .inl ⟨wanted_none hg, ?_⟩
    have hinv' : (fun l W => I9 w0.drew #[.int .i64 1, .int .i64 (1 + (ka : Int)), .int .i64 (1 + (kb : Int)), .int .i64 (j : Int), .int .i64 0, .int .i64 0, .int .i64 (1 + (G : Int)), .bool s, .int .i64 0, .int .i64 0, .int .i64 0, .int .i64 0, .slice none 0 0] (l.getD 20 false) (l.getD 21 false) W) (listed.setIfInBounds 12 true) w := by
      show I9 _ _ _ _ _
      rw [getD_ne (by decide), getD_ne (by decide)]
      exact hinv
    have f59 : y.eval (Operand.tmp 59) = .int .i64 g := (E11.post (Post := (fun i' v => i' = 21 ∨ v = v9 b off n c j kk ka kb G w0.heap.size g s i')) (a := y) D' (hw 11 (by simp))).resolve_left (by decide)
    refine wp_enter (f := 22) (args := #[.int .i64 g, .int .i64 255]) ?_ (HB w) ?_
    · rw [exec_call2 y.eval (fun args w => by simp [go_sem]) rfl ho, f59]; rfl
    · rintro e w' ⟨rfl, rfl⟩
      exact ⟨_, rfl, hK _ _ (.inr rfl) hinv'⟩
  have s13 : ∀ o, ops[13]? = some o → Step Try.prog ops (fun i' v => i' = 21 ∨ v = v9 b off n c j kk ka kb G w0.heap.size g s i') (fun l W => I9 w0.drew #[.int .i64 1, .int .i64 (1 + (ka : Int)), .int .i64 (1 + (kb : Int)), .int .i64 (j : Int), .int .i64 0, .int .i64 0, .int .i64 (1 + (G : Int)), .bool s, .int .i64 0, .int .i64 0, .int .i64 0, .int .i64 0, .slice none 0 0] (l.getD 20 false) (l.getD 21 false) W) a0 Q 13 o := by
    refine E13.step fun o hd ho hg hw => ?_
    intro y w listed hsz hls hun hwt hdown D' R hinv K hK
    refine .inl ⟨wanted_none hg, ?_⟩
    have hc : ∀ v, y.eval (.const v) = v := fun _ => rfl
    have hinv' : (fun l W => I9 w0.drew #[.int .i64 1, .int .i64 (1 + (ka : Int)), .int .i64 (1 + (kb : Int)), .int .i64 (j : Int), .int .i64 0, .int .i64 0, .int .i64 (1 + (G : Int)), .bool s, .int .i64 0, .int .i64 0, .int .i64 0, .int .i64 0, .slice none 0 0] (l.getD 20 false) (l.getD 21 false) W) (listed.setIfInBounds 13 true) w := by
      show I9 _ _ _ _ _
      rw [getD_ne (by decide), getD_ne (by decide)]
      exact hinv
    have f60 : y.eval (Operand.tmp 60) = .int .i64 (G : Int) := (E12.post (Post := (fun i' v => i' = 21 ∨ v = v9 b off n c j kk ka kb G w0.heap.size g s i')) (a := y) D' (hw 12 (by simp))).resolve_left (by decide)
    exact wp_value (ox_add1 ho hc f60 (by omega)) (hK _ _ (.inr rfl) hinv')
  have s14 : ∀ o, ops[14]? = some o → Step Try.prog ops (fun i' v => i' = 21 ∨ v = v9 b off n c j kk ka kb G w0.heap.size g s i') (fun l W => I9 w0.drew #[.int .i64 1, .int .i64 (1 + (ka : Int)), .int .i64 (1 + (kb : Int)), .int .i64 (j : Int), .int .i64 0, .int .i64 0, .int .i64 (1 + (G : Int)), .bool s, .int .i64 0, .int .i64 0, .int .i64 0, .int .i64 0, .slice none 0 0] (l.getD 20 false) (l.getD 21 false) W) a0 Q 14 o := by
    refine E14.step fun o hd ho hg hw => ?_
    intro y w listed hsz hls hun hwt hdown D' R hinv K hK
    refine .inl ⟨wanted_none hg, ?_⟩
    have hinv' : (fun l W => I9 w0.drew #[.int .i64 1, .int .i64 (1 + (ka : Int)), .int .i64 (1 + (kb : Int)), .int .i64 (j : Int), .int .i64 0, .int .i64 0, .int .i64 (1 + (G : Int)), .bool s, .int .i64 0, .int .i64 0, .int .i64 0, .int .i64 0, .slice none 0 0] (l.getD 20 false) (l.getD 21 false) W) (listed.setIfInBounds 14 true) w := by
      show I9 _ _ _ _ _
      rw [getD_ne (by decide), getD_ne (by decide)]
      exact hinv
    have f0 : y.eval (Operand.tmp 0) = .slice (some ⟨b, off, none⟩) n c := (R 0 (not_of (by rw [hds]; decide))).trans h0
    exact wp_value (ox_move ho f0) (hK _ _ (.inr rfl) hinv')
  have s15 : ∀ o, ops[15]? = some o → Step Try.prog ops (fun i' v => i' = 21 ∨ v = v9 b off n c j kk ka kb G w0.heap.size g s i') (fun l W => I9 w0.drew #[.int .i64 1, .int .i64 (1 + (ka : Int)), .int .i64 (1 + (kb : Int)), .int .i64 (j : Int), .int .i64 0, .int .i64 0, .int .i64 (1 + (G : Int)), .bool s, .int .i64 0, .int .i64 0, .int .i64 0, .int .i64 0, .slice none 0 0] (l.getD 20 false) (l.getD 21 false) W) a0 Q 15 o := by
    refine E15.step fun o hd ho hg hw => ?_
    intro y w listed hsz hls hun hwt hdown D' R hinv K hK
    refine .inl ⟨wanted_none hg, ?_⟩
    have hinv' : (fun l W => I9 w0.drew #[.int .i64 1, .int .i64 (1 + (ka : Int)), .int .i64 (1 + (kb : Int)), .int .i64 (j : Int), .int .i64 0, .int .i64 0, .int .i64 (1 + (G : Int)), .bool s, .int .i64 0, .int .i64 0, .int .i64 0, .int .i64 0, .slice none 0 0] (l.getD 20 false) (l.getD 21 false) W) (listed.setIfInBounds 15 true) w := by
      show I9 _ _ _ _ _
      rw [getD_ne (by decide), getD_ne (by decide)]
      exact hinv
    have f7 : y.eval (Operand.tmp 7) = .int .i64 (j : Int) := (R 7 (not_of (by rw [hds]; decide))).trans h7
    exact wp_value (ox_move ho f7) (hK _ _ (.inr rfl) hinv')
  have s16 : ∀ o, ops[16]? = some o → Step Try.prog ops (fun i' v => i' = 21 ∨ v = v9 b off n c j kk ka kb G w0.heap.size g s i') (fun l W => I9 w0.drew #[.int .i64 1, .int .i64 (1 + (ka : Int)), .int .i64 (1 + (kb : Int)), .int .i64 (j : Int), .int .i64 0, .int .i64 0, .int .i64 (1 + (G : Int)), .bool s, .int .i64 0, .int .i64 0, .int .i64 0, .int .i64 0, .slice none 0 0] (l.getD 20 false) (l.getD 21 false) W) a0 Q 16 o := by
    refine E16.step fun o hd ho hg hw => ?_
    intro y w listed hsz hls hun hwt hdown D' R hinv K hK
    refine .inl ⟨wanted_none hg, ?_⟩
    have hinv' : (fun l W => I9 w0.drew #[.int .i64 1, .int .i64 (1 + (ka : Int)), .int .i64 (1 + (kb : Int)), .int .i64 (j : Int), .int .i64 0, .int .i64 0, .int .i64 (1 + (G : Int)), .bool s, .int .i64 0, .int .i64 0, .int .i64 0, .int .i64 0, .slice none 0 0] (l.getD 20 false) (l.getD 21 false) W) (listed.setIfInBounds 16 true) w := by
      show I9 _ _ _ _ _
      rw [getD_ne (by decide), getD_ne (by decide)]
      exact hinv
    have f62 : y.eval (Operand.tmp 62) = .slice (some ⟨b, off, none⟩) n c := (E14.post (Post := (fun i' v => i' = 21 ∨ v = v9 b off n c j kk ka kb G w0.heap.size g s i')) (a := y) D' (hw 14 (by simp))).resolve_left (by decide)
    have f63 : y.eval (Operand.tmp 63) = .int .i64 (j : Int) := (E15.post (Post := (fun i' v => i' = 21 ∨ v = v9 b off n c j kk ka kb G w0.heap.size g s i')) (a := y) D' (hw 15 (by simp))).resolve_left (by decide)
    exact wp_value (ox_index ho f62 f63 (idx w)) (hK _ _ (.inr rfl) hinv')
  have s17 : ∀ o, ops[17]? = some o → Step Try.prog ops (fun i' v => i' = 21 ∨ v = v9 b off n c j kk ka kb G w0.heap.size g s i') (fun l W => I9 w0.drew #[.int .i64 1, .int .i64 (1 + (ka : Int)), .int .i64 (1 + (kb : Int)), .int .i64 (j : Int), .int .i64 0, .int .i64 0, .int .i64 (1 + (G : Int)), .bool s, .int .i64 0, .int .i64 0, .int .i64 0, .int .i64 0, .slice none 0 0] (l.getD 20 false) (l.getD 21 false) W) a0 Q 17 o := by
    refine E17.step fun o hd ho hg hw => ?_
    intro y w listed hsz hls hun hwt hdown D' R hinv K hK
    refine .inl ⟨wanted_none hg, ?_⟩
    have hinv' : (fun l W => I9 w0.drew #[.int .i64 1, .int .i64 (1 + (ka : Int)), .int .i64 (1 + (kb : Int)), .int .i64 (j : Int), .int .i64 0, .int .i64 0, .int .i64 (1 + (G : Int)), .bool s, .int .i64 0, .int .i64 0, .int .i64 0, .int .i64 0, .slice none 0 0] (l.getD 20 false) (l.getD 21 false) W) (listed.setIfInBounds 17 true) w := by
      show I9 _ _ _ _ _
      rw [getD_ne (by decide), getD_ne (by decide)]
      exact hinv
    have f64 : y.eval (Operand.tmp 64) = .pointer (some ⟨b, off + j * 5, none⟩) := (E16.post (Post := (fun i' v => i' = 21 ∨ v = v9 b off n c j kk ka kb G w0.heap.size g s i')) (a := y) D' (hw 16 (by simp))).resolve_left (by decide)
    exact wp_value (ox_field ho f64 (fld3 w)) (hK _ _ (.inr rfl) hinv')
  have s18 : ∀ o, ops[18]? = some o → Step Try.prog ops (fun i' v => i' = 21 ∨ v = v9 b off n c j kk ka kb G w0.heap.size g s i') (fun l W => I9 w0.drew #[.int .i64 1, .int .i64 (1 + (ka : Int)), .int .i64 (1 + (kb : Int)), .int .i64 (j : Int), .int .i64 0, .int .i64 0, .int .i64 (1 + (G : Int)), .bool s, .int .i64 0, .int .i64 0, .int .i64 0, .int .i64 0, .slice none 0 0] (l.getD 20 false) (l.getD 21 false) W) a0 Q 18 o := by
    refine E18.step fun o hd ho hg hw => ?_
    intro y w listed hsz hls hun hwt hdown D' R hinv K hK
    refine .inl ⟨wanted_none hg, ?_⟩
    have hinv' : (fun l W => I9 w0.drew #[.int .i64 1, .int .i64 (1 + (ka : Int)), .int .i64 (1 + (kb : Int)), .int .i64 (j : Int), .int .i64 0, .int .i64 0, .int .i64 (1 + (G : Int)), .bool s, .int .i64 0, .int .i64 0, .int .i64 0, .int .i64 0, .slice none 0 0] (l.getD 20 false) (l.getD 21 false) W) (listed.setIfInBounds 18 true) w := by
      show I9 _ _ _ _ _
      rw [getD_ne (by decide), getD_ne (by decide)]
      exact hinv
    have f65 : y.eval (Operand.tmp 65) = .pointer (some ⟨b, off + j * 5 + 3, none⟩) := (E17.post (Post := (fun i' v => i' = 21 ∨ v = v9 b off n c j kk ka kb G w0.heap.size g s i')) (a := y) D' (hw 17 (by simp))).resolve_left (by decide)
    exact wp_value (ox_load ho f65 (ld3 w (DD (I9.mod hinv) c3))) (hK _ _ (.inr rfl) hinv')
  have s19 : ∀ o, ops[19]? = some o → Step Try.prog ops (fun i' v => i' = 21 ∨ v = v9 b off n c j kk ka kb G w0.heap.size g s i') (fun l W => I9 w0.drew #[.int .i64 1, .int .i64 (1 + (ka : Int)), .int .i64 (1 + (kb : Int)), .int .i64 (j : Int), .int .i64 0, .int .i64 0, .int .i64 (1 + (G : Int)), .bool s, .int .i64 0, .int .i64 0, .int .i64 0, .int .i64 0, .slice none 0 0] (l.getD 20 false) (l.getD 21 false) W) a0 Q 19 o := by
    refine E19.step fun o hd ho hg hw => ?_
    intro y w listed hsz hls hun hwt hdown D' R hinv K hK
    refine .inl ⟨wanted_none hg, ?_⟩
    have hc : ∀ v, y.eval (.const v) = v := fun _ => rfl
    have hinv' : (fun l W => I9 w0.drew #[.int .i64 1, .int .i64 (1 + (ka : Int)), .int .i64 (1 + (kb : Int)), .int .i64 (j : Int), .int .i64 0, .int .i64 0, .int .i64 (1 + (G : Int)), .bool s, .int .i64 0, .int .i64 0, .int .i64 0, .int .i64 0, .slice none 0 0] (l.getD 20 false) (l.getD 21 false) W) (listed.setIfInBounds 19 true) w := by
      show I9 _ _ _ _ _
      rw [getD_ne (by decide), getD_ne (by decide)]
      exact hinv
    have f50 : y.eval (Operand.tmp 50) = .int .i64 (1 + (ka : Int)) := (E2.post (Post := (fun i' v => i' = 21 ∨ v = v9 b off n c j kk ka kb G w0.heap.size g s i')) (a := y) D' (hw 2 (by simp))).resolve_left (by decide)
    have f53 : y.eval (Operand.tmp 53) = .int .i64 (1 + (kb : Int)) := (E5.post (Post := (fun i' v => i' = 21 ∨ v = v9 b off n c j kk ka kb G w0.heap.size g s i')) (a := y) D' (hw 5 (by simp))).resolve_left (by decide)
    have f54 : y.eval (Operand.tmp 54) = .int .i64 (j : Int) := (E6.post (Post := (fun i' v => i' = 21 ∨ v = v9 b off n c j kk ka kb G w0.heap.size g s i')) (a := y) D' (hw 6 (by simp))).resolve_left (by decide)
    have f61 : y.eval (Operand.tmp 61) = .int .i64 (1 + (G : Int)) := (E13.post (Post := (fun i' v => i' = 21 ∨ v = v9 b off n c j kk ka kb G w0.heap.size g s i')) (a := y) D' (hw 13 (by simp))).resolve_left (by decide)
    have f66 : y.eval (Operand.tmp 66) = .bool s := (E18.post (Post := (fun i' v => i' = 21 ∨ v = v9 b off n c j kk ka kb G w0.heap.size g s i')) (a := y) D' (hw 18 (by simp))).resolve_left (by decide)
    exact wp_value (ox_bld ho (cells := #[.int .i64 1, .int .i64 (1 + (ka : Int)), .int .i64 (1 + (kb : Int)), .int .i64 (j : Int), .int .i64 0, .int .i64 0, .int .i64 (1 + (G : Int)), .bool s, .int .i64 0, .int .i64 0, .int .i64 0, .int .i64 0, .slice none 0 0]) (by simp only [List.map_toArray, List.map_cons, List.map_nil, hc, f50, f53, f54, f61, f66]; rfl)) (hK _ _ (.inr rfl) hinv')
  have s20 : ∀ o, ops[20]? = some o → Step Try.prog ops (fun i' v => i' = 21 ∨ v = v9 b off n c j kk ka kb G w0.heap.size g s i') (fun l W => I9 w0.drew #[.int .i64 1, .int .i64 (1 + (ka : Int)), .int .i64 (1 + (kb : Int)), .int .i64 (j : Int), .int .i64 0, .int .i64 0, .int .i64 (1 + (G : Int)), .bool s, .int .i64 0, .int .i64 0, .int .i64 0, .int .i64 0, .slice none 0 0] (l.getD 20 false) (l.getD 21 false) W) a0 Q 20 o := by
    refine E20.step fun o hd ho hg hw => ?_
    intro y w listed hsz hls hun hwt hdown D' R hinv K hK
    refine .inl ⟨wanted_none hg, ?_⟩
    have h21 : listed.getD 21 false = false := E21.down hdown (j := 20) (by simp) hun
    have hw0 : w = w0.drew := by
      have h : I9 _ _ _ _ w := hinv
      rw [h21, hun] at h
      exact h
    subst hw0
    refine wp_value (ox_allocM ho) (hK _ _ (.inr rfl) ?_)
    show I9 _ _ _ _ _
    rw [getD_ne (i := 20) (t := 21) (by decide), h21, getD_set (by rw [hls, hN]; decide), if_pos rfl]
    rfl
  have s21 : ∀ o, ops[21]? = some o → Step Try.prog ops (fun i' v => i' = 21 ∨ v = v9 b off n c j kk ka kb G w0.heap.size g s i') (fun l W => I9 w0.drew #[.int .i64 1, .int .i64 (1 + (ka : Int)), .int .i64 (1 + (kb : Int)), .int .i64 (j : Int), .int .i64 0, .int .i64 0, .int .i64 (1 + (G : Int)), .bool s, .int .i64 0, .int .i64 0, .int .i64 0, .int .i64 0, .slice none 0 0] (l.getD 20 false) (l.getD 21 false) W) a0 Q 21 o := by
    refine E21.step fun o hd ho hg hw => ?_
    intro y w listed hsz hls hun hwt hdown D' R hinv K hK
    refine .inl ⟨wanted_none hg, ?_⟩
    have f9 : y.eval (Operand.tmp 9) = .pointer (some ⟨w0.heap.size, 0, none⟩) := (E20.post (Post := (fun i' v => i' = 21 ∨ v = v9 b off n c j kk ka kb G w0.heap.size g s i')) (a := y) D' (hw 20 (by simp))).resolve_left (by decide)
    have f67 : y.eval (Operand.tmp 67) = .agg #[.int .i64 1, .int .i64 (1 + (ka : Int)), .int .i64 (1 + (kb : Int)), .int .i64 (j : Int), .int .i64 0, .int .i64 0, .int .i64 (1 + (G : Int)), .bool s, .int .i64 0, .int .i64 0, .int .i64 0, .int .i64 0, .slice none 0 0] := (E19.post (Post := (fun i' v => i' = 21 ∨ v = v9 b off n c j kk ka kb G w0.heap.size g s i')) (a := y) D' (hw 19 (by simp))).resolve_left (by decide)
    have h20 := hwt 20 (hw 20 (by simp))
    have hw0 : w = w0.drew.alloc (.cells #[.int .i64 0, .int .i64 0, .int .i64 0, .int .i64 0, .int .i64 0, .int .i64 0, .int .i64 0, .bool false, .int .i64 0, .int .i64 0, .int .i64 0, .int .i64 0, .slice none 0 0] 28) := by
      have h : I9 _ _ _ _ w := hinv
      rw [h20, hun] at h
      exact h
    subst hw0
    have hB := Bk.new w0.drew #[.int .i64 0, .int .i64 0, .int .i64 0, .int .i64 0, .int .i64 0, .int .i64 0, .int .i64 0, .bool false, .int .i64 0, .int .i64 0, .int .i64 0, .int .i64 0, .slice none 0 0] 28
    refine wp_store_mid (P := Try.prog) 28 _ _ ho w0.heap.size 0 #[.int .i64 1, .int .i64 (1 + (ka : Int)), .int .i64 (1 + (kb : Int)), .int .i64 (j : Int), .int .i64 0, .int .i64 0, .int .i64 (1 + (G : Int)), .bool s, .int .i64 0, .int .i64 0, .int .i64 0, .int .i64 0, .slice none 0 0] f9 f67 (hB.there (by show 0 + 13 ≤ 13; omega)) (by rw [infoM9]; rfl) (by rw [← Array.all_toList]; rfl) (hK _ _ (.inl rfl) ?_)
    show I9 _ _ _ _ _
    rw [getD_ne (i := 21) (t := 20) (by decide), h20, getD_set (by rw [hls, hN]; decide), if_pos rfl]
    exact ⟨hB.whole _ rfl, ((Mod.refl (fun _ => False) w0.drew).alloc _).trans (setCells_mod _ _ _ _) (fun _ _ h => h) (fun i hi e => by have : w0.drew.heap.size = w0.heap.size := rfl; omega)⟩
  refine region_free (Post := (fun i' v => i' = 21 ∨ v = v9 b off n c j kk ka kb G w0.heap.size g s i')) (Inv := (fun l W => I9 w0.drew #[.int .i64 1, .int .i64 (1 + (ka : Int)), .int .i64 (1 + (kb : Int)), .int .i64 (j : Int), .int .i64 0, .int .i64 0, .int .i64 (1 + (G : Int)), .bool s, .int .i64 0, .int .i64 0, .int .i64 0, .int .i64 0, .slice none 0 0] (l.getD 20 false) (l.getD 21 false) W)) mixed (low_of hlow) (fun i o ho => by rw [ha0]; exact dst_of (by rw [hds]; decide) i o ho) (inj_of hnd) ?_ ?_ ?_
  · show I9 _ _ _ _ _
    rw [hN]
    rfl
  · intro i o ho
    have hi : i < 22 := by
      rw [← hN]
      rcases Nat.lt_or_ge i ops.size with h | h
      · exact h
      · rw [Array.getElem?_eq_none h] at ho; cases ho
    clear hend
    by_cases e0 : i = 0
    · subst e0; exact s0 o ho
    by_cases e1 : i = 1
    · subst e1; exact s1 o ho
    by_cases e2 : i = 2
    · subst e2; exact s2 o ho
    by_cases e3 : i = 3
    · subst e3; exact s3 o ho
    by_cases e4 : i = 4
    · subst e4; exact s4 o ho
    by_cases e5 : i = 5
    · subst e5; exact s5 o ho
    by_cases e6 : i = 6
    · subst e6; exact s6 o ho
    by_cases e7 : i = 7
    · subst e7; exact s7 o ho
    by_cases e8 : i = 8
    · subst e8; exact s8 o ho
    by_cases e9 : i = 9
    · subst e9; exact s9 o ho
    by_cases e10 : i = 10
    · subst e10; exact s10 o ho
    by_cases e11 : i = 11
    · subst e11; exact s11 o ho
    by_cases e12 : i = 12
    · subst e12; exact s12 o ho
    by_cases e13 : i = 13
    · subst e13; exact s13 o ho
    by_cases e14 : i = 14
    · subst e14; exact s14 o ho
    by_cases e15 : i = 15
    · subst e15; exact s15 o ho
    by_cases e16 : i = 16
    · subst e16; exact s16 o ho
    by_cases e17 : i = 17
    · subst e17; exact s17 o ho
    by_cases e18 : i = 18
    · subst e18; exact s18 o ho
    by_cases e19 : i = 19
    · subst e19; exact s19 o ho
    by_cases e20 : i = 20
    · subst e20; exact s20 o ho
    by_cases e21 : i = 21
    · subst e21; exact s21 o ho
    omega
  · intro y w listed hsz hdf hls hall hinv hp hr
    have h21 := hall 21 (by rw [hN]; decide)
    have h9 : I9 _ _ _ _ w := hinv
    rw [h21] at h9
    have e : y = puts a0 [(48, y.tmps.getD 48 undef), (49, y.tmps.getD 49 undef), (50, y.tmps.getD 50 undef), (51, y.tmps.getD 51 undef), (52, y.tmps.getD 52 undef), (53, y.tmps.getD 53 undef), (54, y.tmps.getD 54 undef), (55, y.tmps.getD 55 undef), (56, y.tmps.getD 56 undef), (57, y.tmps.getD 57 undef), (58, y.tmps.getD 58 undef), (59, y.tmps.getD 59 undef), (60, y.tmps.getD 60 undef), (61, y.tmps.getD 61 undef), (62, y.tmps.getD 62 undef), (63, y.tmps.getD 63 undef), (64, y.tmps.getD 64 undef), (65, y.tmps.getD 65 undef), (66, y.tmps.getD 66 undef), (67, y.tmps.getD 67 undef), (9, .pointer (some ⟨w0.heap.size, 0, none⟩))] := by
      refine eq_puts hsz hdf (nodup_of (D := [some 48, some 49, some 50, some 51, some 52, some 53, some 54, some 55, some 56, some 57, some 58, some 59, some 60, some 61, some 62, some 63, some 64, some 65, some 66, some 67, some 9]) rfl (by decide)) (by rw [ha0]; simp) ?_ ?_
      · intro q hq
        simp only [List.mem_cons, List.not_mem_nil, or_false] at hq
        rcases hq with rfl | rfl | rfl | rfl | rfl | rfl | rfl | rfl | rfl | rfl | rfl | rfl | rfl | rfl | rfl | rfl | rfl | rfl | rfl | rfl | rfl
        · rfl
        · rfl
        · rfl
        · rfl
        · rfl
        · rfl
        · rfl
        · rfl
        · rfl
        · rfl
        · rfl
        · rfl
        · rfl
        · rfl
        · rfl
        · rfl
        · rfl
        · rfl
        · rfl
        · rfl
        · obtain ⟨o, h1, h2, _⟩ := E20.ex; exact (hp 20 o _ h1 h2).resolve_left (by decide)
      · intro t ht
        refine hr t (not_of ?_)
        rw [hds]
        simp only [List.mem_cons, List.not_mem_nil, or_false, forall_eq_or_imp, forall_eq] at ht
        simp only [List.contains_cons, List.contains_nil, Bool.or_eq_false_iff, beq_eq_false_iff_ne, ne_eq, Option.some.injEq, Bool.or_false]
        simp only [eq_comm (a := t)]
        simp [ht]
    rw [e]
    exact hend _ _ _ _ _ _ _ _ _ _ _ _ _ _ _ _ _ _ _ _ w h9.1 ((Mod.refl (fun _ => False) w0).drew.trans h9.2 (fun _ _ h => h) (fun _ _ h => h))
end Go.Proofs.Ytifogbhlphofjaa
namespace Go.Proofs.Ytifogbhlphofjaa
open Go.RowKit Go.Maps
theorem sixteen : ∀ k, k < 16 → (#[.slice none 0 0, .slice none 0 0, .slice none 0 0, .slice none 0 0, .slice none 0 0, .slice none 0 0, .slice none 0 0, .slice none 0 0, .slice none 0 0, .slice none 0 0, .slice none 0 0, .slice none 0 0, .slice none 0 0, .slice none 0 0, .slice none 0 0, .slice none 0 0] : Array Value)[k]? = some (.slice none 0 0) := fun k hk => by
  have h : k = 0 ∨ k = 1 ∨ k = 2 ∨ k = 3 ∨ k = 4 ∨ k = 5 ∨ k = 6 ∨ k = 7 ∨ k = 8 ∨ k = 9 ∨ k = 10 ∨ k = 11 ∨ k = 12 ∨ k = 13 ∨ k = 14 ∨ k = 15 := by omega
  rcases h with rfl | rfl | rfl | rfl | rfl | rfl | rfl | rfl | rfl | rfl | rfl | rfl | rfl | rfl | rfl | rfl <;> rfl
theorem Pz.zero (w : World) (xs ys : Array Value) (hx : ∀ k, k < 16 → xs[k]? = some (.slice none 0 0)) (hy : ∀ k, k < 16 → ys[k]? = some (.slice none 0 0)) (hxs : xs.size = 16) (hys : ys.size = 16) : Pz ((w.alloc (.cells xs 50)).alloc (.cells ys 52)) w.heap.size (w.heap.size + 1) (fun b => b = w.heap.size ∨ b = w.heap.size + 1) (fun _ => []) (fun _ => []) (fun _ => .slice none 0 0) (fun _ => .slice none 0 0) := by
  have e1 : (w.alloc (.cells xs 50)).heap.size = w.heap.size + 1 := by simp
  have h2 := Bk.new (w.alloc (.cells xs 50)) ys 52
  rw [e1] at h2
  exact ⟨⟨xs, (Bk.new w xs _).mod ((Mod.refl (fun _ => False) _).alloc _) (fun h => h), hxs, hx⟩, ⟨ys, h2, hys, hy⟩, fun k _ => ⟨[], RG.nil _ _ _, rfl, by simp, by simp [Value.ownBlock]⟩, fun k _ => ⟨[], RG.nil _ _ _, rfl, by simp, by simp [Value.ownBlock]⟩, fun _ _ _ _ _ b hb => by simp [Value.ownBlock] at hb, fun _ _ _ _ _ b hb => by simp [Value.ownBlock] at hb, .inl rfl, .inr rfl, fun b hb => by simp; omega⟩
theorem helM : Try.prog.elem 31 = 28 := by kernel_rfl
theorem helB : Try.prog.elem 51 = 26 := by kernel_rfl
theorem wpList_load_at {ops : Array Oper} {rest : List Oper} {op : Oper} {a : Act} {w : World} {Q : Exit → Act → World → Prop} {t : TypeId} {n : Nat} {d : TypeDesc} (hi : (Try.prog.info? t).map (·.size) = some n) (hu : Try.prog.underlying t = some d) (hd : d.isRow = true) (hgd : op.guard = none) (x : Operand) (ho : op.op = .load t x)
    (b o : Nat) (hx : a.eval x = .pointer (some ⟨b, o, none⟩)) (cs : List Value) (hr : w.rangeAt b o cs) (hl : cs.length = n)
    (h : wpList Try.prog ops Q rest (a.put op.dst (.agg cs.toArray)) w) : wpList Try.prog ops Q (op :: rest) a w :=
  wpList_load_mid (P := Try.prog) (ops := ops) (rest := rest) (Q := Q) hgd t x ho b o hx cs d hr hu hd (by rw [hi, hl]) h
theorem step_c1 {ops : Array Oper} {o : Oper} {a : Act} {w : World} {K : Act → World → Prop} {Q : Exit → Act → World → Prop} {E : Prop} {f : FuncId} {ts : Array TypeId} (hcf : ∀ args w, (callFunc f args).run Try.prog w = .ok (.enter f args) w) (hw : Region.wanted o (yielded ops a.tmps) = true) (x : Operand)
    (ho : o.op = .call { callee := .value (.func f), args := #[x], argTypes := ts }) (hf : a.eval (.func f) = .func (.func f) #[] #[]) (v : Value) (hx : a.eval x = v) (R : Value → World → Prop)
    (HB : Calls Try.prog f #[v] w fun e w' => ∃ r, e = .returned r ∧ R r w') (h : ∀ r w', R r w' → K (a.put o.dst r) w') :
    if Region.wanted o (yielded ops a.tmps) = true then Oper.wp Try.prog o a w K Q else E := by
  rw [if_pos hw]
  refine wp_enter (by rw [exec_call1 a.eval hcf hf ho, hx]) HB ?_
  rintro e w' ⟨r, rfl, hr⟩
  exact ⟨_, rfl, h r w' hr⟩
set_option maxRecDepth 100000 in
set_option maxHeartbeats 16000000 in
theorem back_walk (va vb : Value) (ds : List (St × Value)) (ts : List Int) (w : World) (hD : Sts w va ds) (hT : Si w vb ts) : Calls Try.prog 5 #[va, vb] w fun e w' => e = .returned (.bool true) ∧ Mod (fun _ => False) w w' := by
  have HD : Hid (Sts w va ds) := hD
  have HT : Hid (Si w vb ts) := hT
  obtain ⟨av, cv, rfl, hlen, hfm⟩ := hD.form
  obtain ⟨at', ct, rfl, ht1, ht2, _, _⟩ := hT.form
  have HFM : Hid (ds ≠ [] → ∃ b off, av = some ⟨b, off, none⟩ ∧ ∀ i d, ds[i]? = some d → w.rangeAt b (off + i * 5) (scl d.1 d.2)) := hfm
  clear hD hT hfm
  go_enter Try.func5, Try.ntmps5
  go_wp2_with (fail)
  refine (works_any w).mono ?_
  rintro e w1 ⟨rfl, hm1⟩
  have hP0 := Pz.zero w1 #[.slice none 0 0, .slice none 0 0, .slice none 0 0, .slice none 0 0, .slice none 0 0, .slice none 0 0, .slice none 0 0, .slice none 0 0, .slice none 0 0, .slice none 0 0, .slice none 0 0, .slice none 0 0, .slice none 0 0, .slice none 0 0, .slice none 0 0, .slice none 0 0] #[.slice none 0 0, .slice none 0 0, .slice none 0 0, .slice none 0 0, .slice none 0 0, .slice none 0 0, .slice none 0 0, .slice none 0 0, .slice none 0 0, .slice none 0 0, .slice none 0 0, .slice none 0 0, .slice none 0 0, .slice none 0 0, .slice none 0 0, .slice none 0 0] sixteen sixteen rfl rfl
  have hM0 := (hm1.alloc (.cells #[.slice none 0 0, .slice none 0 0, .slice none 0 0, .slice none 0 0, .slice none 0 0, .slice none 0 0, .slice none 0 0, .slice none 0 0, .slice none 0 0, .slice none 0 0, .slice none 0 0, .slice none 0 0, .slice none 0 0, .slice none 0 0, .slice none 0 0, .slice none 0 0] 50)).alloc (.cells #[.slice none 0 0, .slice none 0 0, .slice none 0 0, .slice none 0 0, .slice none 0 0, .slice none 0 0, .slice none 0 0, .slice none 0 0, .slice none 0 0, .slice none 0 0, .slice none 0 0, .slice none 0 0, .slice none 0 0, .slice none 0 0, .slice none 0 0, .slice none 0 0] 52)
  go_upto_region 5 with (fail)
  generalize (w1.alloc (.cells #[.slice none 0 0, .slice none 0 0, .slice none 0 0, .slice none 0 0, .slice none 0 0, .slice none 0 0, .slice none 0 0, .slice none 0 0, .slice none 0 0, .slice none 0 0, .slice none 0 0, .slice none 0 0, .slice none 0 0, .slice none 0 0, .slice none 0 0, .slice none 0 0] 50)).alloc (.cells #[.slice none 0 0, .slice none 0 0, .slice none 0 0, .slice none 0 0, .slice none 0 0, .slice none 0 0, .slice none 0 0, .slice none 0 0, .slice none 0 0, .slice none 0 0, .slice none 0 0, .slice none 0 0, .slice none 0 0, .slice none 0 0, .slice none 0 0, .slice none 0 0] 52) = w2 at *
  have hF0 : ∀ b, (b = w1.heap.size ∨ b = w1.heap.size + 1) → w.heap.size ≤ b := fun b hb => by have := hm1.size; omega
  generalize w1.heap.size + 1 = wa at *
  generalize w1.heap.size = pa at *
  have HL0 : Hid (Lp w w2 pa wa 0) := ⟨_, _, _, _, _, hP0, fun k _ => ⟨by simp, by simp, [], by simp, by simp, by simp⟩, hF0, hM0⟩
  clear hm1 hP0 hM0 hF0
  go_upto_block 0 with (fail)
  go_cut [] (fun wx => Lp w wx pa wa 40)
  case first =>
    go_wp2_with (fail)
    go_loopw [7] (fun ci wr => ∃ (j : Nat), ci = .int .i64 (j : Int) ∧ j ≤ ds.length ∧ j ≤ 40 ∧ Hid (Lp w wr pa wa j)) (fun ci _ => ds.length - (intOf ci).toNat)
    case atStart => exact ⟨0, rfl, Nat.zero_le _, by decide, HL0⟩
    case round =>
    clear HL0
    obtain ⟨j, rfl, hj, hj40, HL⟩ := hrel
    obtain ⟨wk, ewk⟩ : ∃ wk, wk = wr := ⟨_, rfl⟩
    subst ewk
    by_cases hgo : j < ds.length ∧ j < 40
    · obtain ⟨hjn, hj2⟩ := hgo
      have hjn' : (j : Int) < (ds.length : Int) := by go_light; omega
      have hj2' : (j : Int) < 40 := by go_light; omega
      obtain ⟨F, P, W, V, U, hP, hSf, hF, hMr⟩ := HL.out.ex
      obtain ⟨d, hdj⟩ : ∃ d, ds[j]? = some d := ⟨ds[j], List.getElem?_eq_getElem hjn⟩
      obtain ⟨b, off, rfl, hc⟩ := HFM.out (by intro e; rw [e] at hjn; exact absurd hjn (Nat.not_lt_zero _))
      obtain ⟨hsl, hbl, hio, hil, hig⟩ := HD.out.each d (List.mem_of_getElem? hdj)
      have hrg : ∀ t c, (scl d.1 d.2)[t]? = some c → wk.cell? ⟨b, off + j * 5 + t, none⟩ = some c := fun t c ht => hMr.cell (hc j d hdj t c ht) (fun h => h)
      clear hc hdj HL
      obtain ⟨⟨o, lf, g, s, l⟩, dv⟩ := d
      have c0 : wk.cell? ⟨b, off + j * 5, none⟩ = some (.int .i64 o) := hrg 0 _ rfl
      have c1 : wk.cell? ⟨b, off + j * 5 + 1, none⟩ = some (.int .i64 lf) := hrg 1 _ rfl
      have c2 : wk.cell? ⟨b, off + j * 5 + 2, none⟩ = some (.int .i64 g) := hrg 2 _ rfl
      have c3 : wk.cell? ⟨b, off + j * 5 + 3, none⟩ = some (.bool s) := hrg 3 _ rfl
      replace hsl : Sl w dv l := hsl
      have HSW0 := hsl
      replace hsl : Sl wk dv l := hsl.mod hMr (fun _ _ h => h)
      replace hbl : l.length ≤ 140737488355328 := hbl
      obtain ⟨al, cl, rfl, hlc, hcm, haz, _⟩ := hsl.form
      have c4 : wk.cell? ⟨b, off + j * 5 + 4, none⟩ = some (.slice al l.length cl) := hrg 4 _ rfl
      have HSL : Hid (Sl wk (.slice al l.length cl) l) := hsl
      have HSW : Hid (Sl w (.slice al l.length cl) l) := HSW0
      clear HSW0
      have HP : Hid (Pz wk pa wa F P W V U) := hP
      have HSF : Hid (Sf P W j) := hSf
      have HF : Hid (∀ b, F b → w.heap.size ≤ b) := hF
      have HMR : Hid (Mod (fun _ => False) w wk) := hMr
      clear hP hSf hF hMr hsl
      have hA := br_rng o 8 (by decide)
      have hB := br_rng lf 2 (by decide)
      have e8 : ((8 : Nat) : Int) = 8 := rfl
      have e2 : ((2 : Nat) : Int) = 2 := rfl
      rw [e8] at hA
      rw [e2] at hB
      clear e8 e2
      have HB1 : ∀ W', Calls Try.prog 22 #[.int .i64 o, .int .i64 8] W' fun e w' => e = .returned (.int .i64 (br o 8)) ∧ w' = W' := fun W' => bring o 8 W' (by decide) (by decide) hio
      have HB2 : ∀ W', Calls Try.prog 22 #[.int .i64 lf, .int .i64 2] W' fun e w' => e = .returned (.int .i64 (br lf 2)) ∧ w' = W' := fun W' => bring lf 2 W' (by decide) (by decide) hil
      obtain ⟨A, eA⟩ : ∃ A : Nat, (A : Int) = br o 8 := ⟨(br o 8).toNat, by have := hA.1; omega⟩
      obtain ⟨B, eB⟩ : ∃ B : Nat, (B : Int) = br lf 2 := ⟨(br lf 2).toNat, by have := hB.1; omega⟩
      have hA8 : A < 8 := by have := hA.2.1; omega
      have hB2 : B < 2 := by have := hB.2.1; omega
      rw [← eA] at HB1
      rw [← eB] at HB2
      have hA8' : (A : Int) < 8 := by go_light; omega
      have hB2' : (B : Int) < 2 := by go_light; omega
      clear hA hB eA eB hrg
      obtain ⟨kk, ekk⟩ : ∃ kk, kk = A + 8 * B := ⟨_, rfl⟩
      have hkk : (A : Int) + 8 * (B : Int) = (kk : Int) := by go_light; omega
      have ew1 : IntKind.i64.wrap (8 * (B : Int)) = 8 * (B : Int) := by rw [IntKind.wrap_i64]; go_light; omega
      have ew2 : IntKind.i64.wrap ((A : Int) + 8 * (B : Int)) = (kk : Int) := by rw [IntKind.wrap_i64]; go_light; omega
      have hk16 : kk < 16 := by go_light; omega
      have HKK : Hid ((A : Int) + 8 * (B : Int) = (kk : Int)) := hkk
      have HK16 : Hid (kk < 16) := hk16
      clear hkk ekk hk16 hA8 hB2
      go_upto_region 8 with (fail)
      go_quiet (first | (go_at_call_of 22 o; exact Calls.quiet_of_same (HB1 _)) | (go_at_call_of 22 lf; exact Calls.quiet_of_same (HB2 _)))
      obtain ⟨ka, eka⟩ : ∃ ka, ka = kk % 8 := ⟨_, rfl⟩
      obtain ⟨kb, ekb⟩ : ∃ kb, kb = kk / 8 := ⟨_, rfl⟩
      have hG := br_rng g 255 (by decide)
      have e255 : ((255 : Nat) : Int) = 255 := rfl
      rw [e255] at hG
      have HB3 : ∀ W', Calls Try.prog 22 #[.int .i64 g, .int .i64 255] W' fun e w' => e = .returned (.int .i64 (br g 255)) ∧ w' = W' := fun W' => bring g 255 W' (by decide) (by decide) hig
      obtain ⟨G, eG⟩ : ∃ G : Nat, (G : Int) = br g 255 := ⟨(br g 255).toNat, by have := hG.1; omega⟩
      have hG255 : G < 255 := by have := hG.2.1; omega
      rw [← eG] at HB3
      have HB3' : Hid (∀ W', Calls Try.prog 22 #[.int .i64 g, .int .i64 255] W' fun e w' => e = .returned (.int .i64 (G : Int)) ∧ w' = W') := HB3
      have HKA : Hid (ka = kk % 8 ∧ kb = kk / 8 ∧ G < 255) := ⟨eka, ekb, hG255⟩
      clear eka ekb eG hG e255 HB1 HB2 HB3 ew1 ew2 c0 c1 hG255
      go_upto_region 9 with (fail)
      have hM8 := (Mod.refl (fun _ => False) wk).drewN nq
      have HC2 := hM8.cell c2 (fun h => h)
      have HC3 := hM8.cell c3 (fun h => h)
      have c4' := hM8.cell c4 (fun h => h)
      have HM8 : Hid (Mod (fun _ => False) wk (wk.drewN nq)) := hM8
      clear c2 c3 c4 hM8
      generalize wk.drewN nq = W8 at *
      go_cut [9] (fun v wx => C9 W8 wx v #[.int .i64 1, .int .i64 (1 + (ka : Int)), .int .i64 (1 + (kb : Int)), .int .i64 (j : Int), .int .i64 0, .int .i64 0, .int .i64 (1 + (G : Int)), .bool s, .int .i64 0, .int .i64 0, .int .i64 0, .int .i64 0, .slice none 0 0])
      case first =>
        refine region9 b off ds.length cv j kk ka kb G g s ⟨⟨_, rfl, rfl, rfl, rfl, by decide +kernel⟩⟩ ⟨⟨_, rfl, rfl, rfl, rfl, by decide +kernel⟩⟩ ⟨⟨_, rfl, rfl, rfl, rfl, by decide +kernel⟩⟩ ⟨⟨_, rfl, rfl, rfl, rfl, by decide +kernel⟩⟩ ⟨⟨_, rfl, rfl, rfl, rfl, by decide +kernel⟩⟩ ⟨⟨_, rfl, rfl, rfl, rfl, by decide +kernel⟩⟩ ⟨⟨_, rfl, rfl, rfl, rfl, by decide +kernel⟩⟩ ⟨⟨_, rfl, rfl, rfl, rfl, by decide +kernel⟩⟩ ⟨⟨_, rfl, rfl, rfl, rfl, by decide +kernel⟩⟩ ⟨⟨_, rfl, rfl, rfl, rfl, by decide +kernel⟩⟩ ⟨⟨_, rfl, rfl, rfl, rfl, by decide +kernel⟩⟩ ⟨⟨_, rfl, rfl, rfl, rfl, by decide +kernel⟩⟩ ⟨⟨_, rfl, rfl, rfl, rfl, by decide +kernel⟩⟩ ⟨⟨_, rfl, rfl, rfl, rfl, by decide +kernel⟩⟩ ⟨⟨_, rfl, rfl, rfl, rfl, by decide +kernel⟩⟩ ⟨⟨_, rfl, rfl, rfl, rfl, by decide +kernel⟩⟩ ⟨⟨_, rfl, rfl, rfl, rfl, by decide +kernel⟩⟩ ⟨⟨_, rfl, rfl, rfl, rfl, by decide +kernel⟩⟩ ⟨⟨_, rfl, rfl, rfl, rfl, by decide +kernel⟩⟩ ⟨⟨_, rfl, rfl, rfl, rfl, by decide +kernel⟩⟩ ⟨⟨_, rfl, rfl, rfl, rfl, by decide +kernel⟩⟩ ⟨⟨_, rfl, rfl, rfl, rfl, by decide +kernel⟩⟩ rfl (by decide +kernel) rfl (by decide +kernel) rfl rfl rfl rfl hjn HK16.out HKA.out.1 HKA.out.2.1 HKA.out.2.2 HC2 HC3 HB3'.out ?_
        intro y48 y49 y50 y51 y52 y53 y54 y55 y56 y57 y58 y59 y60 y61 y62 y63 y64 y65 y66 y67 w9 hB9 hm9
        have HC9 : Hid (C9 W8 w9 (.pointer (some ⟨W8.heap.size, 0, none⟩)) #[.int .i64 1, .int .i64 (1 + (ka : Int)), .int .i64 (1 + (kb : Int)), .int .i64 (j : Int), .int .i64 0, .int .i64 0, .int .i64 (1 + (G : Int)), .bool s, .int .i64 0, .int .i64 0, .int .i64 0, .int .i64 0, .slice none 0 0]) := ⟨_, rfl, hB9, hm9⟩
        clear hB9 hm9
        simp only [puts, Act.put, List.setIfInBounds_toArray, List.set_cons_succ, List.set_cons_zero]
        go_wp2
        go_meet
        exact HC9.out
      case rest =>
      obtain ⟨mb, rfl, hBm, hm9⟩ := hcut.ex
      obtain ⟨w9, ew9⟩ : ∃ w9, w9 = wc := ⟨_, rfl⟩
      subst ew9
      clear hcut HC2 HC3 HB3'
      have c4 := hm9.cell c4' (fun h => h)
      have HM9 : Hid (Mod (fun _ => False) wk w9) := HM8.out.trans hm9 (fun _ _ h => h) (fun _ _ h => h)
      have HBM : Hid (Bk w9 mb 28 #[.int .i64 1, .int .i64 (1 + (ka : Int)), .int .i64 (1 + (kb : Int)), .int .i64 (j : Int), .int .i64 0, .int .i64 0, .int .i64 (1 + (G : Int)), .bool s, .int .i64 0, .int .i64 0, .int .i64 0, .int .i64 0, .slice none 0 0]) := hBm
      clear c4' hm9 HM8 hBm
      obtain ⟨pl, epl⟩ : ∃ pl, pl = l.take 200 := ⟨_, rfl⟩
      have hpl : pl.length = min l.length 200 := by rw [epl]; simp; omega
      have hmin : ∀ W', (Builtin.min_ #[3, 3] 3 #[.int .i64 (l.length : Int), .int .i64 200]).run Try.prog W' = .ok (.int .i64 (pl.length : Int)) W' := fun W' => by
        rw [Lib.run_min_ints]
        have : min (l.length : Int) 200 = (pl.length : Int) := by omega
        rw [this]
      have hplc : (pl.length : Int) ≤ (cl : Int) := by omega
      have hpl0 : (0 : Int) ≤ (pl.length : Int) := by omega
      have HPL : Hid (pl = l.take pl.length ∧ pl.length ≤ l.length ∧ pl.length ≤ 200) := ⟨by
        rw [hpl, epl]
        rw [List.take_eq_take_iff]
        omega, by omega, by omega⟩
      have hj0 : (0 : Int) ≤ (j : Int) := by omega
      clear epl hpl haz hcm hlc hbl
      go_upto_region 10 with (fail)
      go_quiet (fail)
      have hM10 := (Mod.refl (fun _ => False) w9).drewN nq
      have HM10 : Hid (Mod (fun _ => False) wk (w9.drewN nq)) := HM9.out.trans hM10 (fun _ _ h => h) (fun _ _ h => h)
      have HBM2 : Hid (Bk (w9.drewN nq) mb 28 #[.int .i64 1, .int .i64 (1 + (ka : Int)), .int .i64 (1 + (kb : Int)), .int .i64 (j : Int), .int .i64 0, .int .i64 0, .int .i64 (1 + (G : Int)), .bool s, .int .i64 0, .int .i64 0, .int .i64 0, .int .i64 0, .slice none 0 0]) := HBM.out.mod hM10 (fun h => h)
      clear hM10 HBM HM9 c4 hmin
      generalize w9.drewN nq = W10 at *
      have HIB : Hid (isB ⟨1, 1 + (ka : Int), 1 + (kb : Int), (j : Int), 0, 0, 1 + (G : Int), s, 0, 0, 0, 0, []⟩ = true) := isB_tx _ _ _ _ s (by have := HKA.out; have := HK16.out; go_light; omega) (by have := HKA.out; have := HK16.out; go_light; omega) (by go_light; omega) (by have := HKA.out; go_light; omega)
      have HPR : Hid (∀ c ∈ pl, 0 ≤ c ∧ c ≤ 255) := fun c hc => HSL.out.rng c (by rw [HPL.out.1] at hc; exact List.mem_of_mem_take hc)
      have HSP : Hid (Sl W10 (.slice al pl.length cl) pl) := by
        have h := (HSL.out.mod HM10.out (fun _ _ h => h)).first HPL.out.2.1
        rw [← HPL.out.1] at h
        exact h
      clear hplc hpl0
      go_wp2_with (refine wpList_load_row infoM9 Try.underlying28 rfl rfl _ rfl mb rfl HBM2.out rfl ?_; simp only [Act.put, List.setIfInBounds_toArray, List.set_cons_succ, List.set_cons_zero])
      refine (Split_ok 1 (1 + (ka : Int)) (1 + (kb : Int)) (j : Int) 0 0 (1 + (G : Int)) s 0 0 0 0 none 0 [] al cl pl W10 ((Own.nil W10).sl (by simp)) HSP.out HIB.out HPL.out.2.2).mono ?_
      rintro e w11 ⟨Gx, Vx, Zx, rfl, hPa, hGx, hm11⟩
      have hRmx := hPa.rm hGx HSP.out.rng
      obtain ⟨pc, epc⟩ : ∃ pc, pc = pcn pl.length := ⟨_, rfl⟩
      have HC11 : Hid (Rm w11 (fun b => W10.heap.size ≤ b ∧ b < w11.heap.size) (.slice (some ⟨Gx, 0, none⟩) pc pc) (pts (⟨1, 1 + (ka : Int), 1 + (kb : Int), (j : Int), 0, 0, 1 + (G : Int), s, 0, 0, 0, 0, []⟩, pl)) ((List.range pc).map fun i => (prt ⟨1, 1 + (ka : Int), 1 + (kb : Int), (j : Int), 0, 0, 1 + (G : Int), s, 0, 0, 0, 0, []⟩ pc pl i, Vx i))) := by rw [epc]; exact hRmx
      rw [← epc]
      have HPC : Hid (pc = pcn pl.length ∧ pc ≤ 5) := ⟨epc, by rw [epc]; exact pcn_le _ HPL.out.2.2⟩
      have HM11 : Hid (Mod (fun _ => False) W10 w11) := hm11
      have HP11 : Hid (Pz w11 pa wa F P W V U) := (HP.out.mod HM10.out (fun _ _ h => h)).mod hm11 (fun _ _ h => h)
      have HSP11 : Hid (Sl w11 (.slice al pl.length cl) pl) := HSP.out.mod hm11 (fun _ _ h => h)
      obtain ⟨q48, e48⟩ : ∃ q48 : Nat, q48 = (pl.length + 47) / 48 := ⟨_, rfl⟩
      have h200 : pl.length ≤ 200 := HPL.out.2.2
      have e94 : IntKind.i64.wrap ((pl.length : Int) + 47) = (pl.length : Int) + 47 := by rw [IntKind.wrap_i64]; go_light; omega
      have e95 : ((pl.length : Int) + 47).tdiv 48 = (q48 : Int) := by rw [Int.tdiv_eq_ediv_of_nonneg (by go_light; omega)]; go_light; omega
      have e95' : IntKind.i64.wrap (q48 : Int) = (q48 : Int) := by rw [IntKind.wrap_i64]; go_light; omega
      have hmx : ∀ W', (Builtin.max_ #[3, 3] 3 #[.int .i64 (q48 : Int), .int .i64 1]).run Try.prog W' = .ok (.int .i64 (pc : Int)) W' := fun W' => by
        rw [Lib.run_max_ints]
        have : max (q48 : Int) 1 = (pc : Int) := by rw [epc]; unfold pcn; omega
        rw [this]
      have hne : ((pc : Int) != (pc : Int)) = false := by simp
      obtain ⟨dsk, hRk⟩ := HP11.out.ps kk HK16.out
      obtain ⟨avk, cvk, evk⟩ := hRk.row.shape
      have HRK : Hid (Rm w11 F (V kk) (P kk) dsk) := hRk
      obtain ⟨n0, en0⟩ : ∃ n0, n0 = dsk.length := ⟨_, rfl⟩
      rw [← en0] at evk
      have HN0 : Hid (n0 = dsk.length) := en0
      have HEV : Hid (V kk = .slice avk n0 cvk) := evk
      have cp : w11.cell? ⟨pa, kk, none⟩ = some (.slice avk n0 cvk) := by rw [(HP11.out.cp HK16.out).1, evk]
      have hkk0 : (0 : Int) ≤ (kk : Int) := by go_light; omega
      have hkk16 : (kk : Int) < 16 := by have := HK16.out; go_light; omega
      have HNB : Hid (n0 ≤ 200) := by
        have h1 := hRk.len
        have h2 := (HSF.out kk HK16.out).1
        show _ ≤ _
        go_light
        omega
      have HRGk : Hid (RG w11 28 13 (.slice avk n0 cvk) n0 (fm dsk)) := by
        have h := hRk.row
        rw [← en0, evk] at h
        exact h
      have HSG : Hid (SG w11 13 (.slice (some ⟨Gx, 0, none⟩) pc pc) pc (fm ((List.range pc).map fun i => (prt ⟨1, 1 + (ka : Int), 1 + (kb : Int), (j : Int), 0, 0, 1 + (G : Int), s, 0, 0, 0, 0, []⟩ pc pl i, Vx i)))) := by
        have h := HC11.out.row
        rw [List.length_map, List.length_range] at h
        exact SG.of h (fm_one HC11.out.slices)
      have HBP : Hid (∃ xs, Bk w11 pa 50 xs ∧ xs[kk]? = some (.slice avk n0 cvk)) := by
        obtain ⟨xs, h1, _, h2⟩ := HP11.out.pb
        exact ⟨xs, h1, by rw [h2 kk HK16.out, evk]⟩
      clear hPa hRmx hGx hm11 epc e48 h200 hRk en0 evk HBM2 HP HSP
      go_upto_region 15 with (refine wpList_appG elM (by rfl) _ _ (by rfl) (.slice avk n0 cvk) (.slice (some ⟨Gx, 0, none⟩) pc pc) n0 pc (fm dsk) (fm ((List.range pc).map fun i => (prt ⟨1, 1 + (ka : Int), 1 + (kb : Int), (j : Int), 0, 0, 1 + (G : Int), s, 0, 0, 0, 0, []⟩ pc pl i, Vx i))) (by rfl) (by rfl) HRGk.out HSG.out (by have := HNB.out; have := HPC.out; go_light; omega) (by have := HNB.out; have := HPC.out; go_light; omega) (n0 + pc) rfl ?_; intro ax cx w12 hr12 hm12 hf12; have ct : w12.cell? ⟨pa, kk, none⟩ = some (.slice avk n0 cvk) ∧ w12.frozen? ⟨pa, kk, none⟩ = false := (by obtain ⟨xs, h1, h2⟩ := HBP.out; have h3 := h1.mod hm12 (h1.ne_row (by decide) HRGk.out); exact ⟨h3.cellv h2, h3.frz _⟩); obtain ⟨ct0, ct1⟩ := ct)
      obtain ⟨F1, hP13, hM13, hF1⟩ := HP11.out.addp HK16.out (v' := .slice ax (n0 + pc) cx) HC11.out HRK.out hr12 (by rw [List.length_map, List.length_range, HN0.out]) (by rw [HEV.out]; exact hm12) (by rw [HEV.out]; exact hf12) HM11.out.size
      have HP13 : Hid (Pz (w12.setCell ⟨pa, kk, none⟩ (.slice ax (n0 + pc) cx)) pa wa F1 (at1 P kk (P kk ++ pts (⟨1, 1 + (ka : Int), 1 + (kb : Int), (j : Int), 0, 0, 1 + (G : Int), s, 0, 0, 0, 0, []⟩, pl))) W (at1 V kk (.slice ax (n0 + pc) cx)) U) := hP13
      have HM13 : Hid (Mod F w11 (w12.setCell ⟨pa, kk, none⟩ (.slice ax (n0 + pc) cx))) := hM13
      have HF1 : Hid (∀ b, F1 b → w.heap.size ≤ b) := fun b hb => by
        have s1 := HMR.out.size
        have s2 := HM10.out.size
        rcases hF1 b hb with h | h
        · exact HF.out b h
        · omega
      have HX13 : Hid (Mod (fun _ => False) w (w12.setCell ⟨pa, kk, none⟩ (.slice ax (n0 + pc) cx))) := ((HMR.out.trans HM10.out (fun _ _ h => h) (fun _ _ h => h)).trans HM11.out (fun _ _ h => h) (fun _ _ h => h)).trans hM13 (fun _ _ h => h) (fun b hb h => by have := HF.out b h; omega)
      have HSP13 : Hid (Sl (w12.setCell ⟨pa, kk, none⟩ (.slice ax (n0 + pc) cx)) (.slice al pl.length cl) pl) := by
        have h := (HSW.out.mod HX13.out (fun _ _ h => h)).first HPL.out.2.1
        rw [← HPL.out.1] at h
        exact h
      clear hP13 hM13 hF1 hr12 hm12 hf12 ct0 ct1 cp HRK HC11 HRGk HSG HBP HP11
      generalize w12.setCell ⟨pa, kk, none⟩ (.slice ax (n0 + pc) cx) = w13 at *
      have hdr := (Mod.refl (fun _ => False) w13).drew
      have HC : Calls Try.prog 9 #[.slice al pl.length cl] w13.drew fun e w' => ∃ r, e = .returned r ∧ (∃ a1 k1, r = .slice a1 pl.length k1 ∧ Own w' (.slice a1 pl.length k1) pl ∧ Mod (fun _ => False) w13.drew w' ∧ Hid (∀ g, (Value.slice a1 pl.length k1).ownBlock = some g → w13.heap.size ≤ g)) := (copy_any _ pl w13.drew (HSP13.out.mod hdr (fun _ _ h => h)) (by have := HPL.out.2.2; omega)).mono fun e w' ⟨v', h1, h2, h3, h4⟩ => by
        obtain ⟨a1, k1, rfl⟩ := h2.shape
        exact ⟨_, h1, a1, k1, rfl, h2, h3, h4⟩
      obtain ⟨us, hRu⟩ := HP13.out.ws kk HK16.out
      obtain ⟨auk, cuk, euk⟩ := hRu.row.shape
      obtain ⟨n1, en1⟩ : ∃ n1, n1 = us.length := ⟨_, rfl⟩
      rw [← en1] at euk
      have HRU : Hid (Rb w13 F1 (U kk) (W kk) us) := hRu
      have HN1 : Hid (n1 = us.length) := en1
      have HEU : Hid (U kk = .slice auk n1 cuk) := euk
      have u0 : w13.cell? ⟨wa, kk, none⟩ = some (.slice auk n1 cuk) := by rw [(HP13.out.cw HK16.out).1, euk]
      have HN1B : Hid (n1 ≤ 40) := by
        have h1 := hRu.len
        have h2 := (HSF.out kk HK16.out).2.1
        show _ ≤ _
        go_light
        omega
      have HRGu : Hid (RG w13 26 1 (.slice auk n1 cuk) n1 us) := by
        have h := hRu.row
        rw [← en1, euk] at h
        exact h
      have HBW : Hid (∃ ys, Bk w13 wa 52 ys ∧ ys[kk]? = some (.slice auk n1 cuk)) := by
        obtain ⟨xs, h1, _, h2⟩ := HP13.out.wb
        exact ⟨xs, h1, by rw [h2 kk HK16.out, euk]⟩
      clear hRu en1 euk hmx e94 e95 e95' hne HEV HN0 HNB HM13 HM10 HM11 HSP11 HMR HSL HSP13
      go_region_law (first
        | (refine step_c1 (fun args w => by simp [go_sem]) (by rfl) _ (by rfl) (by rfl) _ (by rfl) _ HC ?_; rintro r w14 ⟨a1, k1, rfl, ho14, hm14, hg14⟩; have hMk1 := hdr.trans hm14 (V := fun _ => False) (fun _ _ h => h) (fun _ _ h => h); replace u0 : w14.cell? ⟨wa, kk, none⟩ = some (.slice auk n1 cuk) := hMk1.cell u0 (fun h => h); have u1 : (w14.alloc (.cells #[.slice a1 pl.length k1] 26)).cell? ⟨wa, kk, none⟩ = some (.slice auk n1 cuk) := ((Mod.refl (fun _ => False) w14).alloc _).cell u0 (fun h => h))
        | (refine step_appG elB (by rfl) _ _ (by rfl) (.slice auk n1 cuk) (.slice (some ⟨w14.heap.size, 0, none⟩) 1 1) n1 1 us [.slice a1 pl.length k1] (by rfl) (by rfl) ((HRGu.out.mod hMk1 (fun _ _ h => h)).mod ((Mod.refl (fun _ => False) w14).alloc _) (fun _ _ h => h)) (SG.lit w14 _ [.slice a1 pl.length k1] (by intro c hc; simp at hc; subst hc; rfl)) (by have := HN1B.out; go_light; omega) (by have := HN1B.out; go_light; omega) (n1 + 1) rfl ?_; intro ax2 cx2 w16 hr16 hm16 hf16; have hA1 := (Mod.refl (fun _ => False) w14).alloc (.cells #[.slice a1 pl.length k1] 26); have hMk2 := hMk1.trans hA1 (V := fun _ => False) (fun _ _ h => h) (fun _ _ h => h); have hpush := HP13.out.addw hMk2 HK16.out (v' := .slice ax2 (n1 + 1) cx2) (ho14.mod hA1 (fun _ _ h => h)) HPR.out hg14.out HRU.out hr16 (by rw [HN1.out]) (by rw [HEU.out]; exact hm16) (by rw [HEU.out]; exact hf16); have ct : w16.cell? ⟨wa, kk, none⟩ = some (.slice auk n1 cuk) ∧ w16.frozen? ⟨wa, kk, none⟩ = false := (by obtain ⟨xs, h1, h2⟩ := HBW.out; have h3 := (h1.mod hMk2 (fun h => h)).mod hm16 ((h1.mod hMk2 (fun h => h)).ne_row (by decide) (HRGu.out.mod hMk2 (fun _ _ h => h))); exact ⟨h3.cellv h2, h3.frz _⟩); obtain ⟨ct0, ct1⟩ := ct))
      all_goals
        obtain ⟨F2, hP17, hM17, hF2⟩ := hpush
        have HLn : Hid (Lp w (w16.setCell ⟨wa, kk, none⟩ (.slice ax2 (n1 + 1) cx2)) pa wa (j + 1)) := ⟨_, _, _, _, _, hP17, HSF.out.more HK16.out (x := (⟨1, 1 + (ka : Int), 1 + (kb : Int), (j : Int), 0, 0, 1 + (G : Int), s, 0, 0, 0, 0, []⟩, pl)) ⟨HIB.out, HPL.out.2.2, by rw [HKA.out.1, HKA.out.2.1]; rfl⟩, fun b hb => by
          rcases hF2 b hb with h | h
          · exact HF1.out b h
          · have := HX13.out.size; omega, (HX13.out.trans hMk2 (fun _ _ h => h) (fun _ _ h => h)).trans hM17 (fun _ _ h => h) (fun b hb h => by have := HF1.out b h; omega)⟩
        clear hP17 hM17 hF2 hr16 hm16 hf16 ct0 ct1 hMk1 hMk2 hA1 ho14 hm14 hg14 u0 u1 HC hdr
        go_wp2_with (fail)
        go_roundw
        (case rel => exact ⟨j + 1, by go_num, hjn, hj2, HLn⟩)
        (case measure => simp [intOf]; go_light; omega)
    · by_cases hjn : j < ds.length
      · have hjn' : (j : Int) < (ds.length : Int) := by go_light; omega
        have hj2' : ¬ (j : Int) < 40 := by go_light; omega
        go_wp2_with (fail)
        go_meet
        exact HL.out.mono (by go_light; omega)
      · have hjn' : ¬ (j : Int) < (ds.length : Int) := by go_light; omega
        go_wp2_with (fail)
        go_meet
        exact HL.out.mono (by go_light; omega)
  case rest =>
  clear HL0 HD HFM hlen
  obtain ⟨wb, ewb⟩ : ∃ wb, wb = wc := ⟨_, rfl⟩
  subst ewb
  have HLb : Hid (Lp w wb pa wa 40) := hcut
  clear hcut
  go_wp2_with (fail)
  refine (pNew_any wb).mono ?_
  rintro e w3 ⟨q, X0, rfl, hJ0, hm3, hX0⟩
  have HRo : Hid (Ro w w3 pa wa q 0 true) := Ro.begin HLb.out hJ0 hm3 hX0
  clear HLb hJ0 hm3 hX0
  go_wp2_with (fail)
  go_loopw [14, 15] (fun ca cl wr => ∃ (a : Nat) (lf : Bool), ca = .int .i64 (a : Int) ∧ cl = .bool lf ∧ Hid (Ro w wr pa wa q a lf)) (fun ca _ _ => 60000 - (intOf ca).toNat)
  case atStart => exact ⟨0, true, rfl, rfl, HRo⟩
  case round =>
  clear HRo
  obtain ⟨a, lf, rfl, rfl, HRo⟩ := hrel
  obtain ⟨wx, ewx⟩ : ∃ wx, wx = wr := ⟨_, rfl⟩
  subst ewx
  cases lf with
  | false =>
    obtain ⟨X, hJ, hm⟩ := HRo.out.end
    have HM : Hid (Mod (fun _ => False) w wx) := hm
    have HJ : Hid (Jn wx q X (fun _ => none) 0) := hJ
    clear hm hJ HRo
    go_wp2_with (fail)
    refine (Wait_any HJ.out).mono ?_
    rintro e w9 ⟨rfl, rfl⟩
    go_wp2
    go_ret
    exact ⟨rfl, HM.out⟩
  | true =>
  obtain ⟨F0, P0, W0, V0, U0, X0, J0, N0, h1, h2, h3, h4, -⟩ := HRo.out.ex
  obtain ⟨T, eT⟩ : ∃ T, T = tt P0 := ⟨_, rfl⟩
  have HT0 : Hid (a + 16 * T ≤ 51200) := by rw [eT]; exact h4 rfl
  have HRi : Hid (Ri w wx pa wa q a T 0 false) := ⟨F0, P0, W0, V0, U0, X0, J0, N0, h1, h2, h3, (fun e => by cases e), fun _ => ⟨eT.symm, fun k hk => by omega⟩⟩
  clear h1 h2 h3 h4 eT HRo
  go_wp2_with (fail)
  go_loopw [14, 15, 16] (fun ca cl cn wr => ∃ (b n : Nat) (lf : Bool), ca = .int .i64 (b : Int) ∧ cl = .bool lf ∧ cn = .int .i64 (n : Int) ∧ Hid (b = a + n ∧ n ≤ 16) ∧ Hid (Ri w wr pa wa q a T n lf)) (fun _ _ cn _ => 16 - (intOf cn).toNat)
  case atStart => exact ⟨a, 0, false, rfl, rfl, rfl, ⟨rfl, by omega⟩, HRi⟩
  case round =>
  clear HRi
  obtain ⟨b, n, lf, rfl, rfl, rfl, HBN, HRi⟩ := hrel
  obtain ⟨wy, ewy⟩ : ∃ wy, wy = wr := ⟨_, rfl⟩
  subst ewy
  by_cases hn16 : (n : Int) < 16
  rotate_left
  · have HRo2 : Hid (Ro w wy pa wa q b lf) := by
      have e1 := HBN.out
      have e2 : n = 16 := by go_light; omega
      have h := HRi.out
      rw [e2] at h
      have h' := h.done HT0.out
      have e3 : b = a + 16 := by rw [e1.1, e2]
      rw [e3]
      exact h'
    have hab : (a : Int) < (b : Int) := by have := HBN.out; go_light; omega
    have hbl : (b : Int) < 60000 := by have := HBN.out; have := HT0.out; go_light; omega
    go_wp2_with (fail)
    go_roundw
    case rel => exact ⟨b, lf, rfl, rfl, HRo2⟩
    case measure => simp [intOf]; go_light; omega
  obtain ⟨F, P, W, V, U, X, J, N, hS, hPq, hNb, hl1, hl0⟩ := HRi.out.ex
  have HS : Hid (Sy w wy pa wa q F P W V U X J N) := hS
  have HPq : Hid (Pq J P W) := hPq
  have HNB : Hid (N ≤ a + n) := hNb
  have HL1 : Hid (lf = true → tt P + 1 ≤ T) := hl1
  have HL0 : Hid (lf = false → tt P = T ∧ ∀ k, k < n → P k = []) := hl0
  have hn0 : (0 : Int) ≤ (n : Int) := by go_light; omega
  have HN16 : Hid (n < 16) := by show _ < _; go_light; omega
  have hbb : (b : Int) ≤ 51216 := by have := HBN.out; have := HT0.out; go_light; omega
  clear hS hPq hNb hl1 hl0 HRi
  go_upto_if 124 with (fail)
  go_cut [17] (fun v wx => Kp wy wx v (fun _ => True))
  case first =>
    by_cases hts : 0 < ts.length
    · have hts' : (ts.length : Int) > 0 := by go_light; omega
      obtain ⟨r, er⟩ : ∃ r, r = b % ts.length := ⟨_, rfl⟩
      have hrl : r < ts.length := by rw [er]; exact Nat.mod_lt _ hts
      have e129 : (b : Int).tmod (ts.length : Int) = (r : Int) := by rw [Int.tmod_eq_emod_of_nonneg (by go_light; omega), er]; exact (Int.natCast_emod b ts.length).symm
      have hr0 : (0 : Int) ≤ (r : Int) := by go_light; omega
      have hrl' : (r : Int) < (ts.length : Int) := by go_light; omega
      have hz0 : ((ts.length : Int) == 0) = false := by rw [beq_eq_false_iff_ne]; go_light; omega
      have hz1 : ¬ ((ts.length : Int) = 0) := by go_light; omega
      obtain ⟨at2, ct2, e2, -, -, -, hcs⟩ := HT.out.form
      cases e2
      obtain ⟨bt, ot, rfl, hcs2⟩ := hcs (by rintro rfl; simp at hts)
      have ctr : wy.cell? ⟨bt, ot + r, none⟩ = some (.int .i64 (ts.getD r 0)) := HS.out.mod.cell (hcs2 r hrl) (fun h => h)
      have hix : I64 (ts.getD r 0) := HT.out.rng _ (by rw [List.getD_eq_getElem?_getD, List.getElem?_eq_getElem hrl]; exact List.getElem_mem hrl)
      have hbr := br_rng (ts.getD r 0) 16 (by decide)
      have HBt := bring (ts.getD r 0) 16 wy (by decide) (by decide) hix
      obtain ⟨k1, ek1⟩ : ∃ k1 : Nat, (k1 : Int) = br (ts.getD r 0) (16 : Nat) := ⟨(br (ts.getD r 0) (16 : Nat)).toNat, by have := hbr.1; omega⟩
      rw [← ek1] at HBt hbr
      have HK1 : Hid (k1 < 16) := by have := hbr.2.1; show _ < _; omega
      generalize ts.getD r 0 = tx at ctr HBt
      clear hbr ek1 hix hcs2 er hrl
      go_wp2_with (fail)
      refine HBt.mono ?_
      rintro e w9 ⟨rfl, rfl⟩
      go_wp2_with (fail)
      go_meet
      exact ⟨k1, rfl, HK1.out, trivial, rfl⟩
    · have hts' : ¬ (ts.length : Int) > 0 := by go_light; omega
      go_wp2_with (fail)
      go_meet
      exact ⟨n, rfl, HN16.out, trivial, rfl⟩
  case rest =>
  obtain ⟨k1, rfl, hk1, -, ewc⟩ := hcut.ex
  clear hcut
  subst ewc
  have HK1 : Hid (k1 < 16) := hk1
  have hk1a : (0 : Int) ≤ (k1 : Int) := by go_light; omega
  have hk1b : (k1 : Int) < 16 := by go_light; omega
  obtain ⟨av1, cv1, ev1⟩ : ∃ av1 cv1, V k1 = .slice av1 (P k1).length cv1 := by
    obtain ⟨ds1, hR1⟩ := HS.out.pz.ps k1 hk1
    obtain ⟨x1, x2, e⟩ := hR1.row.shape
    rw [hR1.len] at e
    exact ⟨x1, x2, e⟩
  obtain ⟨n1, en1⟩ : ∃ n1, n1 = (P k1).length := ⟨_, rfl⟩
  have cp1 : wc.cell? ⟨pa, k1, none⟩ = some (.slice av1 n1 cv1) := by rw [(HS.out.pz.cp hk1).1, ev1, en1]
  have HN1 : Hid (n1 = (P k1).length) := en1
  clear hk1 ev1 en1
  go_upto_if 139 with (fail)
  go_cut [17] (fun v wx => Kp wc wx v (fun kk => P kk ≠ [] ∨ kk = n))
  case first =>
    by_cases hz : n1 = 0
    · have hzi : ((n1 : Int) == 0) = true := by simp; exact hz
      clear hz
      go_wp2_with (fail)
      go_meet
      exact ⟨n, rfl, HN16.out, .inr rfl, rfl⟩
    · have hzi : ((n1 : Int) == 0) = false := by simp; exact hz
      have HZ : Hid (P k1 ≠ []) := fun e => hz (by rw [HN1.out, e]; rfl)
      clear hz
      go_wp2_with (fail)
      go_meet
      exact ⟨k1, rfl, HK1.out, .inl HZ.out, rfl⟩
  case rest =>
  obtain ⟨kk, rfl, hkk, hzk, ewd⟩ := hcut.ex
  obtain ⟨wz, ewz⟩ : ∃ wz, wz = wc := ⟨_, rfl⟩
  clear hcut cp1 HN1
  subst ewd
  subst ewz
  have HKK : Hid (kk < 16) := hkk
  have hkka : (0 : Int) ≤ (kk : Int) := by go_light; omega
  have hkkb : (kk : Int) < 16 := by go_light; omega
  have eb1 : IntKind.i64.wrap ((b : Int) + 1) = (b : Int) + 1 := by rw [IntKind.wrap_i64]; go_light; omega
  have en1 : IntKind.i64.wrap ((n : Int) + 1) = (n : Int) + 1 := by rw [IntKind.wrap_i64]; go_light; omega
  cases hPk : P kk with
  | nil =>
    obtain ⟨av2, cv2, ev2⟩ : ∃ av2 cv2, V kk = .slice av2 0 cv2 := by
      obtain ⟨ds1, hR1⟩ := HS.out.pz.ps kk hkk
      obtain ⟨x1, x2, e⟩ := hR1.row.shape
      rw [hR1.len, hPk] at e
      exact ⟨x1, x2, e⟩
    have cp2 : wz.cell? ⟨pa, kk, none⟩ = some (.slice av2 0 cv2) := by rw [(HS.out.pz.cp hkk).1, ev2]
    have HRn : Hid (Ri w wz pa wa q a T (n + 1) lf) := ⟨F, P, W, V, U, X, J, N, HS.out, HPq.out, by have := HNB.out; omega, HL1.out, fun e => ⟨(HL0.out e).1, fun k hk => by
      by_cases e' : k = n
      · subst e'
        rcases hzk with h | h
        · exact absurd hPk h
        · rw [← h]; exact hPk
      · exact (HL0.out e).2 k (by omega)⟩⟩
    have HBN2 : Hid (b + 1 = a + (n + 1) ∧ n + 1 ≤ 16) := ⟨by have := HBN.out; omega, by have := HN16.out; omega⟩
    clear hkk hzk hPk ev2
    go_wp2_with (fail)
    go_roundw
    case rel => exact ⟨b + 1, n + 1, lf, by go_num, rfl, by go_num, HBN2, HRn⟩
    case measure => simp [intOf]; go_light; omega
  | cons d rr0 =>
  obtain ⟨p0, W1, hWk, hok, hcase⟩ := HPq.out.step hkk hPk
  obtain ⟨dk, dor, dlf, did, dpt, dps, dgr, dsf, dst, drs, drr, dsq, dbl⟩ := d
  obtain ⟨g, off, cap, ab, cb, eV, hra, hsl, hnX, hnpa⟩ := HS.out.first hkk hPk
  have HNPA : Hid ((Value.slice ab dbl.length cb).ownBlock ≠ some pa) := hnpa
  clear hnpa
  replace hra : wz.rangeAt g off [.int .i64 dk, .int .i64 dor, .int .i64 dlf, .int .i64 did, .int .i64 dpt, .int .i64 dps, .int .i64 dgr, .bool dsf, .int .i64 dst, .int .i64 drs, .int .i64 drr, .int .i64 dsq, .slice ab dbl.length cb] := hra
  replace hsl : Sl wz (.slice ab dbl.length cb) dbl := hsl
  obtain ⟨m0, em0⟩ : ∃ m0, m0 = rr0.length := ⟨_, rfl⟩
  rw [← em0] at eV
  obtain ⟨an, ean⟩ : ∃ an, (if cap = 1 then (some ⟨g, off, none⟩ : Option Addr) else (some ⟨g, off, none⟩ : Option Addr).map (·.add 13)) = an := ⟨_, rfl⟩
  have cp2 : wz.cell? ⟨pa, kk, none⟩ = some (.slice (some ⟨g, off, none⟩) (m0 + 1) cap) := by rw [(HS.out.pz.cp hkk).1, eV]
  have HEV : Hid (V kk = .slice (some ⟨g, off, none⟩) (m0 + 1) cap) := eV
  have HAN : Hid ((if cap = 1 then (some ⟨g, off, none⟩ : Option Addr) else (some ⟨g, off, none⟩ : Option Addr).map (·.add 13)) = an) := ean
  have HPK : Hid (P kk = ⟨dk, dor, dlf, did, dpt, dps, dgr, dsf, dst, drs, drr, dsq, dbl⟩ :: rr0) := hPk
  have HWK : Hid (W kk = p0 :: W1) := hWk
  have HOK : Hid (okT ⟨dk, dor, dlf, did, dpt, dps, dgr, dsf, dst, drs, drr, dsq, dbl⟩ = true) := hok
  have HSL : Hid (Sl wz (.slice ab dbl.length cb) dbl) := hsl
  have HNX : Hid (∀ b, (Value.slice ab dbl.length cb).ownBlock = some b → ¬ X b) := hnX
  have HCS : Hid ((dpt = dps - 1 ∧ pO J ⟨dk, dor, dlf, did, dpt, dps, dgr, dsf, dst, drs, drr, dsq, dbl⟩ = some p0 ∧ Pq (pJ J ⟨dk, dor, dlf, did, dpt, dps, dgr, dsf, dst, drs, drr, dsq, dbl⟩) (at1 P kk rr0) (at1 W kk W1)) ∨ (dpt ≠ dps - 1 ∧ pO J ⟨dk, dor, dlf, did, dpt, dps, dgr, dsf, dst, drs, drr, dsq, dbl⟩ = none ∧ Pq (pJ J ⟨dk, dor, dlf, did, dpt, dps, dgr, dsf, dst, drs, drr, dsq, dbl⟩) (at1 P kk rr0) W)) := hcase
  have hm01 : (((m0 + 1 : Nat) : Int) == 0) = false := by rw [beq_eq_false_iff_ne]; go_light; omega
  have hm02 : (0 : Int) < ((m0 + 1 : Nat) : Int) := by go_light; omega
  have hm03 : (((m0 : Nat) : Int) + 1 == 0) = false := by rw [beq_eq_false_iff_ne]; go_light; omega
  have hm04 : (0 : Int) < (m0 : Int) + 1 := by go_light; omega
  have HZm : Hid (Bk _ _ _ _) := Bk.new wz #[.int .i64 0, .int .i64 0, .int .i64 0, .int .i64 0, .int .i64 0, .int .i64 0, .int .i64 0, .bool false, .int .i64 0, .int .i64 0, .int .i64 0, .int .i64 0, .slice none 0 0] 28
  have HTT : Hid (tt (at1 P kk rr0) + 1 ≤ T) := by
    have h1 := tt_cut hkk hPk
    show _ ≤ _
    cases hlf : lf with
    | true => have := HL1.out hlf; omega
    | false => have := (HL0.out hlf).1; omega
  clear eV ean hPk hWk hok hsl hnX hcase em0 hkk hzk HL1 HL0
  go_wp2_with (first
    | (refine wpList_load_at infoM9 Try.underlying28 rfl rfl _ rfl g off rfl _ hra rfl ?_; simp only [Act.put, List.setIfInBounds_toArray, List.set_cons_succ, List.set_cons_zero])
    | (refine wpList_store_row infoM9 rfl rfl _ _ rfl wz.heap.size #[.int .i64 dk, .int .i64 dor, .int .i64 dlf, .int .i64 did, .int .i64 dpt, .int .i64 dps, .int .i64 dgr, .bool dsf, .int .i64 dst, .int .i64 drs, .int .i64 drr, .int .i64 dsq, .slice ab dbl.length cb] rfl rfl HZm.out rfl rfl rfl ?_; intro w4 hB4 hM4; have HM4 : Hid (Mod (fun _ => False) wz w4) := ((Mod.refl (fun _ => False) wz).alloc _).trans hM4 (fun _ _ h => h) (fun i hi e => by omega); have cp4 : w4.cell? ⟨pa, kk, none⟩ = some (.slice (some ⟨g, off, none⟩) (m0 + 1) cap) := HM4.out.cell cp2 (fun h => h); have fz4 : w4.frozen? ⟨pa, kk, none⟩ = false := (HS.out.keep HM4.out).pz.cp HKK.out |>.2)
    | (refine wpList_val (by rfl) (exec_cutG elM helM HAN.out rfl rfl rfl) ?_; simp only [Act.put, List.setIfInBounds_toArray, List.set_cons_succ, List.set_cons_zero])
    | (refine wpList_load_row infoM9 Try.underlying28 rfl rfl _ rfl wz.heap.size rfl (hB4.other _ _ (by have := (HS.out.pz.lt pa HS.out.pz.inp); exact Nat.ne_of_lt this)) rfl ?_; simp only [Act.put, List.setIfInBounds_toArray, List.set_cons_succ, List.set_cons_zero]))
  have HS5 : Hid (Sy w (w4.setCell ⟨pa, kk, none⟩ (.slice an m0 (cap - 1))) pa wa q F (at1 P kk rr0) W (at1 V kk (.slice an m0 (cap - 1))) U X J N) := (HS.out.keep HM4.out).cutp HKK.out HPK.out HEV.out HAN.out
  have HB5 : Hid (Bk (w4.setCell ⟨pa, kk, none⟩ (.slice an m0 (cap - 1))) wz.heap.size 28 #[.int .i64 dk, .int .i64 dor, .int .i64 dlf, .int .i64 did, .int .i64 dpt, .int .i64 dps, .int .i64 dgr, .bool dsf, .int .i64 dst, .int .i64 drs, .int .i64 drr, .int .i64 dsq, .slice ab dbl.length cb]) := hB4.other _ _ (by have := (HS.out.pz.lt pa HS.out.pz.inp); exact Nat.ne_of_lt this)
  have HSL5 : Hid (Sl (w4.setCell ⟨pa, kk, none⟩ (.slice an m0 (cap - 1))) (.slice ab dbl.length cb) dbl) := (HSL.out.mod HM4.out (fun _ _ h => h)).mod ((Mod.refl (fun z => z = pa) w4).setCell ⟨pa, kk, none⟩ (.slice an m0 (cap - 1)) (.inl rfl)) (fun g hg e => HNPA.out (by rw [hg, e]))
  obtain ⟨w5, ew5⟩ : ∃ w5, w5 = (w4.setCell ⟨pa, kk, none⟩ (.slice an m0 (cap - 1))) := ⟨_, rfl⟩
  rw [← ew5] at HS5 HB5 HSL5 ⊢
  have HXB : Hid (¬ X wz.heap.size) := fun hx => Nat.lt_irrefl _ (HS.out.jn.lt _ hx)
  obtain ⟨bm, ebm⟩ : ∃ bm, bm = wz.heap.size := ⟨_, rfl⟩
  rw [← ebm] at HB5 HXB ⊢
  have HTN : Hid (N < 140737488355328) := by have := HNB.out; have := HBN.out; have := HT0.out; show _ < _; go_light; omega
  have hput := Put_u dk dor dlf did dpt dps dgr dsf dst drs drr dsq ab cb dbl HS5.out.jn HPq.out.ok HSL5.out HTN.out (fun _ => HNX.out)
  have hpe : pE ⟨dk, dor, dlf, did, dpt, dps, dgr, dsf, dst, drs, drr, dsq, dbl⟩ = 0 := by unfold pE; rw [if_pos HOK.out]
  rw [hpe] at hput
  have hpar := okT_parts HOK.out
  have hp1 : 1 ≤ dps ∧ dps ≤ 5 := hpar.2.2.2.2.1
  have ep : IntKind.i64.wrap (dps - 1) = dps - 1 := by rw [IntKind.wrap_i64]; go_light; omega
  have HBN2 : Hid (b + 1 = a + (n + 1) ∧ n + 1 ≤ 16) := ⟨by have := HBN.out; omega, by have := HN16.out; omega⟩
  clear hM4 hB4 cp4 fz4 cp2 hra HZm HM4 ew5 ebm HSL HSL5 HNX HNPA hpe hpar hp1 HAN HEV HS hm01 hm02 hm03 hm04
  rcases HCS.out with ⟨q1, q2, q3⟩ | ⟨q1, q2, q3⟩
  · rw [q2] at hput
    simp only [Option.getD_some, Option.isSome_some] at hput
    have HQ3 : Hid (Pq (pJ J ⟨dk, dor, dlf, did, dpt, dps, dgr, dsf, dst, drs, drr, dsq, dbl⟩) (at1 P kk rr0) (at1 W kk W1)) := q3
    have heq : (dpt == dps - 1) = true := by rw [q1]; simp
    clear q1 q2 q3 HCS
    refine hput.mono ?_
    rintro e w6 ⟨X6, N6, ax, cx, rfl, hJ6, hN6, hG6, hm6, ho6, hr6, -⟩
    have HS6 : Hid (Sy w w6 pa wa q F (at1 P kk rr0) W (at1 V kk (.slice an m0 (cap - 1))) U X6 (pJ J ⟨dk, dor, dlf, did, dpt, dps, dgr, dsf, dst, drs, drr, dsq, dbl⟩) N6) := HS5.out.put hm6 hG6 hJ6
    have hB6 := HB5.out.mod hm6 HXB.out
    have c4 : w6.cell? ⟨bm, 4, none⟩ = some (.int .i64 dpt) := hB6.cellv (j := 4) rfl
    have c5 : w6.cell? ⟨bm, 5, none⟩ = some (.int .i64 dps) := hB6.cellv (j := 5) rfl
    obtain ⟨gw, ow, capw, aw, cw, eU, cu0, hslw⟩ := HS6.out.firstw HKK.out HWK.out
    obtain ⟨wl, ewl⟩ : ∃ wl, wl = W1.length := ⟨_, rfl⟩
    rw [← ewl] at eU
    have cw2 : w6.cell? ⟨wa, kk, none⟩ = some (.slice (some ⟨gw, ow, none⟩) (wl + 1) capw) := by rw [(HS6.out.pz.cw HKK.out).1, eU]
    have hw01 : (((wl + 1 : Nat) : Int) == 0) = false := by rw [beq_eq_false_iff_ne]; go_light; omega
    have hw02 : (0 : Int) < ((wl + 1 : Nat) : Int) := by go_light; omega
    have hw03 : ((wl : Int) + 1 == 0) = false := by rw [beq_eq_false_iff_ne]; go_light; omega
    have hw04 : (0 : Int) < (wl : Int) + 1 := by go_light; omega
    have HEQ : Calls Try.prog 14 #[.slice ax p0.length cx, .slice aw p0.length cw] w6 fun e w' => e = .returned (.bool true) ∧ Mod (fun _ => False) w6 w' := by
      have h := EqBytes_any _ _ p0 p0 w6 (ho6.sl hr6) hslw
      simpa using h
    obtain ⟨an2, ean2⟩ : ∃ an2, (if capw = 1 then (some ⟨gw, ow, none⟩ : Option Addr) else (some ⟨gw, ow, none⟩ : Option Addr).map (·.add 1)) = an2 := ⟨_, rfl⟩
    have HAN2 : Hid ((if capw = 1 then (some ⟨gw, ow, none⟩ : Option Addr) else (some ⟨gw, ow, none⟩ : Option Addr).map (·.add 1)) = an2) := ean2
    have HEU : Hid (U kk = .slice (some ⟨gw, ow, none⟩) (wl + 1) capw) := eU
    have HN6 : Hid (N6 ≤ N + 1) := hN6
    clear hJ6 hN6 hG6 hm6 ho6 hr6 hB6 hslw eU ean2 ewl HB5 HS5 hput
    go_wp2_with (fail)
    refine HEQ.mono ?_
    rintro e w7 ⟨rfl, hm7⟩
    have HS7 : Hid (Sy w w7 pa wa q F (at1 P kk rr0) W (at1 V kk (.slice an m0 (cap - 1))) U X6 (pJ J ⟨dk, dor, dlf, did, dpt, dps, dgr, dsf, dst, drs, drr, dsq, dbl⟩) N6) := HS6.out.keep hm7
    have cw7 : w7.cell? ⟨wa, kk, none⟩ = some (.slice (some ⟨gw, ow, none⟩) (wl + 1) capw) := hm7.cell cw2 (fun h => h)
    have fz7 : w7.frozen? ⟨wa, kk, none⟩ = false := (HS7.out.pz.cw HKK.out).2
    clear hm7 HS6 cw2 cu0 c4 c5 HEQ
    have HRn : Hid (Ri w (w7.setCell ⟨wa, kk, none⟩ (.slice an2 wl (capw - 1))) pa wa q a T (n + 1) true) := ⟨_, _, _, _, _, _, _, _, HS7.out.cutw HKK.out HWK.out HEU.out HAN2.out, HQ3.out, by have := HNB.out; have := HN6.out; omega, fun _ => HTT.out, fun e => by cases e⟩
    clear HS7
    go_wp2_with (refine wpList_val (by rfl) (exec_cutG elB helB HAN2.out rfl rfl rfl) ?_; simp only [Act.put, List.setIfInBounds_toArray, List.set_cons_succ, List.set_cons_zero])
    go_roundw
    case rel => exact ⟨b + 1, n + 1, true, by go_num, rfl, by go_num, HBN2, HRn⟩
    case measure => simp [intOf]; go_light; omega
  · rw [q2] at hput
    simp only [Option.getD_none, Option.isSome_none] at hput
    have HQ3 : Hid (Pq (pJ J ⟨dk, dor, dlf, did, dpt, dps, dgr, dsf, dst, drs, drr, dsq, dbl⟩) (at1 P kk rr0) W) := q3
    have heq : (dpt == dps - 1) = false := by rw [beq_eq_false_iff_ne]; exact q1
    clear q1 q2 q3 HCS
    refine hput.mono ?_
    rintro e w6 ⟨X6, N6, ax, cx, rfl, hJ6, hN6, hG6, hm6, -, -, -⟩
    have HS6 : Hid (Sy w w6 pa wa q F (at1 P kk rr0) W (at1 V kk (.slice an m0 (cap - 1))) U X6 (pJ J ⟨dk, dor, dlf, did, dpt, dps, dgr, dsf, dst, drs, drr, dsq, dbl⟩) N6) := HS5.out.put hm6 hG6 hJ6
    have hB6 := HB5.out.mod hm6 HXB.out
    have c4 : w6.cell? ⟨bm, 4, none⟩ = some (.int .i64 dpt) := hB6.cellv (j := 4) rfl
    have c5 : w6.cell? ⟨bm, 5, none⟩ = some (.int .i64 dps) := hB6.cellv (j := 5) rfl
    obtain ⟨gw, ow, capw, aw, cw, eU, -, -⟩ := HS6.out.firstw HKK.out HWK.out
    obtain ⟨wl, ewl⟩ : ∃ wl, wl = W1.length := ⟨_, rfl⟩
    rw [← ewl] at eU
    have cw2 : w6.cell? ⟨wa, kk, none⟩ = some (.slice (some ⟨gw, ow, none⟩) (wl + 1) capw) := by rw [(HS6.out.pz.cw HKK.out).1, eU]
    have hw01 : (((wl + 1 : Nat) : Int) == 0) = false := by rw [beq_eq_false_iff_ne]; go_light; omega
    have hw03 : ((wl : Int) + 1 == 0) = false := by rw [beq_eq_false_iff_ne]; go_light; omega
    have HN6 : Hid (N6 ≤ N + 1) := hN6
    have HRn : Hid (Ri w w6 pa wa q a T (n + 1) true) := ⟨_, _, _, _, _, _, _, _, HS6.out, HQ3.out, by have := HNB.out; have := HN6.out; omega, fun _ => HTT.out, fun e => by cases e⟩
    clear hJ6 hN6 hG6 hm6 hB6 eU ewl HB5 HS5 hput HS6
    go_wp2_with (fail)
    go_roundw
    case rel => exact ⟨b + 1, n + 1, true, by go_num, rfl, by go_num, HBN2, HRn⟩
    case measure => simp [intOf]; go_light; omega
namespace pieceBack
open Go.ChangeShapes Go.WideShapes Go.ChangeAt Go.RowKit
set_option maxRecDepth 100000 in
theorem lifted (os : Os) (started : os.Started) (H : Type) (enc : TypeId × Value → H) :
    ReturnsInHanded {} Try.checked os 5 .any (Rows.pieceBackSpec.pre6 enc Try.prog Try.f5 Rows.pieceBackRow.domain false) (Rows.pieceBackSpec.post enc Try.prog Try.f5 false true false false) := by
  refine returnsInHanded_of_change_sized (C := Try.checked) own started (by kernel_rfl) Try.func5
    (ChangeSpec.witness6 (enc := enc) (C := Try.checked) false ⟨#[], #[.slice none 0 0, .slice none 0 0], []⟩ 8 (by kernel_rfl) (by kernel_rfl) (by kernel_rfl) (by kernel_rfl)) ?_
  intro W base args ds gs before hval0 hW hcnd hsz0 _
  have hval : ∀ (j : Nat) t v, Try.f5.params[j]? = some t → args[j]? = some v → Value.okWide Try.prog W .any base t v := hval0
  have hsz : (DataW.weightsEach Try.prog (Try.f5.params.toList ++ Rows.pieceBackSpec.plain.varTypes Try.prog) (ds ++ gs)).all (· ≤ reachBytes) = true := hsz0
  have hW' := hW
  obtain ⟨p, q, hA0, hV, rfl, hfz, hnd⟩ := hW
  have hA : DataW.TrodAll enc Try.prog W 0 (fun _ => true) true Try.f5.params.toList args.toList ds p := hA0
  rw [Try.params5] at hA hval hsz
  obtain ⟨v0, vs0, d0, ds0, p0, q0, hargs, rfl, rfl, h0, r0⟩ := trodAll_cons hA
  obtain ⟨v1, vs1, d1, ds1, p1, q1, rfl, rfl, rfl, h1, r1⟩ := trodAll_cons r0
  obtain ⟨rfl, rfl, rfl⟩ := trodAll_nil r1
  obtain rfl : args = #[v0, v1] := by cases args; simp_all
  obtain ⟨rfl, rfl⟩ := trodVars_none hV
  have k0 := h0
  have lt0 : ∀ x ∈ p0, x.block < W.heap.size := by obtain ⟨m, hm⟩ := k0; exact DataW.trod_lt m _ _ _ hm
  obtain ⟨B0, hB0⟩ := open_sents h0 (okWide_slice Try.underlying48 (hval 0 48 v0 rfl rfl)) (by
    rw [List.all_eq_true] at hsz
    intro n hn
    have := hsz n (DataW.weights_mem_each (t := 48) (j := 0) rfl rfl n hn)
    simpa using this)
  have k1 := h1
  have lt1 : ∀ x ∈ p1, x.block < W.heap.size := by obtain ⟨m, hm⟩ := k1; exact DataW.trod_lt m _ _ _ hm
  obtain ⟨B1, hB1⟩ := open_l h1 (okWide_slice Try.underlying49 (hval 1 49 v1 rfl rfl))
  clear hA0 hval0
  refine (back_walk v0 v1 B0 B1 W hB0 hB1).mono fun e W' ⟨he, hm⟩ => ?_
  subst he
  have bel : Below W.heap.size W W' := hm.below _ (Nat.le_refl _) (fun _ h => h.elim)
  exact ⟨_, rfl, _, _, _, [], _, [], hW', trodAll_mk1 (shut_bool Try.underlying4 _), (trodAll_cons_mk (Below.trod laidOut (by kernel_rfl) (of_decide_eq_true (by kernel_rfl)) k0 bel lt0) (trodAll_cons_mk (Below.trod laidOut (by kernel_rfl) (of_decide_eq_true (by kernel_rfl)) k1 bel lt1) trodAll_mk0)), rfl, bel.frame _, fun h => by cases h⟩

theorem over : Rows.pieceBackRow.holds Try.pinned (OpenSpec.ofChange Rows.pieceBackSpec) :=
  OpenClaim.holds_of_wide 5 Try.f5 rfl rfl rfl rfl rfl rfl rfl ⟨rfl, rfl, rfl, rfl, rfl⟩ rfl rfl rfl rfl rfl (by kernel_rfl) Try.func5 (by kernel_rfl)
    (of_decide_eq_true (by kernel_rfl)) (by unfold Func.isWrapper; first | (rw [if_pos (by decide +kernel)]; kernel_rfl) | (rw [if_neg (by decide +kernel)]; exact ⟨rfl, rfl⟩))
    (fun os started H enc _ => lifted os started H enc)
end pieceBack
theorem pieceBack_holds : Rows.PieceBackSaid := pieceBack.over
end Go.Proofs.Ytifogbhlphofjaa
