/- The statement of MarkMaps that draws its order: a key's number in the map is raised by one. Conditions: what is said of the slots that it reads. -/
import Derived.Test.YtbfgnlpgfjokhaaLk
import Derived.Test.YtbfgnlpgfjokhaaFre
namespace Go.Proofs.Ytbfgnlpgfjokhaa
open Go.RowKit
section
variable {o : Oper} {w w' : World} {ρ : Operand → Value} {x y z : Operand}
theorem mx_move (ho : o.op = .move x) : (execOp ρ o).run Try.prog w = .ok (.value (ρ x)) w := by simp [execOp, ho]
theorem mx_index {b off len cap i : Nat} (hi : i < len) (ho : o.op = .indexAddr 42 x y) (hx : ρ x = .slice (some ⟨b, off, none⟩) len cap) (hy : ρ y = .int .i64 (i : Int)) : (execOp ρ o).run Try.prog w = .ok (.value (.pointer (some ⟨b, off + i * 4, none⟩))) w := by
  have h1 : (i : Int) < (len : Int) := by omega
  simp [execOp, ho, hx, hy, go_sem, h1]
theorem mx_load {b off : Nat} {k : Ky} (h : Kc w b off k) (ho : o.op = .load 25 x) (hx : ρ x = .pointer (some ⟨b, off, none⟩)) : (execOp ρ o).run Try.prog w = .ok (.value (.agg #[.int .i64 k.1, .int .i64 k.2.1, .int .i64 k.2.2.1, .int .i64 k.2.2.2])) w := by
  obtain ⟨c0, c1, c2, c3⟩ := h
  simp [execOp, ho, hx, go_sem, c0, c1, c2, c3]
theorem mx_look {v : Value} (ho : o.op = .lookup 43 x y false) (h : (Instr.lookup 43 (ρ x) (ρ y) false).run Try.prog w = .ok v w) : (execOp ρ o).run Try.prog w = .ok (.value v) w := by
  simp [execOp, ho, h, Result.andThen]
theorem mx_add {c : Int} (ho : o.op = .binOp .add 3 x (.const (.int .i64 1)) 3) (hx : ρ x = .int .i64 c) (hc : ∀ v, ρ (.const v) = v) : (execOp ρ o).run Try.prog w = .ok (.value (.int .i64 (IntKind.i64.wrap (c + 1)))) w := by
  simp [execOp, ho, hx, hc, go_sem]
theorem mx_update (ho : o.op = .mapUpdate 43 x y z) (h : (Instr.mapUpdate 43 (ρ x) (ρ y) (ρ z)).run Try.prog w = .ok () w') : (execOp ρ o).run Try.prog w = .ok .skip w' := by
  simp [execOp, ho, h, Result.andThen]
end
def vals7 (b off len cap i B : Nat) (x : Ky) (c : Int) : Nat → Value
  | 0 => .map (some B)
  | 1 => .slice (some ⟨b, off, none⟩) len cap
  | 2 => .int .i64 (i : Int)
  | 3 => .pointer (some ⟨b, off + i * 4, none⟩)
  | 4 => .agg #[.int .i64 x.1, .int .i64 x.2.1, .int .i64 x.2.2.1, .int .i64 x.2.2.2]
  | 5 => .map (some B)
  | 6 => .slice (some ⟨b, off, none⟩) len cap
  | 7 => .int .i64 (i : Int)
  | 8 => .pointer (some ⟨b, off + i * 4, none⟩)
  | 9 => .agg #[.int .i64 x.1, .int .i64 x.2.1, .int .i64 x.2.2.1, .int .i64 x.2.2.2]
  | 10 => .int .i64 c
  | 11 => .int .i64 (c + 1)
  | _ => undef
def inv7 (W W' : World) (listed : Array Bool) (w : World) : Prop := w = if listed.getD 12 false = true then W' else W
theorem inv7_same {W W' : World} {listed : Array Bool} {w : World} (h : inv7 W W' listed w) (i : Nat) (hi : i < 12) (hl : listed.size = 13) : inv7 W W' (listed.setIfInBounds i true) w := by
  unfold inv7 at h ⊢
  rw [getD_set (by omega), if_neg (show ¬ i = 12 by omega)]
  exact h
theorem inv7_old {W W' : World} {listed : Array Bool} {w : World} (h : inv7 W W' listed w) (hu : listed.getD 12 false = false) : w = W := by
  unfold inv7 at h
  rw [hu] at h
  simpa using h
set_option maxRecDepth 100000 in
set_option maxHeartbeats 4000000 in
theorem region7 {ops : Array Oper} {id : Nat} {a0 : Act} {w0 W' : World} {Q : Exit → Act → World → Prop} (b off len cap i B : Nat) (x : Ky) (c : Int)
    (E0 : Is ops 0 (some 23) (Op.move (Operand.tmp 3)) none [])
    (E1 : Is ops 1 (some 24) (Op.move (Operand.tmp 0)) none [])
    (E2 : Is ops 2 (some 25) (Op.move (Operand.tmp 5)) none [])
    (E3 : Is ops 3 (some 26) (Op.indexAddr 42 (Operand.tmp 24) (Operand.tmp 25)) none [1, 2])
    (E4 : Is ops 4 (some 27) (Op.load 25 (Operand.tmp 26)) none [3])
    (E5 : Is ops 5 (some 28) (Op.move (Operand.tmp 3)) none [])
    (E6 : Is ops 6 (some 29) (Op.move (Operand.tmp 0)) none [])
    (E7 : Is ops 7 (some 30) (Op.move (Operand.tmp 5)) none [])
    (E8 : Is ops 8 (some 31) (Op.indexAddr 42 (Operand.tmp 29) (Operand.tmp 30)) none [6, 7])
    (E9 : Is ops 9 (some 32) (Op.load 25 (Operand.tmp 31)) none [8])
    (E10 : Is ops 10 (some 33) (Op.lookup 43 (Operand.tmp 28) (Operand.tmp 32) false) none [5, 9])
    (E11 : Is ops 11 (some 34) (Op.binOp BinOp.add 3 (Operand.tmp 33) (Operand.const (Value.int IntKind.i64 1)) 3) none [10])
    (E12 : Is ops 12 (none) (Op.mapUpdate 43 (Operand.tmp 23) (Operand.tmp 27) (Operand.tmp 34)) none [0, 4, 11])
    (hN : ops.size = 13) (hlow : lowB ops = true) (hds : ((dsts ops).all fun d => (d.map fun t => decide (t < 92)).getD true) = true) (hnd : injB ops = true)
    (hb0 : (dsts ops).contains (some 0) = false) (hb3 : (dsts ops).contains (some 3) = false) (hb5 : (dsts ops).contains (some 5) = false)
    (hmx : Try.prog.follows .mixedOrders = true) (ha0 : a0.tmps.size = 92) (h0 : a0.tmps.getD 0 undef = .slice (some ⟨b, off, none⟩) len cap) (h3 : a0.tmps.getD 3 undef = .map (some B)) (h5 : a0.tmps.getD 5 undef = .int .i64 (i : Int))
    (hil : i < len) (hk : Kc w0 b (off + i * 4) x) (hc : IntKind.i64.wrap (c + 1) = c + 1)
    (hlook : (Instr.lookup 43 (.map (some B)) (kv x) false).run Try.prog w0.drew = .ok (.int .i64 c) w0.drew) (hupd : (Instr.mapUpdate 43 (.map (some B)) (kv x) (.int .i64 (c + 1))).run Try.prog w0.drew = .ok () W')
    (hend : ∀ y, y.tmps.size = a0.tmps.size → y.defers = a0.defers → (∀ t, (dsts ops).contains (some t) = false → y.tmps.getD t undef = a0.tmps.getD t undef) → Q .normal y W') :
    (Code.region id ops true).wp Try.prog Q a0 w0 := by
  have s0 : ∀ o, ops[0]? = some o → Step Try.prog ops (fun i' v => v = vals7 b off len cap i B x c i') (inv7 w0.drew W') a0 Q 0 o := by
    refine E0.step fun o hd ho hg hw => ?_
    intro y w listed hsz hls hun hwt hdown D R hinv K hK
    refine ⟨wanted_none hg, ?_⟩
    rw [hN] at hls
    have hi := inv7_same hinv 0 (by omega) hls
    have fb : y.tmps.getD 3 undef = .map (some B) := (R 3 (not_of hb3)).trans h3
    exact wp_value (mx_move ho) (hK _ _ fb hi)
  have s1 : ∀ o, ops[1]? = some o → Step Try.prog ops (fun i' v => v = vals7 b off len cap i B x c i') (inv7 w0.drew W') a0 Q 1 o := by
    refine E1.step fun o hd ho hg hw => ?_
    intro y w listed hsz hls hun hwt hdown D R hinv K hK
    refine ⟨wanted_none hg, ?_⟩
    rw [hN] at hls
    have hi := inv7_same hinv 1 (by omega) hls
    have fb : y.tmps.getD 0 undef = .slice (some ⟨b, off, none⟩) len cap := (R 0 (not_of hb0)).trans h0
    exact wp_value (mx_move ho) (hK _ _ fb hi)
  have s2 : ∀ o, ops[2]? = some o → Step Try.prog ops (fun i' v => v = vals7 b off len cap i B x c i') (inv7 w0.drew W') a0 Q 2 o := by
    refine E2.step fun o hd ho hg hw => ?_
    intro y w listed hsz hls hun hwt hdown D R hinv K hK
    refine ⟨wanted_none hg, ?_⟩
    rw [hN] at hls
    have hi := inv7_same hinv 2 (by omega) hls
    have fb : y.tmps.getD 5 undef = .int .i64 (i : Int) := (R 5 (not_of hb5)).trans h5
    exact wp_value (mx_move ho) (hK _ _ fb hi)
  have s3 : ∀ o, ops[3]? = some o → Step Try.prog ops (fun i' v => v = vals7 b off len cap i B x c i') (inv7 w0.drew W') a0 Q 3 o := by
    refine E3.step fun o hd ho hg hw => ?_
    intro y w listed hsz hls hun hwt hdown D R hinv K hK
    refine ⟨wanted_none hg, ?_⟩
    rw [hN] at hls
    have f1 : y.tmps.getD 24 undef = .slice (some ⟨b, off, none⟩) len cap := E1.post (Post := fun i' v => v = vals7 b off len cap i B x c i') (a := y) D (hw 1 (by simp))
    have f2 : y.tmps.getD 25 undef = .int .i64 (i : Int) := E2.post (Post := fun i' v => v = vals7 b off len cap i B x c i') (a := y) D (hw 2 (by simp))
    have hi := inv7_same hinv 3 (by omega) hls
    exact wp_value (mx_index hil ho f1 f2) (hK _ _ rfl hi)
  have s4 : ∀ o, ops[4]? = some o → Step Try.prog ops (fun i' v => v = vals7 b off len cap i B x c i') (inv7 w0.drew W') a0 Q 4 o := by
    refine E4.step fun o hd ho hg hw => ?_
    intro y w listed hsz hls hun hwt hdown D R hinv K hK
    refine ⟨wanted_none hg, ?_⟩
    rw [hN] at hls
    have f3 : y.tmps.getD 26 undef = .pointer (some ⟨b, off + i * 4, none⟩) := E3.post (Post := fun i' v => v = vals7 b off len cap i B x c i') (a := y) D (hw 3 (by simp))
    have hi := inv7_same hinv 4 (by omega) hls
    obtain rfl := inv7_old hinv (E12.down hdown (by simp) hun)
    exact wp_value (mx_load hk ho f3) (hK _ _ rfl hi)
  have s5 : ∀ o, ops[5]? = some o → Step Try.prog ops (fun i' v => v = vals7 b off len cap i B x c i') (inv7 w0.drew W') a0 Q 5 o := by
    refine E5.step fun o hd ho hg hw => ?_
    intro y w listed hsz hls hun hwt hdown D R hinv K hK
    refine ⟨wanted_none hg, ?_⟩
    rw [hN] at hls
    have hi := inv7_same hinv 5 (by omega) hls
    have fb : y.tmps.getD 3 undef = .map (some B) := (R 3 (not_of hb3)).trans h3
    exact wp_value (mx_move ho) (hK _ _ fb hi)
  have s6 : ∀ o, ops[6]? = some o → Step Try.prog ops (fun i' v => v = vals7 b off len cap i B x c i') (inv7 w0.drew W') a0 Q 6 o := by
    refine E6.step fun o hd ho hg hw => ?_
    intro y w listed hsz hls hun hwt hdown D R hinv K hK
    refine ⟨wanted_none hg, ?_⟩
    rw [hN] at hls
    have hi := inv7_same hinv 6 (by omega) hls
    have fb : y.tmps.getD 0 undef = .slice (some ⟨b, off, none⟩) len cap := (R 0 (not_of hb0)).trans h0
    exact wp_value (mx_move ho) (hK _ _ fb hi)
  have s7 : ∀ o, ops[7]? = some o → Step Try.prog ops (fun i' v => v = vals7 b off len cap i B x c i') (inv7 w0.drew W') a0 Q 7 o := by
    refine E7.step fun o hd ho hg hw => ?_
    intro y w listed hsz hls hun hwt hdown D R hinv K hK
    refine ⟨wanted_none hg, ?_⟩
    rw [hN] at hls
    have hi := inv7_same hinv 7 (by omega) hls
    have fb : y.tmps.getD 5 undef = .int .i64 (i : Int) := (R 5 (not_of hb5)).trans h5
    exact wp_value (mx_move ho) (hK _ _ fb hi)
  have s8 : ∀ o, ops[8]? = some o → Step Try.prog ops (fun i' v => v = vals7 b off len cap i B x c i') (inv7 w0.drew W') a0 Q 8 o := by
    refine E8.step fun o hd ho hg hw => ?_
    intro y w listed hsz hls hun hwt hdown D R hinv K hK
    refine ⟨wanted_none hg, ?_⟩
    rw [hN] at hls
    have f6 : y.tmps.getD 29 undef = .slice (some ⟨b, off, none⟩) len cap := E6.post (Post := fun i' v => v = vals7 b off len cap i B x c i') (a := y) D (hw 6 (by simp))
    have f7 : y.tmps.getD 30 undef = .int .i64 (i : Int) := E7.post (Post := fun i' v => v = vals7 b off len cap i B x c i') (a := y) D (hw 7 (by simp))
    have hi := inv7_same hinv 8 (by omega) hls
    exact wp_value (mx_index hil ho f6 f7) (hK _ _ rfl hi)
  have s9 : ∀ o, ops[9]? = some o → Step Try.prog ops (fun i' v => v = vals7 b off len cap i B x c i') (inv7 w0.drew W') a0 Q 9 o := by
    refine E9.step fun o hd ho hg hw => ?_
    intro y w listed hsz hls hun hwt hdown D R hinv K hK
    refine ⟨wanted_none hg, ?_⟩
    rw [hN] at hls
    have f8 : y.tmps.getD 31 undef = .pointer (some ⟨b, off + i * 4, none⟩) := E8.post (Post := fun i' v => v = vals7 b off len cap i B x c i') (a := y) D (hw 8 (by simp))
    have hi := inv7_same hinv 9 (by omega) hls
    obtain rfl := inv7_old hinv (E12.down hdown (by simp) (E11.down hdown (by simp) (E10.down hdown (by simp) hun)))
    exact wp_value (mx_load hk ho f8) (hK _ _ rfl hi)
  have s10 : ∀ o, ops[10]? = some o → Step Try.prog ops (fun i' v => v = vals7 b off len cap i B x c i') (inv7 w0.drew W') a0 Q 10 o := by
    refine E10.step fun o hd ho hg hw => ?_
    intro y w listed hsz hls hun hwt hdown D R hinv K hK
    refine ⟨wanted_none hg, ?_⟩
    rw [hN] at hls
    have f5 : y.tmps.getD 28 undef = .map (some B) := E5.post (Post := fun i' v => v = vals7 b off len cap i B x c i') (a := y) D (hw 5 (by simp))
    have f9 : y.tmps.getD 32 undef = .agg #[.int .i64 x.1, .int .i64 x.2.1, .int .i64 x.2.2.1, .int .i64 x.2.2.2] := E9.post (Post := fun i' v => v = vals7 b off len cap i B x c i') (a := y) D (hw 9 (by simp))
    have hi := inv7_same hinv 10 (by omega) hls
    obtain rfl := inv7_old hinv (E12.down hdown (by simp) (E11.down hdown (by simp) hun))
    refine wp_value (mx_look (v := .int .i64 c) ho ?_) (hK _ _ rfl hi)
    show (Instr.lookup 43 (y.tmps.getD 28 undef) (y.tmps.getD 32 undef) false).run Try.prog w0.drew = _
    rw [f5, f9]
    exact hlook
  have s11 : ∀ o, ops[11]? = some o → Step Try.prog ops (fun i' v => v = vals7 b off len cap i B x c i') (inv7 w0.drew W') a0 Q 11 o := by
    refine E11.step fun o hd ho hg hw => ?_
    intro y w listed hsz hls hun hwt hdown D R hinv K hK
    refine ⟨wanted_none hg, ?_⟩
    rw [hN] at hls
    have f10 : y.tmps.getD 33 undef = .int .i64 c := E10.post (Post := fun i' v => v = vals7 b off len cap i B x c i') (a := y) D (hw 10 (by simp))
    have hi := inv7_same hinv 11 (by omega) hls
    refine wp_value (mx_add ho f10 (fun _ => rfl)) ?_
    rw [hc]
    exact hK _ _ rfl hi
  have s12 : ∀ o, ops[12]? = some o → Step Try.prog ops (fun i' v => v = vals7 b off len cap i B x c i') (inv7 w0.drew W') a0 Q 12 o := by
    refine E12.step fun o hd ho hg hw => ?_
    intro y w listed hsz hls hun hwt hdown D R hinv K hK
    refine ⟨wanted_none hg, ?_⟩
    rw [hN] at hls
    have f0 : y.tmps.getD 23 undef = .map (some B) := E0.post (Post := fun i' v => v = vals7 b off len cap i B x c i') (a := y) D (hw 0 (by simp))
    have f4 : y.tmps.getD 27 undef = .agg #[.int .i64 x.1, .int .i64 x.2.1, .int .i64 x.2.2.1, .int .i64 x.2.2.2] := E4.post (Post := fun i' v => v = vals7 b off len cap i B x c i') (a := y) D (hw 4 (by simp))
    have f11 : y.tmps.getD 34 undef = .int .i64 (c + 1) := E11.post (Post := fun i' v => v = vals7 b off len cap i B x c i') (a := y) D (hw 11 (by simp))
    obtain rfl := inv7_old hinv hun
    refine wp_skip (w' := W') (mx_update ho ?_) (hK _ _ rfl ?_)
    · show (Instr.mapUpdate 43 (y.tmps.getD 23 undef) (y.tmps.getD 27 undef) (y.tmps.getD 34 undef)).run Try.prog w0.drew = _
      rw [f0, f4, f11]
      exact hupd
    · unfold inv7
      rw [getD_set (by omega), if_pos rfl]
      simp
  refine region_free (Post := fun i' v => v = vals7 b off len cap i B x c i') (Inv := inv7 w0.drew W') hmx (low_of hlow) (fun i o ho => by rw [ha0]; exact dst_of hds i o ho) (inj_of hnd) ?_ ?_ ?_
  · unfold inv7
    simp [hN]
  · intro i o ho
    have hi : i < 13 := by
      rw [← hN]
      rcases Nat.lt_or_ge i ops.size with h | h
      · exact h
      · rw [Array.getElem?_eq_none h] at ho; cases ho
    clear hend
    by_cases e0 : i = 0
    · subst e0; exact s0 o ho
    by_cases e1 : i = 1
    · subst e1; exact s1 o ho
    by_cases e2 : i = 2
    · subst e2; exact s2 o ho
    by_cases e3 : i = 3
    · subst e3; exact s3 o ho
    by_cases e4 : i = 4
    · subst e4; exact s4 o ho
    by_cases e5 : i = 5
    · subst e5; exact s5 o ho
    by_cases e6 : i = 6
    · subst e6; exact s6 o ho
    by_cases e7 : i = 7
    · subst e7; exact s7 o ho
    by_cases e8 : i = 8
    · subst e8; exact s8 o ho
    by_cases e9 : i = 9
    · subst e9; exact s9 o ho
    by_cases e10 : i = 10
    · subst e10; exact s10 o ho
    by_cases e11 : i = 11
    · subst e11; exact s11 o ho
    by_cases e12 : i = 12
    · subst e12; exact s12 o ho
    omega
  · intro y w listed hsz hdf hls hall hinv hp hr
    have e : w = W' := by
      have := hinv
      unfold inv7 at this
      rw [hall 12 (by omega)] at this
      simpa using this
    subst e
    exact hend y hsz hdf (fun t ht => hr t (not_of ht))
end Go.Proofs.Ytbfgnlpgfjokhaa
