/- The statement of TokenSafe that draws its order and visits. Conditions: what is said of the slots that it reads, and of the cells. -/
import Derived.Test.YtbjkncfpddhpkaaAi
import Derived.Deep.MidRow
namespace Go.Proofs.Ytbjkncfpddhpkaa
open Go.RowKit
theorem mixed28 : Try.prog.follows .mixedOrders = true := by kernel_rfl
theorem exec_call4 {o : Oper} {w : World} (ρ : Operand → Value) {f : FuncId} (hcf : ∀ args w, (callFunc f args).run Try.prog w = .ok (.enter f args) w) (hf : ρ (.func f) = .func (.func f) #[] #[]) {x y z u : Operand} {ts : Array TypeId} (ho : o.op = .call { callee := .value (.func f), args := #[x, y, z, u], argTypes := ts }) : (execOp ρ o).run Try.prog w = .ok (.enter f #[ρ x, ρ y, ρ z, ρ u]) w := by
  simp [execOp, ho, resolve, invoke, hf, go_sem, hcf]
theorem ox_addk {o : Oper} {w : World} {ρ : Operand → Value} {x : Operand} (ho : o.op = .binOp .add 3 (.const (.int .i64 1)) x 3) (hc : ∀ v, ρ (.const v) = v) {a : Nat} (hx : ρ x = .int .i64 (a : Int)) (ha : a < 1000) : (execOp ρ o).run Try.prog w = .ok (.value (.int .i64 (1 + (a : Int)))) w := by
  have e2 : IntKind.i64.wrap (1 + (a : Int)) = 1 + (a : Int) := by rw [IntKind.wrap_i64]; omega
  simp [execOp, ho, hx, hc, go_sem, e2]
/-- What is said of a slot. -/
def p28 (ba k : Nat) (a : Int) (old : Array Value) (G : Array Value → Prop) (i : Nat) (v : Value) : Prop :=
  match i with
  | 0 => v = .agg old
  | 1 => v = .int .i64 (k : Int)
  | 2 => v = .int .i64 (1 + (k : Int))
  | 3 => v = .int .i64 (k : Int)
  | 4 => v = .pointer (some ⟨ba, k, none⟩)
  | 5 => v = .int .i64 a
  | 6 => ∃ new, v = .agg new ∧ G new
  | _ => True
/-- What memory is, by whether the token is laid. -/
def I28 (w0 : World) (bt : Nat) (G : Array Value → Prop) (b : Bool) (w : World) : Prop :=
  if b = true then Mod (fun i => i = bt) w0 w ∧ ∃ new, G new ∧ Bk w bt 26 new else Mod (fun _ => False) w0 w
theorem getD_ne {l : Array Bool} {i t : Nat} (h : i ≠ t) : (l.setIfInBounds i true).getD t false = l.getD t false := by
  simp only [Array.getD_eq_getD_getElem?, Array.getElem?_setIfInBounds, if_neg h]
set_option maxRecDepth 100000 in
set_option maxHeartbeats 4000000 in
theorem region28 {ops : Array Oper} {id : Nat} {a0 : Act} {w0 : World} {Q : Exit → Act → World → Prop} (bt ba k : Nat) (a : Int) (old : Array Value) (G : Array Value → Prop)
    (E0 : Is ops 0 (some 107) (Op.load 26 (Operand.tmp 6)) none [])
    (E1 : Is ops 1 (some 108) (Op.move (Operand.tmp 13)) none [])
    (E2 : Is ops 2 (some 109) (Op.binOp BinOp.add 3 (Operand.const (Value.int IntKind.i64 1)) (Operand.tmp 108) 3) none [1])
    (E3 : Is ops 3 (some 110) (Op.move (Operand.tmp 13)) none [])
    (E4 : Is ops 4 (some 111) (Op.indexAddr 41 (Operand.tmp 8) (Operand.tmp 110)) none [3])
    (E5 : Is ops 5 (some 112) (Op.load 3 (Operand.tmp 111)) none [4])
    (E6 : Is ops 6 (some 113) (Op.call { callee := Callee.value (Operand.func 9), args := #[Operand.tmp 107, Operand.tmp 109, Operand.tmp 112, Operand.const (Value.slice none 0 0)], argTypes := #[26, 3, 3, 24] }) none [0, 2, 5])
    (E7 : Is ops 7 none (Op.store 26 (Operand.tmp 6) (Operand.tmp 113)) none [0, 1, 2, 3, 4, 5, 6])
    (hN : ops.size = 8) (hlow : lowB ops = true) (hds : dsts ops = [some 107, some 108, some 109, some 110, some 111, some 112, some 113, none]) (hnd : injB ops = true)
    (ha0 : a0.tmps.size = 146) (h6 : a0.tmps.getD 6 undef = .pointer (some ⟨bt, 0, none⟩)) (h8 : a0.tmps.getD 8 undef = .pointer (some ⟨ba, 0, none⟩)) (h13 : a0.tmps.getD 13 undef = .int .i64 (k : Int))
    (hk : k < 8) (hold : old.size = 9) (hB : Bk w0 bt 26 old) (ca : w0.cell? ⟨ba, k, none⟩ = some (.int .i64 a)) (hG : ∀ new, G new → new.size = 9 ∧ new.toList.all (·.oneCell') = true)
    (HV : ∀ W, Mod (fun _ => False) w0.drew W → Calls Try.prog 9 #[.agg old, .int .i64 (1 + (k : Int)), .int .i64 a, .slice none 0 0] W fun e w' => ∃ new, e = .returned (.agg new) ∧ G new ∧ Mod (fun _ => False) W w')
    (hend : ∀ y107 y108 y109 y110 y111 y112 y113 new w, G new → Bk w bt 26 new → Mod (fun i => i = bt) w0 w → Q .normal (puts a0 [(107, y107), (108, y108), (109, y109), (110, y110), (111, y111), (112, y112), (113, y113)]) w) :
    (Code.region id ops true).wp Try.prog Q a0 w0 := by
  have DD : ∀ {W : World} {a : Addr} {v : Value}, Mod (fun _ => False) w0.drew W → w0.cell? a = some v → W.cell? a = some v := fun hW hc => hW.cell (by simpa using hc) (fun h => h)
  have DB : ∀ {W : World}, Mod (fun _ => False) w0.drew W → Bk W bt 26 old := fun hW => (hB.mod ((Mod.refl (fun _ => False) w0).drew) (fun h => h)).mod hW (fun h => h)
  have idx : ∀ (W : World), (Instr.indexAt 41 (.pointer (some ⟨ba, 0, none⟩)) (.int .i64 (k : Int))).run Try.prog W = .ok (.pointer (some ⟨ba, k, none⟩)) W := fun W => by
    have hj' : (k : Int) < 8 := by omega
    have hj0 : (0 : Int) ≤ (k : Int) := by omega
    simp [go_sem, hj', hj0]
  have ld : ∀ (W : World), W.cell? ⟨ba, k, none⟩ = some (.int .i64 a) → (Instr.loadAt 3 (.pointer (some ⟨ba, k, none⟩))).run Try.prog W = .ok (.int .i64 a) W := fun W h => by
    simp [go_sem, h]
  have s0 : ∀ o, ops[0]? = some o → Step Try.prog ops (p28 ba k a old G) (fun l W => I28 w0.drew bt G (l.getD 7 false) W) a0 Q 0 o := by
    refine E0.step fun o hd ho hg hw => ?_
    intro y w listed hsz hls hun hwt hdown D' R hinv K hK
    refine .inl ⟨wanted_none hg, ?_⟩
    have h7 : listed.getD 7 false = false := E7.down hdown (j := 0) (by simp) hun
    have hinv2 : Mod (fun _ => False) w0.drew w := by
      have h : I28 _ _ _ _ w := hinv
      rw [h7] at h
      exact h
    have hin : ∀ w', Mod (fun _ => False) w0.drew w' → (fun l W => I28 w0.drew bt G (l.getD 7 false) W) (listed.setIfInBounds 0 true) w' := fun w' hm => by
      show I28 _ _ _ _ _
      rw [getD_ne (by decide), h7]
      exact hm
    have f6 : y.eval (Operand.tmp 6) = .pointer (some ⟨bt, 0, none⟩) := (R 6 (not_of (by rw [hds]; decide))).trans h6
    exact wp_load_mid (P := Try.prog) 26 _ ho bt 0 f6 old.toList _ (DB hinv2).row Try.underlying26 rfl (by rw [infoT]; simp [hold]) (hK _ _ (by show _ = _; rw [Array.toArray_toList]) (hin w hinv2))
  have s1 : ∀ o, ops[1]? = some o → Step Try.prog ops (p28 ba k a old G) (fun l W => I28 w0.drew bt G (l.getD 7 false) W) a0 Q 1 o := by
    refine E1.step fun o hd ho hg hw => ?_
    intro y w listed hsz hls hun hwt hdown D' R hinv K hK
    refine .inl ⟨wanted_none hg, ?_⟩
    have h7 : listed.getD 7 false = false := E7.down hdown (j := 1) (by simp) hun
    have hinv2 : Mod (fun _ => False) w0.drew w := by
      have h : I28 _ _ _ _ w := hinv
      rw [h7] at h
      exact h
    have hin : ∀ w', Mod (fun _ => False) w0.drew w' → (fun l W => I28 w0.drew bt G (l.getD 7 false) W) (listed.setIfInBounds 1 true) w' := fun w' hm => by
      show I28 _ _ _ _ _
      rw [getD_ne (by decide), h7]
      exact hm
    have f13 : y.eval (Operand.tmp 13) = .int .i64 (k : Int) := (R 13 (not_of (by rw [hds]; decide))).trans h13
    exact wp_value (ox_move ho f13) (hK _ _ rfl (hin w hinv2))
  have s2 : ∀ o, ops[2]? = some o → Step Try.prog ops (p28 ba k a old G) (fun l W => I28 w0.drew bt G (l.getD 7 false) W) a0 Q 2 o := by
    refine E2.step fun o hd ho hg hw => ?_
    intro y w listed hsz hls hun hwt hdown D' R hinv K hK
    refine .inl ⟨wanted_none hg, ?_⟩
    have h7 : listed.getD 7 false = false := E7.down hdown (j := 2) (by simp) hun
    have hinv2 : Mod (fun _ => False) w0.drew w := by
      have h : I28 _ _ _ _ w := hinv
      rw [h7] at h
      exact h
    have hin : ∀ w', Mod (fun _ => False) w0.drew w' → (fun l W => I28 w0.drew bt G (l.getD 7 false) W) (listed.setIfInBounds 2 true) w' := fun w' hm => by
      show I28 _ _ _ _ _
      rw [getD_ne (by decide), h7]
      exact hm
    have f108 : y.eval (Operand.tmp 108) = .int .i64 (k : Int) := E1.post (Post := (p28 ba k a old G)) (a := y) D' (hw 1 (by simp))
    exact wp_value (ox_addk ho (fun _ => rfl) f108 (by omega)) (hK _ _ rfl (hin w hinv2))
  have s3 : ∀ o, ops[3]? = some o → Step Try.prog ops (p28 ba k a old G) (fun l W => I28 w0.drew bt G (l.getD 7 false) W) a0 Q 3 o := by
    refine E3.step fun o hd ho hg hw => ?_
    intro y w listed hsz hls hun hwt hdown D' R hinv K hK
    refine .inl ⟨wanted_none hg, ?_⟩
    have h7 : listed.getD 7 false = false := E7.down hdown (j := 3) (by simp) hun
    have hinv2 : Mod (fun _ => False) w0.drew w := by
      have h : I28 _ _ _ _ w := hinv
      rw [h7] at h
      exact h
    have hin : ∀ w', Mod (fun _ => False) w0.drew w' → (fun l W => I28 w0.drew bt G (l.getD 7 false) W) (listed.setIfInBounds 3 true) w' := fun w' hm => by
      show I28 _ _ _ _ _
      rw [getD_ne (by decide), h7]
      exact hm
    have f13 : y.eval (Operand.tmp 13) = .int .i64 (k : Int) := (R 13 (not_of (by rw [hds]; decide))).trans h13
    exact wp_value (ox_move ho f13) (hK _ _ rfl (hin w hinv2))
  have s4 : ∀ o, ops[4]? = some o → Step Try.prog ops (p28 ba k a old G) (fun l W => I28 w0.drew bt G (l.getD 7 false) W) a0 Q 4 o := by
    refine E4.step fun o hd ho hg hw => ?_
    intro y w listed hsz hls hun hwt hdown D' R hinv K hK
    refine .inl ⟨wanted_none hg, ?_⟩
    have h7 : listed.getD 7 false = false := E7.down hdown (j := 4) (by simp) hun
    have hinv2 : Mod (fun _ => False) w0.drew w := by
      have h : I28 _ _ _ _ w := hinv
      rw [h7] at h
      exact h
    have hin : ∀ w', Mod (fun _ => False) w0.drew w' → (fun l W => I28 w0.drew bt G (l.getD 7 false) W) (listed.setIfInBounds 4 true) w' := fun w' hm => by
      show I28 _ _ _ _ _
      rw [getD_ne (by decide), h7]
      exact hm
    have f8 : y.eval (Operand.tmp 8) = .pointer (some ⟨ba, 0, none⟩) := (R 8 (not_of (by rw [hds]; decide))).trans h8
    have f110 : y.eval (Operand.tmp 110) = .int .i64 (k : Int) := E3.post (Post := (p28 ba k a old G)) (a := y) D' (hw 3 (by simp))
    exact wp_value (ox_index ho f8 f110 (idx w)) (hK _ _ rfl (hin w hinv2))
  have s5 : ∀ o, ops[5]? = some o → Step Try.prog ops (p28 ba k a old G) (fun l W => I28 w0.drew bt G (l.getD 7 false) W) a0 Q 5 o := by
    refine E5.step fun o hd ho hg hw => ?_
    intro y w listed hsz hls hun hwt hdown D' R hinv K hK
    refine .inl ⟨wanted_none hg, ?_⟩
    have h7 : listed.getD 7 false = false := E7.down hdown (j := 5) (by simp) hun
    have hinv2 : Mod (fun _ => False) w0.drew w := by
      have h : I28 _ _ _ _ w := hinv
      rw [h7] at h
      exact h
    have hin : ∀ w', Mod (fun _ => False) w0.drew w' → (fun l W => I28 w0.drew bt G (l.getD 7 false) W) (listed.setIfInBounds 5 true) w' := fun w' hm => by
      show I28 _ _ _ _ _
      rw [getD_ne (by decide), h7]
      exact hm
    have f111 : y.eval (Operand.tmp 111) = .pointer (some ⟨ba, k, none⟩) := E4.post (Post := (p28 ba k a old G)) (a := y) D' (hw 4 (by simp))
    exact wp_value (ox_load ho f111 (ld w (DD hinv2 ca))) (hK _ _ rfl (hin w hinv2))
  have s6 : ∀ o, ops[6]? = some o → Step Try.prog ops (p28 ba k a old G) (fun l W => I28 w0.drew bt G (l.getD 7 false) W) a0 Q 6 o := by
    refine E6.step fun o hd ho hg hw => ?_
    intro y w listed hsz hls hun hwt hdown D' R hinv K hK
    refine .inl ⟨wanted_none hg, ?_⟩
    have h7 : listed.getD 7 false = false := E7.down hdown (j := 6) (by simp) hun
    have hinv2 : Mod (fun _ => False) w0.drew w := by
      have h : I28 _ _ _ _ w := hinv
      rw [h7] at h
      exact h
    have hin : ∀ w', Mod (fun _ => False) w0.drew w' → (fun l W => I28 w0.drew bt G (l.getD 7 false) W) (listed.setIfInBounds 6 true) w' := fun w' hm => by
      show I28 _ _ _ _ _
      rw [getD_ne (by decide), h7]
      exact hm
    have f107 : y.eval (Operand.tmp 107) = .agg old := E0.post (Post := (p28 ba k a old G)) (a := y) D' (hw 0 (by simp))
    have f109 : y.eval (Operand.tmp 109) = .int .i64 (1 + (k : Int)) := E2.post (Post := (p28 ba k a old G)) (a := y) D' (hw 2 (by simp))
    have f112 : y.eval (Operand.tmp 112) = .int .i64 a := E5.post (Post := (p28 ba k a old G)) (a := y) D' (hw 5 (by simp))
    refine wp_enter (f := 9) (args := #[.agg old, .int .i64 (1 + (k : Int)), .int .i64 a, .slice none 0 0]) ?_ (HV w hinv2) ?_
    · rw [exec_call4 y.eval (fun args w => by simp [go_sem]) rfl ho, f107, f109, f112]; rfl
    · rintro e w' ⟨new, rfl, hGn, hm⟩
      exact ⟨_, rfl, hK _ _ ⟨new, rfl, hGn⟩ (hin w' (hinv2.and hm))⟩
  have s7 : ∀ o, ops[7]? = some o → Step Try.prog ops (p28 ba k a old G) (fun l W => I28 w0.drew bt G (l.getD 7 false) W) a0 Q 7 o := by
    refine E7.step fun o hd ho hg hw => ?_
    intro y w listed hsz hls hun hwt hdown D' R hinv K hK
    refine .inl ⟨wanted_none hg, ?_⟩
    have f6 : y.eval (Operand.tmp 6) = .pointer (some ⟨bt, 0, none⟩) := (R 6 (not_of (by rw [hds]; decide))).trans h6
    obtain ⟨new, f113, hGn⟩ : ∃ new, y.eval (Operand.tmp 113) = .agg new ∧ G new := E6.post (Post := (p28 ba k a old G)) (a := y) D' (hw 6 (by simp))
    have hinv2 : Mod (fun _ => False) w0.drew w := by
      have h : I28 _ _ _ _ w := hinv
      rw [hun] at h
      exact h
    obtain ⟨hg9, hg1⟩ := hG new hGn
    have hBw := DB hinv2
    refine wp_store_mid (P := Try.prog) 26 _ _ ho bt 0 new f6 f113 (hBw.there (by omega)) (by rw [infoT]; simp [hg9]) (by rw [← Array.all_toList]; exact hg1) (hK _ _ trivial ?_)
    show I28 _ _ _ _ _
    rw [getD_set (by rw [hls, hN]; decide), if_pos rfl]
    exact ⟨hinv2.trans (setCells_mod _ _ _ _) (fun _ _ h => h.elim) (fun _ _ e => e), new, hGn, hBw.whole new (by omega)⟩
  refine region_free (Post := (p28 ba k a old G)) (Inv := (fun l W => I28 w0.drew bt G (l.getD 7 false) W)) mixed28 (low_of hlow) (fun i o ho => by rw [ha0]; exact dst_of (by rw [hds]; decide) i o ho) (inj_of hnd) ?_ ?_ ?_
  · show I28 _ _ _ _ _
    rw [hN]
    exact Mod.refl _ _
  · intro i o ho
    have hi : i < 8 := by
      rw [← hN]
      rcases Nat.lt_or_ge i ops.size with h | h
      · exact h
      · rw [Array.getElem?_eq_none h] at ho; cases ho
    clear hend
    by_cases e0 : i = 0
    · subst e0; exact s0 o ho
    by_cases e1 : i = 1
    · subst e1; exact s1 o ho
    by_cases e2 : i = 2
    · subst e2; exact s2 o ho
    by_cases e3 : i = 3
    · subst e3; exact s3 o ho
    by_cases e4 : i = 4
    · subst e4; exact s4 o ho
    by_cases e5 : i = 5
    · subst e5; exact s5 o ho
    by_cases e6 : i = 6
    · subst e6; exact s6 o ho
    by_cases e7 : i = 7
    · subst e7; exact s7 o ho
    omega
  · intro y w listed hsz hdf hls hall hinv hp hr
    have h7 := hall 7 (by rw [hN]; decide)
    have hI : I28 _ _ _ _ w := hinv
    rw [h7] at hI
    obtain ⟨hm, new, hGn, hBn⟩ : Mod (fun i => i = bt) w0.drew w ∧ ∃ new, G new ∧ Bk w bt 26 new := hI
    have e : y = puts a0 [(107, y.tmps.getD 107 undef), (108, y.tmps.getD 108 undef), (109, y.tmps.getD 109 undef), (110, y.tmps.getD 110 undef), (111, y.tmps.getD 111 undef), (112, y.tmps.getD 112 undef), (113, y.tmps.getD 113 undef)] := by
      refine eq_puts hsz hdf (nodup_of (D := [some 107, some 108, some 109, some 110, some 111, some 112, some 113]) rfl (by decide)) (by rw [ha0]; simp) ?_ ?_
      · intro q hq
        simp only [List.mem_cons, List.not_mem_nil, or_false] at hq
        rcases hq with rfl | rfl | rfl | rfl | rfl | rfl | rfl
        all_goals rfl
      · intro t ht
        refine hr t (not_of ?_)
        rw [hds]
        simp only [List.mem_cons, List.not_mem_nil, or_false, forall_eq_or_imp, forall_eq] at ht
        simp only [List.contains_cons, List.contains_nil, Bool.or_eq_false_iff, beq_eq_false_iff_ne, ne_eq, Option.some.injEq, Bool.or_false]
        simp only [eq_comm (a := t)]
        simp [ht]
    rw [e]
    exact hend _ _ _ _ _ _ _ new w hGn hBn (((Mod.refl (fun i => i = bt) w0).drew).trans hm (fun _ _ h => h) (fun _ _ h => h))
end Go.Proofs.Ytbjkncfpddhpkaa
