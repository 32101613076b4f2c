/- The statement of OrderPlays that draws its order and holds two data against each other. Conditions: what is said of the slots that it reads, and of the rows. -/
import Derived.Test.YtbmhgglnoofnjaaOf
import Derived.Test.YtbmhgglnoofnjaaFrx
import Derived.Deep.MidRow
namespace Go.Proofs.Ytbmhgglnoofnjaa
open Go.RowKit
/-- What is said of a slot. -/
def p17 (ga oa ca gb ob cb n j : Nat) (da db : Array Value) (i : Nat) (v : Value) : Prop :=
  match i with
  | 0 => v = .slice (some ⟨ga, oa, none⟩) n ca
  | 1 => v = .int .i64 (j : Int)
  | 2 => v = .pointer (some ⟨ga, oa + j * 18, none⟩)
  | 3 => v = .agg da
  | 4 => v = .slice (some ⟨gb, ob, none⟩) n cb
  | 5 => v = .int .i64 (j : Int)
  | 6 => v = .pointer (some ⟨gb, ob + j * 18, none⟩)
  | 7 => v = .agg db
  | 8 => v = .bool true
  | 9 => v = .bool false
  | _ => True
set_option maxRecDepth 100000 in
set_option maxHeartbeats 4000000 in
theorem region17 {ops : Array Oper} {id : Nat} {a0 : Act} {w0 : World} {Q : Exit → Act → World → Prop} (ga oa ca gb ob cb n j : Nat) (da db : Array Value)
    (E0 : Is ops 0 (some 97) (Op.move (Operand.tmp 8)) none [])
    (E1 : Is ops 1 (some 98) (Op.move (Operand.tmp 12)) none [])
    (E2 : Is ops 2 (some 99) (Op.indexAddr 45 (Operand.tmp 97) (Operand.tmp 98)) none [0, 1])
    (E3 : Is ops 3 (some 100) (Op.load 42 (Operand.tmp 99)) none [2])
    (E4 : Is ops 4 (some 101) (Op.move (Operand.tmp 10)) none [])
    (E5 : Is ops 5 (some 102) (Op.move (Operand.tmp 12)) none [])
    (E6 : Is ops 6 (some 103) (Op.indexAddr 45 (Operand.tmp 101) (Operand.tmp 102)) none [4, 5])
    (E7 : Is ops 7 (some 104) (Op.load 42 (Operand.tmp 103)) none [6])
    (E8 : Is ops 8 (some 105) (Op.call { callee := Callee.value (Operand.func 17), args := #[Operand.tmp 100, Operand.tmp 104], argTypes := #[42, 42] }) none [3, 7])
    (E9 : Is ops 9 (some 106) (Op.unOp UnOp.not 4 (Operand.tmp 105)) none [8])
    (hN : ops.size = 10) (hlow : lowB ops = true) (hds : dsts ops = [some 97, some 98, some 99, some 100, some 101, some 102, some 103, some 104, some 105, some 106]) (hnd : injB ops = true)
    (ha0 : a0.tmps.size = 163) (h8 : a0.tmps.getD 8 undef = .slice (some ⟨ga, oa, none⟩) n ca) (h10 : a0.tmps.getD 10 undef = .slice (some ⟨gb, ob, none⟩) n cb) (h12 : a0.tmps.getD 12 undef = .int .i64 (j : Int))
    (hj : j < n) (hda : da.size = 18) (hdb : db.size = 18) (ra : w0.rangeAt ga (oa + j * 18) da.toList) (rb : w0.rangeAt gb (ob + j * 18) db.toList)
    (HS : ∀ W, Mod (fun _ => False) w0.drew W → Calls Try.prog 17 #[.agg da, .agg db] W fun e w' => e = .returned (.bool true) ∧ Mod (fun _ => False) W w')
    (hend : ∀ y97 y98 y99 y100 y101 y102 y103 y104 y105 w, Mod (fun _ => False) w0 w → Q .normal (puts a0 [(97, y97), (98, y98), (99, y99), (100, y100), (101, y101), (102, y102), (103, y103), (104, y104), (105, y105), (106, .bool false)]) w) :
    (Code.region id ops true).wp Try.prog Q a0 w0 := by
  have DR : ∀ {W : World} {b o : Nat} {cs : List Value}, Mod (fun _ => False) w0.drew W → w0.rangeAt b o cs → W.rangeAt b o cs := fun hW hc t c ht => hW.cell (by simpa using hc t c ht) (fun h => h)
  have idxa : ∀ (W : World), (Instr.indexAt 45 (.slice (some ⟨ga, oa, none⟩) n ca) (.int .i64 (j : Int))).run Try.prog W = .ok (.pointer (some ⟨ga, oa + j * 18, none⟩)) W := fun W => by
    have hj' : (j : Int) < (n : Int) := by omega
    have hj0 : (0 : Int) ≤ (j : Int) := by omega
    simp [go_sem, hj', hj0]
  have idxb : ∀ (W : World), (Instr.indexAt 45 (.slice (some ⟨gb, ob, none⟩) n cb) (.int .i64 (j : Int))).run Try.prog W = .ok (.pointer (some ⟨gb, ob + j * 18, none⟩)) W := fun W => by
    have hj' : (j : Int) < (n : Int) := by omega
    have hj0 : (0 : Int) ≤ (j : Int) := by omega
    simp [go_sem, hj', hj0]
  have s0 : ∀ o, ops[0]? = some o → Step Try.prog ops (p17 ga oa ca gb ob cb n j da db) (fun _ W => Mod (fun _ => False) w0.drew W) a0 Q 0 o := by
    refine E0.step fun o hd ho hg hw => ?_
    intro y w listed hsz hls hun hwt hdown D' R hinv K hK
    refine .inl ⟨wanted_none hg, ?_⟩
    have f8 : y.eval (Operand.tmp 8) = .slice (some ⟨ga, oa, none⟩) n ca := (R 8 (not_of (by rw [hds]; decide))).trans h8
    exact wp_value (ox_move ho f8) (hK _ _ rfl hinv)
  have s1 : ∀ o, ops[1]? = some o → Step Try.prog ops (p17 ga oa ca gb ob cb n j da db) (fun _ W => Mod (fun _ => False) w0.drew W) a0 Q 1 o := by
    refine E1.step fun o hd ho hg hw => ?_
    intro y w listed hsz hls hun hwt hdown D' R hinv K hK
    refine .inl ⟨wanted_none hg, ?_⟩
    have f12 : y.eval (Operand.tmp 12) = .int .i64 (j : Int) := (R 12 (not_of (by rw [hds]; decide))).trans h12
    exact wp_value (ox_move ho f12) (hK _ _ rfl hinv)
  have s2 : ∀ o, ops[2]? = some o → Step Try.prog ops (p17 ga oa ca gb ob cb n j da db) (fun _ W => Mod (fun _ => False) w0.drew W) a0 Q 2 o := by
    refine E2.step fun o hd ho hg hw => ?_
    intro y w listed hsz hls hun hwt hdown D' R hinv K hK
    refine .inl ⟨wanted_none hg, ?_⟩
    have f97 : y.eval (Operand.tmp 97) = .slice (some ⟨ga, oa, none⟩) n ca := E0.post (Post := (p17 ga oa ca gb ob cb n j da db)) (a := y) D' (hw 0 (by simp))
    have f98 : y.eval (Operand.tmp 98) = .int .i64 (j : Int) := E1.post (Post := (p17 ga oa ca gb ob cb n j da db)) (a := y) D' (hw 1 (by simp))
    exact wp_value (ox_index ho f97 f98 (idxa w)) (hK _ _ rfl hinv)
  have s3 : ∀ o, ops[3]? = some o → Step Try.prog ops (p17 ga oa ca gb ob cb n j da db) (fun _ W => Mod (fun _ => False) w0.drew W) a0 Q 3 o := by
    refine E3.step fun o hd ho hg hw => ?_
    intro y w listed hsz hls hun hwt hdown D' R hinv K hK
    refine .inl ⟨wanted_none hg, ?_⟩
    have f99 : y.eval (Operand.tmp 99) = .pointer (some ⟨ga, oa + j * 18, none⟩) := E2.post (Post := (p17 ga oa ca gb ob cb n j da db)) (a := y) D' (hw 2 (by simp))
    exact wp_load_mid (P := Try.prog) 42 _ ho ga (oa + j * 18) f99 da.toList _ (DR hinv ra) Try.underlying42 rfl (by rw [info18]; simp [hda]) (hK _ _ (by show _ = _; rw [Array.toArray_toList]) hinv)
  have s4 : ∀ o, ops[4]? = some o → Step Try.prog ops (p17 ga oa ca gb ob cb n j da db) (fun _ W => Mod (fun _ => False) w0.drew W) a0 Q 4 o := by
    refine E4.step fun o hd ho hg hw => ?_
    intro y w listed hsz hls hun hwt hdown D' R hinv K hK
    refine .inl ⟨wanted_none hg, ?_⟩
    have f10 : y.eval (Operand.tmp 10) = .slice (some ⟨gb, ob, none⟩) n cb := (R 10 (not_of (by rw [hds]; decide))).trans h10
    exact wp_value (ox_move ho f10) (hK _ _ rfl hinv)
  have s5 : ∀ o, ops[5]? = some o → Step Try.prog ops (p17 ga oa ca gb ob cb n j da db) (fun _ W => Mod (fun _ => False) w0.drew W) a0 Q 5 o := by
    refine E5.step fun o hd ho hg hw => ?_
    intro y w listed hsz hls hun hwt hdown D' R hinv K hK
    refine .inl ⟨wanted_none hg, ?_⟩
    have f12 : y.eval (Operand.tmp 12) = .int .i64 (j : Int) := (R 12 (not_of (by rw [hds]; decide))).trans h12
    exact wp_value (ox_move ho f12) (hK _ _ rfl hinv)
  have s6 : ∀ o, ops[6]? = some o → Step Try.prog ops (p17 ga oa ca gb ob cb n j da db) (fun _ W => Mod (fun _ => False) w0.drew W) a0 Q 6 o := by
    refine E6.step fun o hd ho hg hw => ?_
    intro y w listed hsz hls hun hwt hdown D' R hinv K hK
    refine .inl ⟨wanted_none hg, ?_⟩
    have f101 : y.eval (Operand.tmp 101) = .slice (some ⟨gb, ob, none⟩) n cb := E4.post (Post := (p17 ga oa ca gb ob cb n j da db)) (a := y) D' (hw 4 (by simp))
    have f102 : y.eval (Operand.tmp 102) = .int .i64 (j : Int) := E5.post (Post := (p17 ga oa ca gb ob cb n j da db)) (a := y) D' (hw 5 (by simp))
    exact wp_value (ox_index ho f101 f102 (idxb w)) (hK _ _ rfl hinv)
  have s7 : ∀ o, ops[7]? = some o → Step Try.prog ops (p17 ga oa ca gb ob cb n j da db) (fun _ W => Mod (fun _ => False) w0.drew W) a0 Q 7 o := by
    refine E7.step fun o hd ho hg hw => ?_
    intro y w listed hsz hls hun hwt hdown D' R hinv K hK
    refine .inl ⟨wanted_none hg, ?_⟩
    have f103 : y.eval (Operand.tmp 103) = .pointer (some ⟨gb, ob + j * 18, none⟩) := E6.post (Post := (p17 ga oa ca gb ob cb n j da db)) (a := y) D' (hw 6 (by simp))
    exact wp_load_mid (P := Try.prog) 42 _ ho gb (ob + j * 18) f103 db.toList _ (DR hinv rb) Try.underlying42 rfl (by rw [info18]; simp [hdb]) (hK _ _ (by show _ = _; rw [Array.toArray_toList]) hinv)
  have s8 : ∀ o, ops[8]? = some o → Step Try.prog ops (p17 ga oa ca gb ob cb n j da db) (fun _ W => Mod (fun _ => False) w0.drew W) a0 Q 8 o := by
    refine E8.step fun o hd ho hg hw => ?_
    intro y w listed hsz hls hun hwt hdown D' R hinv K hK
    refine .inl ⟨wanted_none hg, ?_⟩
    have f100 : y.eval (Operand.tmp 100) = .agg da := E3.post (Post := (p17 ga oa ca gb ob cb n j da db)) (a := y) D' (hw 3 (by simp))
    have f104 : y.eval (Operand.tmp 104) = .agg db := E7.post (Post := (p17 ga oa ca gb ob cb n j da db)) (a := y) D' (hw 7 (by simp))
    refine wp_enter (f := 17) (args := #[.agg da, .agg db]) ?_ (HS w hinv) ?_
    · rw [exec_call2 y.eval (fun args w => by simp [go_sem]) rfl ho, f100, f104]
    · rintro e w' ⟨rfl, hm⟩
      exact ⟨_, rfl, hK _ _ rfl (hinv.and hm)⟩
  have s9 : ∀ o, ops[9]? = some o → Step Try.prog ops (p17 ga oa ca gb ob cb n j da db) (fun _ W => Mod (fun _ => False) w0.drew W) a0 Q 9 o := by
    refine E9.step fun o hd ho hg hw => ?_
    intro y w listed hsz hls hun hwt hdown D' R hinv K hK
    refine .inl ⟨wanted_none hg, ?_⟩
    have f105 : y.eval (Operand.tmp 105) = .bool true := E8.post (Post := (p17 ga oa ca gb ob cb n j da db)) (a := y) D' (hw 8 (by simp))
    exact wp_value (ox_not ho f105) (hK _ _ rfl hinv)
  refine region_free (Post := (p17 ga oa ca gb ob cb n j da db)) (Inv := (fun _ W => Mod (fun _ => False) w0.drew W)) mixed (low_of hlow) (fun i o ho => by rw [ha0]; exact dst_of (by rw [hds]; decide) i o ho) (inj_of hnd) (Mod.refl _ _) ?_ ?_
  · intro i o ho
    have hi : i < 10 := by
      rw [← hN]
      rcases Nat.lt_or_ge i ops.size with h | h
      · exact h
      · rw [Array.getElem?_eq_none h] at ho; cases ho
    clear hend
    by_cases e0 : i = 0
    · subst e0; exact s0 o ho
    by_cases e1 : i = 1
    · subst e1; exact s1 o ho
    by_cases e2 : i = 2
    · subst e2; exact s2 o ho
    by_cases e3 : i = 3
    · subst e3; exact s3 o ho
    by_cases e4 : i = 4
    · subst e4; exact s4 o ho
    by_cases e5 : i = 5
    · subst e5; exact s5 o ho
    by_cases e6 : i = 6
    · subst e6; exact s6 o ho
    by_cases e7 : i = 7
    · subst e7; exact s7 o ho
    by_cases e8 : i = 8
    · subst e8; exact s8 o ho
    by_cases e9 : i = 9
    · subst e9; exact s9 o ho
    omega
  · intro y w listed hsz hdf hls hall hinv hp hr
    have e : y = puts a0 [(97, y.tmps.getD 97 undef), (98, y.tmps.getD 98 undef), (99, y.tmps.getD 99 undef), (100, y.tmps.getD 100 undef), (101, y.tmps.getD 101 undef), (102, y.tmps.getD 102 undef), (103, y.tmps.getD 103 undef), (104, y.tmps.getD 104 undef), (105, y.tmps.getD 105 undef), (106, .bool false)] := by
      refine eq_puts hsz hdf (nodup_of (D := [some 97, some 98, some 99, some 100, some 101, some 102, some 103, some 104, some 105, some 106]) rfl (by decide)) (by rw [ha0]; simp) ?_ ?_
      · intro q hq
        simp only [List.mem_cons, List.not_mem_nil, or_false] at hq
        rcases hq with rfl | rfl | rfl | rfl | rfl | rfl | rfl | rfl | rfl | rfl
        · rfl
        · rfl
        · rfl
        · rfl
        · rfl
        · rfl
        · rfl
        · rfl
        · rfl
        · obtain ⟨o, h1, h2, _⟩ := E9.ex
          exact hp 9 o _ h1 h2
      · intro t ht
        refine hr t (not_of ?_)
        rw [hds]
        simp only [List.mem_cons, List.not_mem_nil, or_false, forall_eq_or_imp, forall_eq] at ht
        simp only [List.contains_cons, List.contains_nil, Bool.or_eq_false_iff, beq_eq_false_iff_ne, ne_eq, Option.some.injEq, Bool.or_false]
        simp only [eq_comm (a := t)]
        simp [ht]
    rw [e]
    exact hend _ _ _ _ _ _ _ _ _ w (((Mod.refl (fun _ => False) w0).drew).and hinv)
end Go.Proofs.Ytbmhgglnoofnjaa
