/- ParcelNames holds: the closed law answers true and turns nothing that was there. Conditions: none. -/
import Derived.Test.YtajhpnfpjickbaaTu
import Derived.Test.YtajhpnfpjickbaaFrw
import Derived.Deep.MidRow
import Derived.Test.YtajhpnfpjickbaaRn
import Derived.Test.YtajhpnfpjickbaaFri
import Derived.Test.YtajhpnfpjickbaaWi
import Derived.Test.YtajhpnfpjickbaaNgD
import Derived.Test.YtajhpnfpjickbaaNgC
import Derived.Test.YtajhpnfpjickbaaNgA
import Derived.Test.YtajhpnfpjickbaaNgB
import Derived.Deep.DeepCutAuto
namespace Go.Proofs.Ytajhpnfpjickbaa
open Go.RowKit
theorem mixed30 : Try.prog.follows .mixedOrders = true := by kernel_rfl
theorem info49 : (Try.prog.info? 49).map (·.size) = some 18 := by kernel_rfl
/-- What is said of a slot. -/
def p30 (be n : Nat) (da : Array Value) (i : Nat) (v : Value) (w : World) : Prop :=
  match i with
  | 0 => v = .slice (some ⟨be, 0, none⟩) 6 6
  | 1 => v = .int .i64 (n : Int)
  | 2 => v = .pointer (some ⟨be, n * 18, none⟩)
  | 3 => v = .agg da
  | 4 => ∃ ao cap, v = .agg #[.int .i64 1, .int .i64 1, .int .i64 9, .int .i64 2, .int .i64 0, .int .i64 1, .int .i64 130, .bool true, .int .i64 0, .int .i64 0, .int .i64 0, .int .i64 0, .slice ao 1 cap] ∧ Own w (.slice ao 1 cap) [65]
  | 5 => v = .bool true
  | 6 => v = .bool false
  | _ => True
theorem p30_stab (be n : Nat) (da : Array Value) : ∀ i v w w', Mod (fun _ => False) w w' → p30 be n da i v w → p30 be n da i v w' := by
  intro i v w w' hm h
  unfold p30 at h ⊢
  split at h
  case h_5 =>
    obtain ⟨ao, cap, h1, h2⟩ := h
    exact ⟨ao, cap, h1, h2.mod hm (fun _ _ h => h)⟩
  all_goals exact h
set_option maxRecDepth 100000 in
set_option maxHeartbeats 4000000 in
theorem region30 {ops : Array Oper} {id : Nat} {a0 : Act} {w0 : World} {Q : Exit → Act → World → Prop} (be n : Nat) (da : Array Value)
    (E0 : Is ops 0 (some 184) (Op.move (Operand.tmp 14)) none [])
    (E1 : Is ops 1 (some 185) (Op.move (Operand.tmp 15)) none [])
    (E2 : Is ops 2 (some 186) (Op.indexAddr 64 (Operand.tmp 184) (Operand.tmp 185)) none [0, 1])
    (E3 : Is ops 3 (some 187) (Op.load 49 (Operand.tmp 186)) none [2])
    (E4 : Is ops 4 (some 188) (Op.call { callee := Callee.value (Operand.func 39), args := #[], argTypes := #[] }) none [])
    (E5 : Is ops 5 (some 189) (Op.call { callee := Callee.value (Operand.func 6), args := #[Operand.tmp 187, Operand.tmp 188], argTypes := #[49, 28] }) none [3, 4])
    (E6 : Is ops 6 (some 190) (Op.unOp UnOp.not 4 (Operand.tmp 189)) none [5])
    (hN : ops.size = 7) (hlow : lowB ops = true) (hds : dsts ops = [some 184, some 185, some 186, some 187, some 188, some 189, some 190]) (hnd : injB ops = true)
    (ha0 : a0.tmps.size = 223) (h14 : a0.tmps.getD 14 undef = .slice (some ⟨be, 0, none⟩) 6 6) (h15 : a0.tmps.getD 15 undef = .int .i64 (n : Int))
    (hn : n < 6) (hda : da.size = 18) (ra : w0.rangeAt be (n * 18) da.toList)
    (HO : ∀ W ao cap, Mod (fun _ => False) w0.drew W → Own W (.slice ao 1 cap) [65] → Calls Try.prog 6 #[.agg da, .agg #[.int .i64 1, .int .i64 1, .int .i64 9, .int .i64 2, .int .i64 0, .int .i64 1, .int .i64 130, .bool true, .int .i64 0, .int .i64 0, .int .i64 0, .int .i64 0, .slice ao 1 cap]] W fun e w' => e = .returned (.bool true) ∧ Mod (fun _ => False) W w')
    (hend : ∀ y184 y185 y186 y187 y188 y189 w, Mod (fun _ => False) w0 w → Q .normal (puts a0 [(184, y184), (185, y185), (186, y186), (187, y187), (188, y188), (189, y189), (190, .bool false)]) w) :
    (Code.region id ops true).wp Try.prog Q a0 w0 := by
  have DR : ∀ {W : World} {b o : Nat} {cs : List Value}, Mod (fun _ => False) w0.drew W → w0.rangeAt b o cs → W.rangeAt b o cs := fun hW hc t c ht => hW.cell (by simpa using hc t c ht) (fun h => h)
  have idx : ∀ (W : World), (Instr.indexAt 64 (.slice (some ⟨be, 0, none⟩) 6 6) (.int .i64 (n : Int))).run Try.prog W = .ok (.pointer (some ⟨be, n * 18, none⟩)) W := fun W => by
    have hj' : (n : Int) < 6 := by omega
    have hj0 : (0 : Int) ≤ (n : Int) := by omega
    simp [go_sem, hj', hj0]
  have s0 : ∀ o, ops[0]? = some o → StepW Try.prog ops (p30 be n da) (fun _ W => Mod (fun _ => False) w0.drew W) a0 Q 0 o := by
    refine E0.stepW fun o hd ho hg hw => ?_
    intro y w listed hsz hls hun hwt hdown D' R hinv K hK
    refine .inl ⟨wanted_none hg, ?_⟩
    have f14 : y.eval (Operand.tmp 14) = .slice (some ⟨be, 0, none⟩) 6 6 := (R 14 (not_of (by rw [hds]; decide))).trans h14
    exact wp_value (ox_move ho f14) (hK _ _ (Mod.refl _ _) rfl hinv)
  have s1 : ∀ o, ops[1]? = some o → StepW Try.prog ops (p30 be n da) (fun _ W => Mod (fun _ => False) w0.drew W) a0 Q 1 o := by
    refine E1.stepW fun o hd ho hg hw => ?_
    intro y w listed hsz hls hun hwt hdown D' R hinv K hK
    refine .inl ⟨wanted_none hg, ?_⟩
    have f15 : y.eval (Operand.tmp 15) = .int .i64 (n : Int) := (R 15 (not_of (by rw [hds]; decide))).trans h15
    exact wp_value (ox_move ho f15) (hK _ _ (Mod.refl _ _) rfl hinv)
  have s2 : ∀ o, ops[2]? = some o → StepW Try.prog ops (p30 be n da) (fun _ W => Mod (fun _ => False) w0.drew W) a0 Q 2 o := by
    refine E2.stepW fun o hd ho hg hw => ?_
    intro y w listed hsz hls hun hwt hdown D' R hinv K hK
    refine .inl ⟨wanted_none hg, ?_⟩
    have f184 : y.eval (Operand.tmp 184) = .slice (some ⟨be, 0, none⟩) 6 6 := E0.postW (Post := (p30 be n da)) (a := y) (w := w) D' (hw 0 (by simp))
    have f185 : y.eval (Operand.tmp 185) = .int .i64 (n : Int) := E1.postW (Post := (p30 be n da)) (a := y) (w := w) D' (hw 1 (by simp))
    exact wp_value (ox_index ho f184 f185 (idx w)) (hK _ _ (Mod.refl _ _) rfl hinv)
  have s3 : ∀ o, ops[3]? = some o → StepW Try.prog ops (p30 be n da) (fun _ W => Mod (fun _ => False) w0.drew W) a0 Q 3 o := by
    refine E3.stepW fun o hd ho hg hw => ?_
    intro y w listed hsz hls hun hwt hdown D' R hinv K hK
    refine .inl ⟨wanted_none hg, ?_⟩
    have f186 : y.eval (Operand.tmp 186) = .pointer (some ⟨be, n * 18, none⟩) := E2.postW (Post := (p30 be n da)) (a := y) (w := w) D' (hw 2 (by simp))
    exact wp_load_mid (P := Try.prog) 49 _ ho be (n * 18) f186 da.toList _ (DR hinv ra) Try.underlying49 rfl (by rw [info49]; simp [hda]) (hK _ _ (Mod.refl _ _) (by show _ = _; rw [Array.toArray_toList]) hinv)
  have s4 : ∀ o, ops[4]? = some o → StepW Try.prog ops (p30 be n da) (fun _ W => Mod (fun _ => False) w0.drew W) a0 Q 4 o := by
    refine E4.stepW fun o hd ho hg hw => ?_
    intro y w listed hsz hls hun hwt hdown D' R hinv K hK
    refine .inl ⟨wanted_none hg, ?_⟩
    refine wp_enter (f := 39) (args := #[]) (exec_call0 y.eval (fun args w => by simp [go_sem]) rfl ho) (text w) ?_
    rintro e w' ⟨ao, cap, rfl, hO, hm, _⟩
    exact ⟨_, rfl, hK _ _ hm ⟨ao, cap, rfl, hO⟩ (hinv.trans hm (fun _ _ h => h) (fun _ _ h => h))⟩
  have s5 : ∀ o, ops[5]? = some o → StepW Try.prog ops (p30 be n da) (fun _ W => Mod (fun _ => False) w0.drew W) a0 Q 5 o := by
    refine E5.stepW fun o hd ho hg hw => ?_
    intro y w listed hsz hls hun hwt hdown D' R hinv K hK
    refine .inl ⟨wanted_none hg, ?_⟩
    have f187 : y.eval (Operand.tmp 187) = .agg da := E3.postW (Post := (p30 be n da)) (a := y) (w := w) D' (hw 3 (by simp))
    obtain ⟨ao, cap, f188, hO⟩ : ∃ ao cap, y.eval (Operand.tmp 188) = .agg #[.int .i64 1, .int .i64 1, .int .i64 9, .int .i64 2, .int .i64 0, .int .i64 1, .int .i64 130, .bool true, .int .i64 0, .int .i64 0, .int .i64 0, .int .i64 0, .slice ao 1 cap] ∧ Own w (.slice ao 1 cap) [65] := E4.postW (Post := (p30 be n da)) (a := y) (w := w) D' (hw 4 (by simp))
    refine wp_enter (f := 6) (args := #[.agg da, .agg #[.int .i64 1, .int .i64 1, .int .i64 9, .int .i64 2, .int .i64 0, .int .i64 1, .int .i64 130, .bool true, .int .i64 0, .int .i64 0, .int .i64 0, .int .i64 0, .slice ao 1 cap]]) ?_ (HO w ao cap hinv hO) ?_
    · rw [exec_call2 y.eval (fun args w => by simp [go_sem]) rfl ho, f187, f188]
    · rintro e w' ⟨rfl, hm⟩
      exact ⟨_, rfl, hK _ _ hm rfl (hinv.trans hm (fun _ _ h => h) (fun _ _ h => h))⟩
  have s6 : ∀ o, ops[6]? = some o → StepW Try.prog ops (p30 be n da) (fun _ W => Mod (fun _ => False) w0.drew W) a0 Q 6 o := by
    refine E6.stepW fun o hd ho hg hw => ?_
    intro y w listed hsz hls hun hwt hdown D' R hinv K hK
    refine .inl ⟨wanted_none hg, ?_⟩
    have f189 : y.eval (Operand.tmp 189) = .bool true := E5.postW (Post := (p30 be n da)) (a := y) (w := w) D' (hw 5 (by simp))
    exact wp_value (ox_not ho f189) (hK _ _ (Mod.refl _ _) rfl hinv)
  refine region_freeW (Post := (p30 be n da)) (Inv := (fun _ W => Mod (fun _ => False) w0.drew W)) mixed30 (low_of hlow) (fun i o ho => by rw [ha0]; exact dst_of (by rw [hds]; decide) i o ho) (inj_of hnd) (Mod.refl _ _) (p30_stab be n da) ?_ ?_
  · intro i o ho
    have hi : i < 7 := by
      rw [← hN]
      rcases Nat.lt_or_ge i ops.size with h | h
      · exact h
      · rw [Array.getElem?_eq_none h] at ho; cases ho
    clear hend
    by_cases e0 : i = 0
    · subst e0; exact s0 o ho
    by_cases e1 : i = 1
    · subst e1; exact s1 o ho
    by_cases e2 : i = 2
    · subst e2; exact s2 o ho
    by_cases e3 : i = 3
    · subst e3; exact s3 o ho
    by_cases e4 : i = 4
    · subst e4; exact s4 o ho
    by_cases e5 : i = 5
    · subst e5; exact s5 o ho
    by_cases e6 : i = 6
    · subst e6; exact s6 o ho
    omega
  · intro y w listed hsz hdf hls hall hinv hp hr
    have e : y = puts a0 [(184, y.tmps.getD 184 undef), (185, y.tmps.getD 185 undef), (186, y.tmps.getD 186 undef), (187, y.tmps.getD 187 undef), (188, y.tmps.getD 188 undef), (189, y.tmps.getD 189 undef), (190, .bool false)] := by
      refine eq_puts hsz hdf (nodup_of (D := [some 184, some 185, some 186, some 187, some 188, some 189, some 190]) rfl (by decide)) (by rw [ha0]; simp) ?_ ?_
      · intro q hq
        simp only [List.mem_cons, List.not_mem_nil, or_false] at hq
        rcases hq with rfl | rfl | rfl | rfl | rfl | rfl | rfl
        · rfl
        · rfl
        · rfl
        · rfl
        · rfl
        · rfl
        · obtain ⟨o, h1, h2, _⟩ := E6.ex
          exact hp 6 o _ h1 h2
      · intro t ht
        refine hr t (not_of ?_)
        rw [hds]
        simp only [List.mem_cons, List.not_mem_nil, or_false, forall_eq_or_imp, forall_eq] at ht
        simp only [List.contains_cons, List.contains_nil, Bool.or_eq_false_iff, beq_eq_false_iff_ne, ne_eq, Option.some.injEq, Bool.or_false]
        simp only [eq_comm (a := t)]
        simp [ht]
    rw [e]
    exact hend _ _ _ _ _ _ w (((Mod.refl (fun _ => False) w0).drew).trans hinv (fun _ _ h => h) (fun _ _ h => h))
end Go.Proofs.Ytajhpnfpjickbaa
namespace Go.Proofs.Ytajhpnfpjickbaa
open Go.RowKit
theorem mixed32 : Try.prog.follows .mixedOrders = true := by kernel_rfl
theorem info32 : (Try.prog.info? 28).map (·.size) = some 13 := by kernel_rfl
theorem ox_alloc32 {o : Oper} {ρ : Operand → Value} {w : World} (ho : o.op = .alloc 28) : (execOp ρ o).run Try.prog w = .ok (.value (.pointer (some ⟨w.heap.size, 0, none⟩))) (w.alloc (.cells #[.int .i64 0, .int .i64 0, .int .i64 0, .int .i64 0, .int .i64 0, .int .i64 0, .int .i64 0, .bool false, .int .i64 0, .int .i64 0, .int .i64 0, .int .i64 0, .slice none 0 0] 28)) := by
  simp [execOp, ho, go_sem]
theorem ox_build32 {o : Oper} {ρ : Operand → Value} {w : World} {x y : Operand} (hc : ∀ v, ρ (.const v) = v) (ho : o.op = .build 49 #[(0, x), (1, .const (.int .i64 1)), (2, .const (.int .i64 2)), (4, y)]) (hx : ρ x = .agg #[.int .i64 3, .int .i64 2]) (hy : ρ y = .agg #[.int .i64 2, .int .i64 3, .int .i64 0, .int .i64 0, .int .i64 0, .int .i64 0, .int .i64 0, .bool false, .int .i64 5, .int .i64 2, .int .i64 1, .int .i64 7, .slice none 0 0]) : (execOp ρ o).run Try.prog w = .ok (.value (.agg #[.int .i64 3, .int .i64 2, .int .i64 1, .int .i64 2, .int .i64 0, .int .i64 2, .int .i64 3, .int .i64 0, .int .i64 0, .int .i64 0, .int .i64 0, .int .i64 0, .bool false, .int .i64 5, .int .i64 2, .int .i64 1, .int .i64 7, .slice none 0 0])) w := by
  simp [execOp, ho, hx, hy, hc, go_sem]
theorem ox_ext0 {o : Oper} {ρ : Operand → Value} {w : World} {x : Operand} {u v : Value} (ho : o.op = .extract x 0) (hx : ρ x = .tuple #[u, v]) : (execOp ρ o).run Try.prog w = .ok (.value u) w := by
  simp [execOp, ho, hx, go_sem]
theorem ox_ext1 {o : Oper} {ρ : Operand → Value} {w : World} {x : Operand} {u v : Value} (ho : o.op = .extract x 1) (hx : ρ x = .tuple #[u, v]) : (execOp ρ o).run Try.prog w = .ok (.value v) w := by
  simp [execOp, ho, hx, go_sem]
theorem ox_asg {o : Oper} {ρ : Operand → Value} {w : World} {x : Operand} {v : Value} (ho : o.op = .assign x) (hx : ρ x = v) : (execOp ρ o).run Try.prog w = .ok (.value v) w := by
  simp [execOp, ho, hx, go_sem]
/-- What is said of a slot. -/
def p32 (H b : Nat) (i : Nat) (v : Value) (w : World) : Prop :=
  match i with
  | 0 => v = .pointer (some ⟨b, 1, none⟩)
  | 1 => v = .agg #[.int .i64 3, .int .i64 2]
  | 2 => v = .agg #[.int .i64 2, .int .i64 3, .int .i64 0, .int .i64 0, .int .i64 0, .int .i64 0, .int .i64 0, .bool false, .int .i64 5, .int .i64 2, .int .i64 1, .int .i64 7, .slice none 0 0]
  | 3 => v = .agg #[.int .i64 3, .int .i64 2, .int .i64 1, .int .i64 2, .int .i64 0, .int .i64 2, .int .i64 3, .int .i64 0, .int .i64 0, .int .i64 0, .int .i64 0, .int .i64 0, .bool false, .int .i64 5, .int .i64 2, .int .i64 1, .int .i64 7, .slice none 0 0]
  | 4 => ∃ ao cap, v = .tuple #[.agg #[.int .i64 5, .int .i64 2, .int .i64 0, .int .i64 2, .int .i64 0, .int .i64 0, .int .i64 0, .bool false, .int .i64 0, .int .i64 3, .int .i64 2, .int .i64 1, .slice ao 13 cap], .int .i64 0] ∧ Own w (.slice ao 13 cap) [2, 3, 0, 0, 0, 0, 0, 0, 5, 2, 1, 7, 0]
  | 5 => ∃ ao cap, v = .tuple #[.agg #[.int .i64 5, .int .i64 2, .int .i64 0, .int .i64 2, .int .i64 0, .int .i64 0, .int .i64 0, .bool false, .int .i64 0, .int .i64 3, .int .i64 2, .int .i64 1, .slice ao 13 cap], .int .i64 0] ∧ Own w (.slice ao 13 cap) [2, 3, 0, 0, 0, 0, 0, 0, 5, 2, 1, 7, 0]
  | 6 => ∃ ao cap, v = .agg #[.int .i64 5, .int .i64 2, .int .i64 0, .int .i64 2, .int .i64 0, .int .i64 0, .int .i64 0, .bool false, .int .i64 0, .int .i64 3, .int .i64 2, .int .i64 1, .slice ao 13 cap] ∧ Own w (.slice ao 13 cap) [2, 3, 0, 0, 0, 0, 0, 0, 5, 2, 1, 7, 0]
  | 7 => v = .int .i64 0
  | 8 => ∃ z xs, v = .pointer (some ⟨z, 0, none⟩) ∧ H ≤ z ∧ Bk w z 28 xs ∧ xs.size = 13
  | 10 => v = .int .i64 0
  | _ => True
theorem p32_own_ne {w : World} {v : Value} {l : List Int} {g : Nat} {xs : Array Value} (h : Own w v l) (hB : Bk w g 28 xs) : v.ownBlock ≠ some g := by
  intro hq
  obtain ⟨cur, hk⟩ := h.kind hq
  have := hB.at'
  rw [hk] at this
  simp at this
theorem p32_stab {S : Nat → Prop} (H b : Nat) (i : Nat) (v : Value) (w w' : World) (hm : Mod S w w') (hS : ∀ g xs, Bk w g 28 xs → xs.size = 13 → S g → ∃ xs', Bk w' g 28 xs' ∧ xs'.size = 13) (hO : ∀ u l, Own w u l → ∀ g, u.ownBlock = some g → ¬ S g) (h : p32 H b i v w) : p32 H b i v w' := by
  unfold p32 at h ⊢
  split at h
  case h_5 =>
    obtain ⟨ao, cap, h1, h2⟩ := h
    exact ⟨ao, cap, h1, h2.mod hm (hO _ _ h2)⟩
  case h_6 =>
    obtain ⟨ao, cap, h1, h2⟩ := h
    exact ⟨ao, cap, h1, h2.mod hm (hO _ _ h2)⟩
  case h_7 =>
    obtain ⟨ao, cap, h1, h2⟩ := h
    exact ⟨ao, cap, h1, h2.mod hm (hO _ _ h2)⟩
  case h_9 =>
    obtain ⟨z, xs, h1, h2, h3, h4⟩ := h
    rcases Classical.em (S z) with hs | hs
    · obtain ⟨xs', h5, h6⟩ := hS z xs h3 h4 hs
      exact ⟨z, xs', h1, h2, h5, h6⟩
    · exact ⟨z, xs, h1, h2, h3.mod hm hs, h4⟩
  all_goals exact h
theorem p32_keep (H b : Nat) (i : Nat) (v : Value) (w w' : World) (hm : Mod (fun _ => False) w w') (h : p32 H b i v w) : p32 H b i v w' := p32_stab H b i v w w' hm (fun _ _ _ _ h => h.elim) (fun _ _ _ _ _ h => h) h
/-- What is said of memory. -/
structure I32 (w0 : World) (listed : Array Bool) (y : Act) (w : World) : Prop where
  mod : Mod (fun _ => False) w0 w
  c9 : listed.getD 9 false = true → ∀ z, y.tmps.getD 16 undef = .pointer (some ⟨z, 0, none⟩) → ∃ ao cap, Bk w z 28 #[.int .i64 5, .int .i64 2, .int .i64 0, .int .i64 2, .int .i64 0, .int .i64 0, .int .i64 0, .bool false, .int .i64 0, .int .i64 3, .int .i64 2, .int .i64 1, .slice ao 13 cap] ∧ Own w (.slice ao 13 cap) [2, 3, 0, 0, 0, 0, 0, 0, 5, 2, 1, 7, 0]
theorem I32.keep {w0 w w' : World} {listed : Array Bool} {y : Act} (h : I32 w0 listed y w) {i : Nat} {d : Tmp} (hi : i < 11) (hl : listed.size = 11) (hi9 : i ≠ 9) (hd : d ≠ 16) (v : Value) (hm : Mod (fun _ => False) w w') : I32 w0 (listed.setIfInBounds i true) (y.put (some d) v) w' := by
  refine ⟨h.mod.trans hm (fun _ _ h => h) (fun _ _ h => h), ?_⟩
  rw [getD_set (by omega), if_neg hi9, put_other hd]
  intro h1 z hz
  obtain ⟨ao, cap, h2, h3⟩ := h.c9 h1 z hz
  exact ⟨ao, cap, h2.mod hm (fun h => h), h3.mod hm (fun _ _ h => h)⟩
set_option maxRecDepth 100000 in
set_option maxHeartbeats 4000000 in
theorem region32 {ops : Array Oper} {id : Nat} {a0 : Act} {w0 : World} {Q : Exit → Act → World → Prop} (b : Nat)
    (E0 : Is ops 0 (some 192) (Op.fieldAddr 58 (Operand.tmp 1) 1) none [])
    (E1 : Is ops 1 (some 193) (Op.load 23 (Operand.tmp 192)) none [0])
    (E2 : Is ops 2 (some 194) (Op.call { callee := Callee.value (Operand.func 37), args := #[], argTypes := #[] }) none [])
    (E3 : Is ops 3 (some 195) (Op.build 49 #[(0, Operand.tmp 193), (1, Operand.const (Value.int IntKind.i64 1)), (2, Operand.const (Value.int IntKind.i64 2)), (4, Operand.tmp 194)]) none [1, 2])
    (E4 : Is ops 4 (some 196) (Op.call { callee := Callee.value (Operand.func 28), args := #[Operand.tmp 195], argTypes := #[49] }) none [2, 3])
    (E5 : Is ops 5 (some 191) (Op.move (Operand.tmp 196)) none [4])
    (E6 : Is ops 6 (some 197) (Op.extract (Operand.tmp 191) 0) none [5])
    (E7 : Is ops 7 (some 198) (Op.extract (Operand.tmp 191) 1) none [5])
    (E8 : Is ops 8 (some 16) (Op.alloc 28) none [])
    (E9 : Is ops 9 none (Op.store 28 (Operand.tmp 16) (Operand.tmp 197)) none [0, 1, 2, 3, 4, 5, 6, 8])
    (E10 : Is ops 10 (some 17) (Op.assign (Operand.tmp 198)) none [0, 1, 2, 3, 4, 5, 6, 7, 8, 9])
    (hN : ops.size = 11) (hlow : lowB ops = true) (hds : dsts ops = [some 192, some 193, some 194, some 195, some 196, some 191, some 197, some 198, some 16, none, some 17]) (hnd : injB ops = true)
    (ha0 : a0.tmps.size = 223) (h1 : a0.tmps.getD 1 undef = .pointer (some ⟨b, 0, none⟩))
    (p1 : w0.cell? ⟨b, 1, none⟩ = some (.int .i64 3)) (p2 : w0.cell? ⟨b, 2, none⟩ = some (.int .i64 2))
    (HM : ∀ W, Calls Try.prog 37 #[] W fun e w' => e = .returned (.agg #[.int .i64 2, .int .i64 3, .int .i64 0, .int .i64 0, .int .i64 0, .int .i64 0, .int .i64 0, .bool false, .int .i64 5, .int .i64 2, .int .i64 1, .int .i64 7, .slice none 0 0]) ∧ Mod (fun _ => False) W w')
    (HO : ∀ W, Calls Try.prog 28 #[.agg #[.int .i64 3, .int .i64 2, .int .i64 1, .int .i64 2, .int .i64 0, .int .i64 2, .int .i64 3, .int .i64 0, .int .i64 0, .int .i64 0, .int .i64 0, .int .i64 0, .bool false, .int .i64 5, .int .i64 2, .int .i64 1, .int .i64 7, .slice none 0 0]] W fun e w' => ∃ a c, e = .returned (.tuple #[.agg #[.int .i64 5, .int .i64 2, .int .i64 0, .int .i64 2, .int .i64 0, .int .i64 0, .int .i64 0, .bool false, .int .i64 0, .int .i64 3, .int .i64 2, .int .i64 1, .slice a 13 c], .int .i64 0]) ∧ Own w' (.slice a 13 c) [2, 3, 0, 0, 0, 0, 0, 0, 5, 2, 1, 7, 0] ∧ Mod (fun _ => False) W w')
    (hend : ∀ y196 y191 y197 z ao cap w, Mod (fun _ => False) w0 w → Bk w z 28 #[.int .i64 5, .int .i64 2, .int .i64 0, .int .i64 2, .int .i64 0, .int .i64 0, .int .i64 0, .bool false, .int .i64 0, .int .i64 3, .int .i64 2, .int .i64 1, .slice ao 13 cap] → Own w (.slice ao 13 cap) [2, 3, 0, 0, 0, 0, 0, 0, 5, 2, 1, 7, 0] → Q .normal (puts a0 [(192, .pointer (some ⟨b, 1, none⟩)), (193, .agg #[.int .i64 3, .int .i64 2]), (194, .agg #[.int .i64 2, .int .i64 3, .int .i64 0, .int .i64 0, .int .i64 0, .int .i64 0, .int .i64 0, .bool false, .int .i64 5, .int .i64 2, .int .i64 1, .int .i64 7, .slice none 0 0]), (195, .agg #[.int .i64 3, .int .i64 2, .int .i64 1, .int .i64 2, .int .i64 0, .int .i64 2, .int .i64 3, .int .i64 0, .int .i64 0, .int .i64 0, .int .i64 0, .int .i64 0, .bool false, .int .i64 5, .int .i64 2, .int .i64 1, .int .i64 7, .slice none 0 0]), (196, y196), (191, y191), (197, y197), (198, .int .i64 0), (16, .pointer (some ⟨z, 0, none⟩)), (17, .int .i64 0)]) w) :
    (Code.region id ops true).wp Try.prog Q a0 w0 := by
  have s0 : ∀ o, ops[0]? = some o → StepI Try.prog ops (p32 w0.heap.size b) (I32 w0) a0 Q 0 o := by
    refine E0.stepI fun o hd ho hg hw => ?_
    intro y w listed hsz hls hun hwt hdown D' R hinv K hK
    refine .inl ⟨wanted_none hg, ?_⟩
    have hls11 : listed.size = 11 := hls.trans hN
    have f1 : y.eval (Operand.tmp 1) = .pointer (some ⟨b, 0, none⟩) := (R 1 (not_of (by rw [hds]; decide))).trans h1
    exact wp_value (ox_field ho f1 (fl58 w)) (hK _ _ (fun j oj d _ _ _ h => h) rfl (by rw [hd]; exact hinv.keep (by omega) hls11 (by omega) (by decide) _ (Mod.refl _ _)))
  have s1 : ∀ o, ops[1]? = some o → StepI Try.prog ops (p32 w0.heap.size b) (I32 w0) a0 Q 1 o := by
    refine E1.stepI fun o hd ho hg hw => ?_
    intro y w listed hsz hls hun hwt hdown D' R hinv K hK
    refine .inl ⟨wanted_none hg, ?_⟩
    have hls11 : listed.size = 11 := hls.trans hN
    have f192 : y.eval (Operand.tmp 192) = .pointer (some ⟨b, 1, none⟩) := E0.postI (Post := (p32 w0.heap.size b)) (a := y) (w := w) D' (hwt 0 (hw 0 (by simp)))
    exact wp_value (ox_load ho f192 (ld23 (hinv.mod.cell p1 (fun h => h)) (hinv.mod.cell p2 (fun h => h)))) (hK _ _ (fun j oj d _ _ _ h => h) rfl (by rw [hd]; exact hinv.keep (by omega) hls11 (by omega) (by decide) _ (Mod.refl _ _)))
  have s2 : ∀ o, ops[2]? = some o → StepI Try.prog ops (p32 w0.heap.size b) (I32 w0) a0 Q 2 o := by
    refine E2.stepI fun o hd ho hg hw => ?_
    intro y w listed hsz hls hun hwt hdown D' R hinv K hK
    refine .inl ⟨wanted_none hg, ?_⟩
    have hls11 : listed.size = 11 := hls.trans hN
    refine wp_enter (f := 37) (args := #[]) (exec_call0 y.eval (fun args w => by simp [go_sem]) rfl ho) (HM w) ?_
    rintro e w' ⟨rfl, hm⟩
    exact ⟨_, rfl, hK _ _ (fun j oj d _ _ _ h => p32_keep _ _ _ _ _ _ hm h) rfl (by rw [hd]; exact hinv.keep (by omega) hls11 (by omega) (by decide) _ hm)⟩
  have s3 : ∀ o, ops[3]? = some o → StepI Try.prog ops (p32 w0.heap.size b) (I32 w0) a0 Q 3 o := by
    refine E3.stepI fun o hd ho hg hw => ?_
    intro y w listed hsz hls hun hwt hdown D' R hinv K hK
    refine .inl ⟨wanted_none hg, ?_⟩
    have hls11 : listed.size = 11 := hls.trans hN
    have f193 : y.eval (Operand.tmp 193) = .agg #[.int .i64 3, .int .i64 2] := E1.postI (Post := (p32 w0.heap.size b)) (a := y) (w := w) D' (hwt 1 (hw 1 (by simp)))
    have f194 : y.eval (Operand.tmp 194) = .agg #[.int .i64 2, .int .i64 3, .int .i64 0, .int .i64 0, .int .i64 0, .int .i64 0, .int .i64 0, .bool false, .int .i64 5, .int .i64 2, .int .i64 1, .int .i64 7, .slice none 0 0] := E2.postI (Post := (p32 w0.heap.size b)) (a := y) (w := w) D' (hwt 2 (hw 2 (by simp)))
    exact wp_value (ox_build32 (fun _ => rfl) ho f193 f194) (hK _ _ (fun j oj d _ _ _ h => h) rfl (by rw [hd]; exact hinv.keep (by omega) hls11 (by omega) (by decide) _ (Mod.refl _ _)))
  have s4 : ∀ o, ops[4]? = some o → StepI Try.prog ops (p32 w0.heap.size b) (I32 w0) a0 Q 4 o := by
    refine E4.stepI fun o hd ho hg hw => ?_
    intro y w listed hsz hls hun hwt hdown D' R hinv K hK
    refine .inl ⟨wanted_none hg, ?_⟩
    have hls11 : listed.size = 11 := hls.trans hN
    have f195 : y.eval (Operand.tmp 195) = .agg #[.int .i64 3, .int .i64 2, .int .i64 1, .int .i64 2, .int .i64 0, .int .i64 2, .int .i64 3, .int .i64 0, .int .i64 0, .int .i64 0, .int .i64 0, .int .i64 0, .bool false, .int .i64 5, .int .i64 2, .int .i64 1, .int .i64 7, .slice none 0 0] := E3.postI (Post := (p32 w0.heap.size b)) (a := y) (w := w) D' (hwt 3 (hw 3 (by simp)))
    refine wp_enter (f := 28) (args := #[.agg #[.int .i64 3, .int .i64 2, .int .i64 1, .int .i64 2, .int .i64 0, .int .i64 2, .int .i64 3, .int .i64 0, .int .i64 0, .int .i64 0, .int .i64 0, .int .i64 0, .bool false, .int .i64 5, .int .i64 2, .int .i64 1, .int .i64 7, .slice none 0 0]]) (by rw [exec_call1 y.eval (fun args w => by simp [go_sem]) rfl ho, f195]) (HO w) ?_
    rintro e w' ⟨a, c, rfl, hO, hm⟩
    exact ⟨_, rfl, hK _ _ (fun j oj d _ _ _ h => p32_keep _ _ _ _ _ _ hm h) ⟨a, c, rfl, hO⟩ (by rw [hd]; exact hinv.keep (by omega) hls11 (by omega) (by decide) _ hm)⟩
  have s5 : ∀ o, ops[5]? = some o → StepI Try.prog ops (p32 w0.heap.size b) (I32 w0) a0 Q 5 o := by
    refine E5.stepI fun o hd ho hg hw => ?_
    intro y w listed hsz hls hun hwt hdown D' R hinv K hK
    refine .inl ⟨wanted_none hg, ?_⟩
    have hls11 : listed.size = 11 := hls.trans hN
    obtain ⟨ao196, cap196, f196, hO196⟩ := E4.postI (Post := (p32 w0.heap.size b)) (a := y) (w := w) D' (hwt 4 (hw 4 (by simp)))
    exact wp_value (ox_move ho f196) (hK _ _ (fun j oj d _ _ _ h => h) ⟨_, _, rfl, hO196⟩ (by rw [hd]; exact hinv.keep (by omega) hls11 (by omega) (by decide) _ (Mod.refl _ _)))
  have s6 : ∀ o, ops[6]? = some o → StepI Try.prog ops (p32 w0.heap.size b) (I32 w0) a0 Q 6 o := by
    refine E6.stepI fun o hd ho hg hw => ?_
    intro y w listed hsz hls hun hwt hdown D' R hinv K hK
    refine .inl ⟨wanted_none hg, ?_⟩
    have hls11 : listed.size = 11 := hls.trans hN
    obtain ⟨ao191, cap191, f191, hO191⟩ := E5.postI (Post := (p32 w0.heap.size b)) (a := y) (w := w) D' (hwt 5 (hw 5 (by simp)))
    exact wp_value (ox_ext0 ho f191) (hK _ _ (fun j oj d _ _ _ h => h) ⟨_, _, rfl, hO191⟩ (by rw [hd]; exact hinv.keep (by omega) hls11 (by omega) (by decide) _ (Mod.refl _ _)))
  have s7 : ∀ o, ops[7]? = some o → StepI Try.prog ops (p32 w0.heap.size b) (I32 w0) a0 Q 7 o := by
    refine E7.stepI fun o hd ho hg hw => ?_
    intro y w listed hsz hls hun hwt hdown D' R hinv K hK
    refine .inl ⟨wanted_none hg, ?_⟩
    have hls11 : listed.size = 11 := hls.trans hN
    obtain ⟨ao191, cap191, f191, hO191⟩ := E5.postI (Post := (p32 w0.heap.size b)) (a := y) (w := w) D' (hwt 5 (hw 5 (by simp)))
    exact wp_value (ox_ext1 ho f191) (hK _ _ (fun j oj d _ _ _ h => h) rfl (by rw [hd]; exact hinv.keep (by omega) hls11 (by omega) (by decide) _ (Mod.refl _ _)))
  have s8 : ∀ o, ops[8]? = some o → StepI Try.prog ops (p32 w0.heap.size b) (I32 w0) a0 Q 8 o := by
    refine E8.stepI fun o hd ho hg hw => ?_
    intro y w listed hsz hls hun hwt hdown D' R hinv K hK
    refine .inl ⟨wanted_none hg, ?_⟩
    have hls11 : listed.size = 11 := hls.trans hN
    have hA := (Mod.refl (fun _ => False) w).alloc (.cells #[.int .i64 0, .int .i64 0, .int .i64 0, .int .i64 0, .int .i64 0, .int .i64 0, .int .i64 0, .bool false, .int .i64 0, .int .i64 0, .int .i64 0, .int .i64 0, .slice none 0 0] 28)
    have n9 : listed.getD 9 false = false := E9.down hdown (j := 8) (by simp) hun
    refine wp_value (ox_alloc32 ho) (hK _ _ (fun j oj d _ _ _ h => p32_keep _ _ _ _ _ _ hA h) ⟨w.heap.size, _, rfl, hinv.mod.size, Bk.new w _ _, rfl⟩ ?_)
    rw [hd]
    refine ⟨hinv.mod.trans hA (fun _ _ h => h) (fun _ _ h => h), ?_⟩
    rw [getD_set (by omega), if_neg (by omega), n9]
    intro h; cases h
  have s9 : ∀ o, ops[9]? = some o → StepI Try.prog ops (p32 w0.heap.size b) (I32 w0) a0 Q 9 o := by
    refine E9.stepI fun o hd ho hg hw => ?_
    intro y w listed hsz hls hun hwt hdown D' R hinv K hK
    refine .inl ⟨wanted_none hg, ?_⟩
    have hls11 : listed.size = 11 := hls.trans hN
    obtain ⟨z16, xs16, f16, hz16, hB16, hx16⟩ := E8.postI (Post := (p32 w0.heap.size b)) (a := y) (w := w) D' (hwt 8 (hw 8 (by simp)))
    obtain ⟨ao197, cap197, f197, hO197⟩ := E6.postI (Post := (p32 w0.heap.size b)) (a := y) (w := w) D' (hwt 6 (hw 6 (by simp)))
    have hS : Mod (fun k => k = z16) w (w.setCells z16 0 (#[.int .i64 5, .int .i64 2, .int .i64 0, .int .i64 2, .int .i64 0, .int .i64 0, .int .i64 0, .bool false, .int .i64 0, .int .i64 3, .int .i64 2, .int .i64 1, .slice ao197 13 cap197] : Array Value).toList) := setCells_mod z16 _ 0 w
    have hW := hB16.whole #[.int .i64 5, .int .i64 2, .int .i64 0, .int .i64 2, .int .i64 0, .int .i64 0, .int .i64 0, .bool false, .int .i64 0, .int .i64 3, .int .i64 2, .int .i64 1, .slice ao197 13 cap197] (by rw [hx16]; rfl)
    have hOn : ∀ u l, Own w u l → ∀ g, u.ownBlock = some g → ¬ g = z16 := fun u l hO g hg e => p32_own_ne hO hB16 (by rw [hg, e])
    refine wp_store_mid (P := Try.prog) 28 _ _ ho z16 0 #[.int .i64 5, .int .i64 2, .int .i64 0, .int .i64 2, .int .i64 0, .int .i64 0, .int .i64 0, .bool false, .int .i64 0, .int .i64 3, .int .i64 2, .int .i64 1, .slice ao197 13 cap197] f16 f197 (hB16.there (by rw [hx16]; show 0 + 13 ≤ 13; omega)) (by rw [info32]; rfl) (by rw [← Array.all_toList]; rfl) (hK _ _ (fun j oj d _ _ _ h => p32_stab _ _ _ _ _ _ hS (fun g xs _ _ e => by cases e; exact ⟨_, hW, rfl⟩) hOn h) trivial ?_)
    rw [hd, put_none]
    refine ⟨hinv.mod.trans hS (V := fun _ => False) (fun _ _ h => h) (fun k hk e => by omega), ?_⟩
    intro _ zz hzz
    have ez := (show y.tmps.getD 16 undef = _ from f16).symm.trans hzz
    simp only [Value.pointer.injEq, Option.some.injEq, Addr.mk.injEq] at ez
    rw [← ez.1]
    exact ⟨_, _, hW, hO197.mod hS (hOn _ _ hO197)⟩
  have s10 : ∀ o, ops[10]? = some o → StepI Try.prog ops (p32 w0.heap.size b) (I32 w0) a0 Q 10 o := by
    refine E10.stepI fun o hd ho hg hw => ?_
    intro y w listed hsz hls hun hwt hdown D' R hinv K hK
    refine .inl ⟨wanted_none hg, ?_⟩
    have hls11 : listed.size = 11 := hls.trans hN
    have f198 : y.eval (Operand.tmp 198) = .int .i64 0 := E7.postI (Post := (p32 w0.heap.size b)) (a := y) (w := w) D' (hwt 7 (hw 7 (by simp)))
    exact wp_value (ox_asg ho f198) (hK _ _ (fun j oj d _ _ _ h => h) rfl (by rw [hd]; exact hinv.keep (by omega) hls11 (by omega) (by decide) _ (Mod.refl _ _)))
  refine region_freeI (Post := (p32 w0.heap.size b)) (Inv := (I32 w0)) mixed32 (low_of hlow) (fun i o ho => by rw [ha0]; exact dst_of (by rw [hds]; decide) i o ho) (inj_of hnd) ⟨(Mod.refl _ _).drew, ?_⟩ ?_ ?_
  · intro h; rw [hN] at h; cases h
  · intro i o ho
    have hi : i < 11 := by
      rw [← hN]
      rcases Nat.lt_or_ge i ops.size with h | h
      · exact h
      · rw [Array.getElem?_eq_none h] at ho; cases ho
    clear hend
    by_cases e0 : i = 0
    · subst e0; exact s0 o ho
    by_cases e1 : i = 1
    · subst e1; exact s1 o ho
    by_cases e2 : i = 2
    · subst e2; exact s2 o ho
    by_cases e3 : i = 3
    · subst e3; exact s3 o ho
    by_cases e4 : i = 4
    · subst e4; exact s4 o ho
    by_cases e5 : i = 5
    · subst e5; exact s5 o ho
    by_cases e6 : i = 6
    · subst e6; exact s6 o ho
    by_cases e7 : i = 7
    · subst e7; exact s7 o ho
    by_cases e8 : i = 8
    · subst e8; exact s8 o ho
    by_cases e9 : i = 9
    · subst e9; exact s9 o ho
    by_cases e10 : i = 10
    · subst e10; exact s10 o ho
    omega
  · intro y w listed hsz hdf hls hall hinv hp hr
    have q16 : ∃ z xs, y.tmps.getD 16 undef = .pointer (some ⟨z, 0, none⟩) ∧ w0.heap.size ≤ z ∧ Bk w z 28 xs ∧ xs.size = 13 := by
      obtain ⟨o, h1, h2, _⟩ := E8.ex
      exact hp 8 o _ h1 h2
    obtain ⟨z, _, g16, _⟩ := q16
    have e : y = puts a0 [(192, .pointer (some ⟨b, 1, none⟩)), (193, .agg #[.int .i64 3, .int .i64 2]), (194, .agg #[.int .i64 2, .int .i64 3, .int .i64 0, .int .i64 0, .int .i64 0, .int .i64 0, .int .i64 0, .bool false, .int .i64 5, .int .i64 2, .int .i64 1, .int .i64 7, .slice none 0 0]), (195, .agg #[.int .i64 3, .int .i64 2, .int .i64 1, .int .i64 2, .int .i64 0, .int .i64 2, .int .i64 3, .int .i64 0, .int .i64 0, .int .i64 0, .int .i64 0, .int .i64 0, .bool false, .int .i64 5, .int .i64 2, .int .i64 1, .int .i64 7, .slice none 0 0]), (196, y.tmps.getD 196 undef), (191, y.tmps.getD 191 undef), (197, y.tmps.getD 197 undef), (198, .int .i64 0), (16, .pointer (some ⟨z, 0, none⟩)), (17, .int .i64 0)] := by
      refine eq_puts hsz hdf (nodup_of (D := [some 192, some 193, some 194, some 195, some 196, some 191, some 197, some 198, some 16, some 17]) rfl (by decide)) (by rw [ha0]; simp) ?_ ?_
      · intro q hq
        simp only [List.mem_cons, List.not_mem_nil, or_false] at hq
        rcases hq with rfl | rfl | rfl | rfl | rfl | rfl | rfl | rfl | rfl | rfl
        · obtain ⟨o, h1, h2, _⟩ := E0.ex
          exact hp 0 o _ h1 h2
        · obtain ⟨o, h1, h2, _⟩ := E1.ex
          exact hp 1 o _ h1 h2
        · obtain ⟨o, h1, h2, _⟩ := E2.ex
          exact hp 2 o _ h1 h2
        · obtain ⟨o, h1, h2, _⟩ := E3.ex
          exact hp 3 o _ h1 h2
        · rfl
        · rfl
        · rfl
        · obtain ⟨o, h1, h2, _⟩ := E7.ex
          exact hp 7 o _ h1 h2
        · exact g16
        · obtain ⟨o, h1, h2, _⟩ := E10.ex
          exact hp 10 o _ h1 h2
      · intro t ht
        refine hr t (not_of ?_)
        rw [hds]
        simp only [List.mem_cons, List.not_mem_nil, or_false, forall_eq_or_imp, forall_eq] at ht
        simp only [List.contains_cons, List.contains_nil, Bool.or_eq_false_iff, beq_eq_false_iff_ne, ne_eq, Option.some.injEq, Bool.or_false]
        simp only [eq_comm (a := t)]
        simp [ht]
    obtain ⟨ao, cap, c1, c2⟩ := hinv.c9 (hall 9 (by rw [hN]; omega)) z g16
    rw [e]
    exact hend _ _ _ z ao cap w hinv.mod c1 c2
end Go.Proofs.Ytajhpnfpjickbaa
namespace Go.Proofs.Ytajhpnfpjickbaa
open Go.RowKit
/-- A message that was sent again, laid. -/
structure C32 (wr wx : World) (v : Value) : Prop where
  ex : ∃ bX a cc, v = .pointer (some ⟨bX, 0, none⟩) ∧ Bk wx bX 28 #[.int .i64 5, .int .i64 2, .int .i64 0, .int .i64 2, .int .i64 0, .int .i64 0, .int .i64 0, .bool false, .int .i64 0, .int .i64 3, .int .i64 2, .int .i64 1, .slice a 13 cc] ∧ Own wx (.slice a 13 cc) [2, 3, 0, 0, 0, 0, 0, 0, 5, 2, 1, 7, 0] ∧ Mod (fun _ => False) wr wx
theorem nm_pl (w : World) : SlP (w.alloc (.cells #[.int .i64 0, .int .i64 3, .int .i64 2, .int .i64 6, .int .i64 2, .int .i64 1, .int .i64 4, .int .i64 16] 58)) (.slice (some ⟨w.heap.size, 0, none⟩) 2 2) [⟨0, 3, 2, 6⟩, ⟨2, 1, 4, 16⟩] := by
  refine ⟨⟨some ⟨w.heap.size, 0, none⟩, 2, rfl, by simp, by simp [maxLen], (by intro h; cases h), fun _ => ⟨w.heap.size, 0, rfl, fun j q hj => ?_⟩⟩, ?_⟩
  · match j, hj with
    | 0, hj =>
      simp only [List.getElem?_cons_zero, Option.some.injEq] at hj
      subst hj
      refine ⟨?_, ?_, ?_, ?_⟩ <;> simp
    | 1, hj =>
      simp only [List.getElem?_cons_succ, List.getElem?_cons_zero, Option.some.injEq] at hj
      subst hj
      refine ⟨?_, ?_, ?_, ?_⟩ <;> simp
    | j + 2, hj => simp at hj
  · simp [I64]
theorem nm_ch : chE [⟨0, 3, 2, 6⟩, ⟨2, 1, 4, 16⟩] = 0 := by decide +kernel
theorem nm_pk : pkl [⟨0, 3, 2, 6⟩, ⟨2, 1, 4, 16⟩] = [2, 0, 3, 2, 6, 2, 1, 4, 16] := by decide +kernel
/-- An operation whose run is known. -/
theorem wpList_val {ops : Array Oper} {rest : List Oper} {op : Oper} {a : Act} {w w' : World} {Q : Exit → Act → World → Prop} {v : Value} (hw : Region.wanted op (yielded ops a.tmps) = true) (hr : (execOp a.eval op).run Try.prog w = .ok (.value v) w')
    (h : wpList Try.prog ops Q rest (a.put op.dst v) w') : wpList Try.prog ops Q (op :: rest) a w := by
  refine wpList_step fun K hK => ?_
  rw [if_pos hw]
  exact wp_value hr (hK _ _ h)
theorem bd49 {oq : Oper} {w : World} {ρ : Operand → Value} {x y : Operand} {r1 r2 c1 c2 k o lf i p ps g : Int} {s : Bool} {st rs rr sq : Int} {ao : Option Addr} {cap : Nat} {l : List Int} (hc : ∀ v, ρ (.const v) = v) (ho : oq.op = .build 49 #[(0, x), (1, .const (.int .i64 c1)), (2, .const (.int .i64 c2)), (4, y)]) (hx : ρ x = .agg #[.int .i64 r1, .int .i64 r2]) (hy : ρ y = .agg #[.int .i64 k, .int .i64 o, .int .i64 lf, .int .i64 i, .int .i64 p, .int .i64 ps, .int .i64 g, .bool s, .int .i64 st, .int .i64 rs, .int .i64 rr, .int .i64 sq, .slice ao l.length cap]) : (execOp ρ oq).run Try.prog w = .ok (.value (.agg #[.int .i64 r1, .int .i64 r2, .int .i64 c1, .int .i64 c2, .int .i64 0, .int .i64 k, .int .i64 o, .int .i64 lf, .int .i64 i, .int .i64 p, .int .i64 ps, .int .i64 g, .bool s, .int .i64 st, .int .i64 rs, .int .i64 rr, .int .i64 sq, .slice ao l.length cap])) w := by
  simp [execOp, ho, hx, hy, hc, go_sem]
theorem bd49' {oq : Oper} {w : World} {ρ : Operand → Value} {y : Operand} {k o lf i p ps g : Int} {s : Bool} {st rs rr sq : Int} {ao : Option Addr} {cap : Nat} {l : List Int} (ho : oq.op = .build 49 #[(4, y)]) (hy : ρ y = .agg #[.int .i64 k, .int .i64 o, .int .i64 lf, .int .i64 i, .int .i64 p, .int .i64 ps, .int .i64 g, .bool s, .int .i64 st, .int .i64 rs, .int .i64 rr, .int .i64 sq, .slice ao l.length cap]) : (execOp ρ oq).run Try.prog w = .ok (.value (.agg #[.int .i64 0, .int .i64 0, .int .i64 0, .int .i64 0, .int .i64 0, .int .i64 k, .int .i64 o, .int .i64 lf, .int .i64 i, .int .i64 p, .int .i64 ps, .int .i64 g, .bool s, .int .i64 st, .int .i64 rs, .int .i64 rr, .int .i64 sq, .slice ao l.length cap])) w := by
  simp [execOp, ho, hy, go_sem]
theorem nm_ol : olE 0 3 2 1 2 mk0 = 0 := by decide +kernel
theorem old_mk (W : World) : Calls Try.prog 28 #[.agg #[.int .i64 3, .int .i64 2, .int .i64 1, .int .i64 2, .int .i64 0, .int .i64 2, .int .i64 3, .int .i64 0, .int .i64 0, .int .i64 0, .int .i64 0, .int .i64 0, .bool false, .int .i64 5, .int .i64 2, .int .i64 1, .int .i64 7, .slice none 0 0]] W fun e w' => ∃ a c, e = .returned (.tuple #[.agg #[.int .i64 5, .int .i64 2, .int .i64 0, .int .i64 2, .int .i64 0, .int .i64 0, .int .i64 0, .bool false, .int .i64 0, .int .i64 3, .int .i64 2, .int .i64 1, .slice a 13 c], .int .i64 0]) ∧ Own w' (.slice a 13 c) [2, 3, 0, 0, 0, 0, 0, 0, 5, 2, 1, 7, 0] ∧ Mod (fun _ => False) W w' := by
  refine (Old_any 3 2 1 2 0 2 3 0 0 0 0 0 false 5 2 1 7 none 0 [] W (Own.sl (Own.nil W) (by simp))).mono ?_
  rintro e w' ⟨k', o', lf', i', p', ps', g', s', st', rs', rr', sq', bv', rfl, hm, hok, _⟩
  obtain ⟨⟨rfl, rfl, rfl, rfl, rfl, rfl, rfl, rfl, rfl, rfl, rfl, rfl⟩, hO, _⟩ := hok nm_ol
  rw [show pk ⟨2, 3, 0, 0, 0, 0, 0, false, 5, 2, 1, 7, []⟩ = [2, 3, 0, 0, 0, 0, 0, 0, 5, 2, 1, 7, 0] from mk0_pk] at hO
  rw [show olE 0 3 2 1 2 ⟨2, 3, 0, 0, 0, 0, 0, false, 5, 2, 1, 7, []⟩ = 0 from nm_ol]
  obtain ⟨a, c, e⟩ := hO.shape
  change bv' = .slice a 13 c at e
  subst e
  exact ⟨a, c, rfl, hO, hm⟩
theorem own_ne {w : World} {v : Value} {l : List Int} {g : Nat} {xs : Array Value} (h : Own w v l) (hB : Bk w g 28 xs) : ∀ q, v.ownBlock = some q → ¬ q = g := by
  rintro q hq rfl
  obtain ⟨cur, hk⟩ := h.kind hq
  have := hB.at'
  rw [hk] at this
  simp at this
/-- A struct stored whole, as a step of a statement that draws its order. -/
theorem step_store_row {ops : Array Oper} {o : Oper} {a : Act} {w : World} {K : Act → World → Prop} {Q : Exit → Act → World → Prop} {E : Prop} {t : TypeId} {n : Nat} (hi : (Try.prog.info? t).map (·.size) = some n) (hgd : o.guard = none) (x y : Operand) (ho : o.op = .store t x y)
    (b : Nat) (cells : Array Value) (hx : a.eval x = .pointer (some ⟨b, 0, none⟩)) (hy : a.eval y = .agg cells) {t' : TypeId} {xs : Array Value} (hB : Bk w b t' xs) (hxs : xs.size = n) (hcs : cells.size = n) (h1 : cells.toList.all (·.oneCell') = true)
    (h : ∀ w', Bk w' b t' cells → Mod (fun k => k = b) w w' → K (a.put o.dst undef) w') :
    if Region.wanted o (yielded ops a.tmps) = true then Oper.wp Try.prog o a w K Q else E := by
  rw [if_pos (by simp [Region.wanted, hgd])]
  exact wp_store_mid (P := Try.prog) t x y ho b 0 cells hx hy (hB.there (by omega)) (by rw [hi, hcs]) (by rw [← Array.all_toList]; exact h1) (h _ (hB.whole cells (by omega)) (setCells_mod b cells.toList 0 w))
theorem step_marked {ops : Array Oper} {o : Oper} {a : Act} {w : World} {K : Act → World → Prop} {Q : Exit → Act → World → Prop} {E : Prop} (hgd : o.guard = none) (ho : o.op = .call { callee := .value (.func 37), args := #[], argTypes := #[] })
    (h : ∀ w', Mod (fun _ => False) w w' → K (a.put o.dst (.agg #[.int .i64 2, .int .i64 3, .int .i64 0, .int .i64 0, .int .i64 0, .int .i64 0, .int .i64 0, .bool false, .int .i64 5, .int .i64 2, .int .i64 1, .int .i64 7, .slice none 0 0])) w') : if Region.wanted o (yielded ops a.tmps) = true then Oper.wp Try.prog o a w K Q else E := by
  rw [if_pos (by simp [Region.wanted, hgd])]
  refine wp_enter (exec_call0 a.eval (fun args w => by simp [go_sem]) rfl ho) (marked w) ?_
  rintro e w' ⟨rfl, hm⟩
  exact ⟨_, rfl, h w' hm⟩
theorem step_old {ops : Array Oper} {o : Oper} {a : Act} {w : World} {K : Act → World → Prop} {Q : Exit → Act → World → Prop} {E : Prop} (hgd : o.guard = none) (x : Operand) (ho : o.op = .call { callee := .value (.func 28), args := #[x], argTypes := #[49] }) (hx : a.eval x = .agg #[.int .i64 3, .int .i64 2, .int .i64 1, .int .i64 2, .int .i64 0, .int .i64 2, .int .i64 3, .int .i64 0, .int .i64 0, .int .i64 0, .int .i64 0, .int .i64 0, .bool false, .int .i64 5, .int .i64 2, .int .i64 1, .int .i64 7, .slice none 0 0])
    (h : ∀ b c w', Own w' (.slice b 13 c) [2, 3, 0, 0, 0, 0, 0, 0, 5, 2, 1, 7, 0] → Mod (fun _ => False) w w' → K (a.put o.dst (.tuple #[.agg #[.int .i64 5, .int .i64 2, .int .i64 0, .int .i64 2, .int .i64 0, .int .i64 0, .int .i64 0, .bool false, .int .i64 0, .int .i64 3, .int .i64 2, .int .i64 1, .slice b 13 c], .int .i64 0])) w') : if Region.wanted o (yielded ops a.tmps) = true then Oper.wp Try.prog o a w K Q else E := by
  rw [if_pos (by simp [Region.wanted, hgd])]
  refine wp_enter (by rw [exec_call1 a.eval (fun args w => by simp [go_sem]) rfl ho, hx]) (old_mk w) ?_
  rintro e w' ⟨b, c, rfl, hO, hm⟩
  exact ⟨_, rfl, h b c w' hO hm⟩
def ag0 : Ms := ⟨5, 2, 0, 2, 0, 0, 0, false, 0, 3, 2, 1, [2, 3, 0, 0, 0, 0, 0, 0, 5, 2, 1, 7, 0]⟩
theorem ag0_chk : chk ag0 = 0 := by decide +kernel
def xx0 : List Int := pk ag0
theorem xx0_len : xx0.length = 26 := by decide +kernel
theorem xx0_rng : ∀ c ∈ xx0, 0 ≤ c ∧ c ≤ 255 := by decide +kernel
theorem tw0_chk : chk ⟨5, 2, 0, 2, 0, 0, 0, false, 0, 3, 2, 1, xx0⟩ = 2 := by decide +kernel
set_option maxRecDepth 100000 in
set_option maxHeartbeats 64000000 in
theorem names_walk (w : World) : Calls Try.prog 8 #[] w fun e w' => e = .returned (.bool true) ∧ Mod (fun _ => False) w w' := by
  have HP1 := fun W h => Pack_any 2 3 0 0 0 0 0 false 5 2 1 7 none 0 [] W h
  rw [show chk ⟨2, 3, 0, 0, 0, 0, 0, false, 5, 2, 1, 7, []⟩ = 0 from mk0_chk, show pk ⟨2, 3, 0, 0, 0, 0, 0, false, 5, 2, 1, 7, []⟩ = [2, 3, 0, 0, 0, 0, 0, 0, 5, 2, 1, 7, 0] from mk0_pk] at HP1
  have HCh := fun v W h => Charts v [⟨0, 3, 2, 6⟩, ⟨2, 1, 4, 16⟩] W h
  rw [nm_ch, nm_pk] at HCh
  have hA := (((Mod.refl (fun _ => False) w).alloc (.cells #[.int .i64 0, .int .i64 3, .int .i64 2, .int .i64 6] 58)).alloc (.cells #[.int .i64 2, .int .i64 1, .int .i64 4, .int .i64 16] 58)).alloc (.cells #[.int .i64 0, .int .i64 3, .int .i64 2, .int .i64 6, .int .i64 2, .int .i64 1, .int .i64 4, .int .i64 16] 58)
  go_enter Try.func8, Try.ntmps8
  have hP := nm_pl ((w.alloc (.cells #[.int .i64 0, .int .i64 3, .int .i64 2, .int .i64 6] 58)).alloc (.cells #[.int .i64 2, .int .i64 1, .int .i64 4, .int .i64 16] 58))
  rw [show ((w.alloc (.cells #[.int .i64 0, .int .i64 3, .int .i64 2, .int .i64 6] 58)).alloc (.cells #[.int .i64 2, .int .i64 1, .int .i64 4, .int .i64 16] 58)).heap.size = w.heap.size + 2 from by simp] at hP
  go_wp2_with (fail)
  refine (HCh _ _ hP).mono ?_
  rintro e w1 ⟨v3, rfl, hm1, hok, _⟩
  obtain ⟨hv3, _⟩ := hok trivial
  have M1 : Hid (Mod (fun _ => False) w w1) := hA.trans hm1 (fun _ _ h => h) (fun _ _ h => h)
  have BP : Hid (Bk w1 w.heap.size 58 #[.int .i64 0, .int .i64 3, .int .i64 2, .int .i64 6]) := (Bk.new w _ _).mod ((((Mod.refl (fun _ => False) _).alloc _).alloc _).trans hm1 (fun _ _ h => h) (fun _ _ h => h)) (fun h => h)
  have BQ : Hid (Bk w1 (w.heap.size + 1) 58 #[.int .i64 2, .int .i64 1, .int .i64 4, .int .i64 16]) := by
    have h0 := Bk.new (w.alloc (.cells #[.int .i64 0, .int .i64 3, .int .i64 2, .int .i64 6] 58)) #[.int .i64 2, .int .i64 1, .int .i64 4, .int .i64 16] 58
    rw [show (w.alloc (.cells #[.int .i64 0, .int .i64 3, .int .i64 2, .int .i64 6] 58)).heap.size = w.heap.size + 1 from by simp] at h0
    exact h0.mod (((Mod.refl (fun _ => False) _).alloc _).trans hm1 (fun _ _ h => h) (fun _ _ h => h)) (fun h => h)
  obtain ⟨a3, c3, e3⟩ := hv3.shape
  simp only [List.length_cons, List.length_nil] at e3
  subst e3
  have HV3 : Hid (Own w1 (.slice a3 9 c3) [2, 0, 3, 2, 6, 2, 1, 4, 16]) := hv3
  have HE := EqBytes_any (.slice a3 9 c3) (.slice (some ⟨w1.heap.size, 0, none⟩) 9 9) [2, 0, 3, 2, 6, 2, 1, 4, 16] [2, 0, 3, 2, 6, 2, 1, 4, 16] (w1.alloc (.cells (U [2, 0, 3, 2, 6, 2, 1, 4, 16]).toArray 5)) ((hv3.mod ((Mod.refl (fun _ => False) w1).alloc _) (fun _ _ h => h)).sl (by simp)) ((Own.lit w1 [2, 0, 3, 2, 6, 2, 1, 4, 16] (by simp [maxLen])).sl (by simp))
  clear HCh hA hP hm1 hok hv3
  generalize w.heap.size = b at *
  generalize b + 1 = c at *
  go_wp2_with (fail)
  refine HE.mono ?_
  rintro e w2 ⟨rfl, hm2⟩
  clear HE
  simp only [decide_true]
  have M2 : Hid (Mod (fun _ => False) w1 w2) := ((Mod.refl (fun _ => False) w1).alloc _).trans hm2 (fun _ _ h => h) (fun _ _ h => h)
  clear hm2
  go_wp2_with (fail)
  go_loopw [5] (fun i wr => ∃ n : Nat, i = .int .i64 n ∧ n ≤ 28 ∧ Hid (Mod (fun _ => False) w1 wr)) (fun i _ => 28 - (intOf i).toNat)
  case atStart => exact ⟨0, rfl, by omega, M2⟩
  case round =>
    obtain ⟨n, rfl, hn, MR⟩ := hrel
    clear M2
    by_cases hlt : (n : Int) < 28
    · as_aux_lemma =>
        go_wp2_with (fail)
        refine (turned_any n (by omega) wr).mono ?_
        rintro e w3 ⟨m, rfl, ⟨k, o, lf, i, p, ps, g, s, st, rs, rr, sq, ao, cap, l, rfl, hS, hl⟩, hm3⟩
        have BM := Bk.new w3 #[.int .i64 k, .int .i64 o, .int .i64 lf, .int .i64 i, .int .i64 p, .int .i64 ps, .int .i64 g, .bool s, .int .i64 st, .int .i64 rs, .int .i64 rr, .int .i64 sq, .slice ao l.length cap] 28
        have hA3 := (Mod.refl (fun _ => False) w3).alloc (.cells #[.int .i64 k, .int .i64 o, .int .i64 lf, .int .i64 i, .int .i64 p, .int .i64 ps, .int .i64 g, .bool s, .int .i64 st, .int .i64 rs, .int .i64 rr, .int .i64 sq, .slice ao l.length cap] 28)
        have M3 : Mod (fun _ => False) w1 (w3.alloc (.cells #[.int .i64 k, .int .i64 o, .int .i64 lf, .int .i64 i, .int .i64 p, .int .i64 ps, .int .i64 g, .bool s, .int .i64 st, .int .i64 rs, .int .i64 rr, .int .i64 sq, .slice ao l.length cap] 28)) := (MR.out.trans hm3 (fun _ _ h => h) (fun _ _ h => h)).trans hA3 (fun _ _ h => h) (fun _ _ h => h)
        have hS3 := hS.mod hA3 (fun _ _ h => h)
        clear hS hm3 hA3
        go_wp2_with (fail)
        generalize w3.heap.size = gm at *
        generalize w3.alloc (.cells #[.int .i64 k, .int .i64 o, .int .i64 lf, .int .i64 i, .int .i64 p, .int .i64 ps, .int .i64 g, .bool s, .int .i64 st, .int .i64 rs, .int .i64 rr, .int .i64 sq, .slice ao l.length cap] 28) = W3 at *
        refine (packs_walk k o lf i p ps g s st rs rr sq ao cap l W3 hS3 (by omega)).mono ?_
        rintro e w4 ⟨rfl, hm4⟩
        have M4 := M3.trans hm4 (V := fun _ => False) (fun _ _ h => h) (fun _ _ h => h)
        replace BM := BM.mod hm4 (fun h => h)
        have hS4 := hS3.mod hm4 (fun _ _ h => h)
        clear hm4 hS3 M3
        have a0 := BM.cellv (j := 0) rfl
        have a1 := BM.cellv (j := 1) rfl
        have a2 := BM.cellv (j := 2) rfl
        have a3 := BM.cellv (j := 3) rfl
        have a4 := BM.cellv (j := 4) rfl
        have a5 := BM.cellv (j := 5) rfl
        have a6 := BM.cellv (j := 6) rfl
        have a7 := BM.cellv (j := 7) rfl
        have a8 := BM.cellv (j := 8) rfl
        have a9 := BM.cellv (j := 9) rfl
        have a10 := BM.cellv (j := 10) rfl
        have a11 := BM.cellv (j := 11) rfl
        have a12 := BM.cellv (j := 12) rfl
        go_wp2_with (fail)
        refine (back_walk k o lf i p ps g s st rs rr sq ao cap l w4 hS4).mono ?_
        rintro e w5 ⟨rfl, hm5⟩
        have M5 := M4.trans hm5 (V := fun _ => False) (fun _ _ h => h) (fun _ _ h => h)
        replace BM := BM.mod hm5 (fun h => h)
        have hS5 := hS4.mod hm5 (fun _ _ h => h)
        clear hm5 hS4 M4 a0 a1 a2 a3 a4 a5 a6 a7 a8 a9 a10 a11 a12
        have BP5 := BP.out.mod M5 (fun h => h)
        have p11 := BP5.cellv (j := 1) rfl
        have p12 := BP5.cellv (j := 2) rfl
        go_wp2_with (first | (refine wpList_load_rowg info13 Try.underlying28 rfl rfl _ rfl gm rfl BM rfl ?_; simp only [Act.put, List.setIfInBounds_toArray, List.set_cons_succ, List.set_cons_zero]) | (refine wpList_val rfl (bd49 (fun _ => rfl) rfl rfl rfl) ?_; simp only [Act.put, List.setIfInBounds_toArray, List.set_cons_succ, List.set_cons_zero]))
        refine (olds_walk 3 2 1 2 0 k o lf i p ps g s st rs rr sq ao cap l k o lf i p ps g s st rs rr sq ao cap l w5 hS5 hS5 (by omega) (by omega)).mono ?_
        rintro e w6 ⟨rfl, hm6⟩
        have M6 := M5.trans hm6 (V := fun _ => False) (fun _ _ h => h) (fun _ _ h => h)
        replace BM := BM.mod hm6 (fun h => h)
        have hS6 := hS5.mod hm6 (fun _ _ h => h)
        clear hm6 hS5 M5 BP5 p11 p12
        go_wp2_with (first | (refine wpList_load_rowg info13 Try.underlying28 rfl rfl _ rfl gm rfl BM rfl ?_; simp only [Act.put, List.setIfInBounds_toArray, List.set_cons_succ, List.set_cons_zero]) | (refine wpList_val rfl (bd49' rfl rfl) ?_; simp only [Act.put, List.setIfInBounds_toArray, List.set_cons_succ, List.set_cons_zero]))
        refine (again_walk 0 0 0 0 0 k o lf i p ps g s st rs rr sq ao cap l w6 hS6 (by omega) (by omega) (by omega) (by omega) (by omega)).mono ?_
        rintro e w7 ⟨rfl, hm7⟩
        have M7 : Hid (Mod (fun _ => False) w1 w7) := M6.trans hm7 (fun _ _ h => h) (fun _ _ h => h)
        clear hm7 hS6 M6 BM
        go_wp2
        go_roundw
        case rel => exact ⟨n + 1, by go_num, by omega, M7⟩
        case measure => simp [intOf]; omega
    · clear hn
      have hMR := MR.out
      clear MR
      go_upto_region 12 with fail
      have BP2 := BP.out.mod hMR (fun h => h)
      have BQ2 := BQ.out.mod hMR (fun h => h)
      refine region12 b (.bool false) (.bool false) c 0 3 2 6 2 1 4 16 ⟨⟨_, rfl, rfl, rfl, rfl, by decide +kernel⟩⟩ ⟨⟨_, rfl, rfl, rfl, rfl, by decide +kernel⟩⟩ ⟨⟨_, rfl, rfl, rfl, rfl, by decide +kernel⟩⟩ ⟨⟨_, rfl, rfl, rfl, rfl, by decide +kernel⟩⟩ ⟨⟨_, rfl, rfl, rfl, rfl, by decide +kernel⟩⟩ ⟨⟨_, rfl, rfl, rfl, rfl, by decide +kernel⟩⟩ ⟨⟨_, rfl, rfl, rfl, rfl, by decide +kernel⟩⟩ ⟨⟨_, rfl, rfl, rfl, rfl, by decide +kernel⟩⟩ ⟨⟨_, rfl, rfl, rfl, rfl, by decide +kernel⟩⟩ ⟨⟨_, rfl, rfl, rfl, rfl, by decide +kernel⟩⟩ ⟨⟨_, rfl, rfl, rfl, rfl, by decide +kernel⟩⟩ ⟨⟨_, rfl, rfl, rfl, rfl, by decide +kernel⟩⟩ ⟨⟨_, rfl, rfl, rfl, rfl, by decide +kernel⟩⟩ ⟨⟨_, rfl, rfl, rfl, rfl, by decide +kernel⟩⟩ ⟨⟨_, rfl, rfl, rfl, rfl, by decide +kernel⟩⟩ ⟨⟨_, rfl, rfl, rfl, rfl, by decide +kernel⟩⟩ ⟨⟨_, rfl, rfl, rfl, rfl, by decide +kernel⟩⟩ ⟨⟨_, rfl, rfl, rfl, rfl, by decide +kernel⟩⟩ ⟨⟨_, rfl, rfl, rfl, rfl, by decide +kernel⟩⟩ ⟨⟨_, rfl, rfl, rfl, rfl, by decide +kernel⟩⟩ ⟨⟨_, rfl, rfl, rfl, rfl, by decide +kernel⟩⟩ ⟨⟨_, rfl, rfl, rfl, rfl, by decide +kernel⟩⟩ ⟨⟨_, rfl, rfl, rfl, rfl, by decide +kernel⟩⟩ ⟨⟨_, rfl, rfl, rfl, rfl, by decide +kernel⟩⟩ ⟨⟨_, rfl, rfl, rfl, rfl, by decide +kernel⟩⟩ ⟨⟨_, rfl, rfl, rfl, rfl, by decide +kernel⟩⟩ ⟨⟨_, rfl, rfl, rfl, rfl, by decide +kernel⟩⟩ ⟨⟨_, rfl, rfl, rfl, rfl, by decide +kernel⟩⟩ ⟨⟨_, rfl, rfl, rfl, rfl, by decide +kernel⟩⟩ ⟨⟨_, rfl, rfl, rfl, rfl, by decide +kernel⟩⟩ ⟨⟨_, rfl, rfl, rfl, rfl, by decide +kernel⟩⟩ ⟨⟨_, rfl, rfl, rfl, rfl, by decide +kernel⟩⟩ ⟨⟨_, rfl, rfl, rfl, rfl, by decide +kernel⟩⟩ ⟨⟨_, rfl, rfl, rfl, rfl, by decide +kernel⟩⟩ ⟨⟨_, rfl, rfl, rfl, rfl, by decide +kernel⟩⟩ ⟨⟨_, rfl, rfl, rfl, rfl, by decide +kernel⟩⟩ ⟨⟨_, rfl, rfl, rfl, rfl, by decide +kernel⟩⟩ rfl (by decide +kernel) rfl (by decide +kernel) mixed rfl rfl (BP2.cellv (j := 0) rfl) (BP2.cellv (j := 1) rfl) (BP2.cellv (j := 2) rfl) (BP2.cellv (j := 3) rfl) (by simp [I64]) (by simp [I64]) rfl (BQ2.cellv (j := 0) rfl) (BQ2.cellv (j := 1) rfl) (BQ2.cellv (j := 2) rfl) (BQ2.cellv (j := 3) rfl) (by simp [I64]) (by simp [I64]) ?_
      intro u w8 hm8 hT
      simp only [puts, Act.put, List.setIfInBounds_toArray, List.set_cons_succ, List.set_cons_zero]
      generalize u 7 = v7 at hT ⊢
      obtain ⟨bb, rfl, hT⟩ := hT
      have M8 : Hid (Mod (fun _ => False) w1 w8) := hMR.drew.trans hm8 (fun _ _ h => h) (fun _ _ h => h)
      have HT : Hid (∀ j, j < 12 → ∃ u, w8.cell? ⟨bb, j, none⟩ = some u ∧ IsL w8 u) := hT
      clear hm8 hMR BP2 BQ2 hT
      go_wp2_with (fail)
      go_loopw [8] (fun i wr => ∃ n : Nat, i = .int .i64 n ∧ n ≤ 12 ∧ Hid (Mod (fun _ => False) w8 wr)) (fun i _ => 12 - (intOf i).toNat)
      case atStart => exact ⟨0, rfl, by omega, Mod.refl _ _⟩
      case round =>
        obtain ⟨n, rfl, hn, MR⟩ := hrel
        by_cases hlt : (n : Int) < 12
        · as_aux_lemma =>
            obtain ⟨x, hx, l, hL, hl5⟩ := HT.out n (by omega)
            have cx := MR.out.cell hx (fun h => h)
            have hL' := hL.mod MR.out (fun _ _ _ h => h)
            clear HT hx hL
            go_wp2_with (fail)
            refine (charts_walk x l _ hL' (by omega)).mono ?_
            rintro e w9 ⟨rfl, hm9⟩
            have M9 : Hid (Mod (fun _ => False) w8 w9) := MR.out.trans hm9 (fun _ _ h => h) (fun _ _ h => h)
            clear hm9 cx hL' MR
            go_wp2
            go_roundw
            case rel => exact ⟨n + 1, by go_num, by omega, M9⟩
            case measure => simp [intOf]; omega
        · clear hn HT
          have M9 := M8.out.trans MR.out (V := fun _ => False) (fun _ _ h => h) (fun _ _ h => h)
          clear MR M8
          go_wp2_with (fail)
          refine (marked _).mono ?_
          rintro e w10 ⟨rfl, hm10⟩
          go_wp2_with (fail)
          refine (HP1 _ (Own.sl (Own.nil w10) (by simp))).mono ?_
          rintro e w11 ⟨v9, rfl, hm11, hok1, _⟩
          obtain ⟨h9, _⟩ := hok1 trivial
          obtain ⟨a9, c9, e9⟩ := h9.shape
          change v9 = .slice a9 13 c9 at e9
          subst e9
          have M11 := (M9.trans hm10 (V := fun _ => False) (fun _ _ h => h) (fun _ _ h => h)).trans hm11 (V := fun _ => False) (fun _ _ h => h) (fun _ _ h => h)
          clear M9 hm10 hm11 hok1 HP1
          go_wp2_with (fail)
          refine (copy_any (.slice a9 13 c9) [2, 3, 0, 0, 0, 0, 0, 0, 5, 2, 1, 7, 0] w11 (h9.sl (by simp)) (by simp)).mono ?_
          rintro e w12 ⟨vd, rfl, hvd, hm12, hnd⟩
          obtain ⟨i0, hi5, hz0, hz1, hz2⟩ := info_parts info5
          go_upto_region 20 with (at_builtin; refine wpList_append_lies _ rfl _ _ 26 rfl 0 5 i0 (.int .u8 0) 1 1 Try.underlying26 hi5 hz0 hz1 hz2 rfl (by decide) vd 13 (U [2, 3, 0, 0, 0, 0, 0, 0, 5, 2, 1, 7, 0]) rfl (hvd.alloc _) ⟨w12.heap.size, 0, none⟩ 1 1 [.int .u8 0] rfl rfl (app1 _ _ _) (U_one [0]) (by omega) (by simp only [maxLen]; omega) (by omega) (Nat.zero_le _) (w12.heap.size + 1) (by simp) ?_; intro gd cd w13 hown1 hgrow hg hlt9)
          have m13 : Mod (fun _ => False) w11 w13 := hm12.trans (((Mod.refl (fun q => vd.ownBlock = some q) w12).alloc _).grown hgrow (fun q hq _ => hq)) (fun _ _ h => h) (fun q hq h => by have := hnd q h; omega)
          have M13 := M11.trans m13 (V := fun _ => False) (fun _ _ h => h) (fun _ _ h => h)
          have hD : Own w13 (.slice (some ⟨gd, 0, none⟩) 14 cd) ([2, 3, 0, 0, 0, 0, 0, 0, 5, 2, 1, 7, 0] ++ [0]) := by
            unfold Own
            simpa [U] using hown1
          have h9' := h9.mod m13 (fun _ _ h => h)
          have h3' := HV3.out.mod M13 (fun _ _ h => h)
          have l9 : 13 ≤ c9 := by
            obtain ⟨_, _, e, h, _⟩ := (h9'.sl (by simp)).form
            simp only [Value.slice.injEq] at e
            rw [e.2.2]
            simpa using h
          have l3 : 9 ≤ c3 := by
            obtain ⟨_, _, e, h, _⟩ := (h3'.sl (by simp)).form
            simp only [Value.slice.injEq] at e
            rw [e.2.2]
            simpa using h
          refine region20 b (.slice a9 13 c9) (.slice a3 9 c3) (.slice (some ⟨gd, 0, none⟩) 14 cd) a9 a3 c9 c3 ⟨⟨_, rfl, rfl, rfl, rfl, by decide +kernel⟩⟩ ⟨⟨_, rfl, rfl, rfl, rfl, by decide +kernel⟩⟩ ⟨⟨_, rfl, rfl, rfl, rfl, by decide +kernel⟩⟩ ⟨⟨_, rfl, rfl, rfl, rfl, by decide +kernel⟩⟩ ⟨⟨_, rfl, rfl, rfl, rfl, by decide +kernel⟩⟩ ⟨⟨_, rfl, rfl, rfl, rfl, by decide +kernel⟩⟩ ⟨⟨_, rfl, rfl, rfl, rfl, by decide +kernel⟩⟩ ⟨⟨_, rfl, rfl, rfl, rfl, by decide +kernel⟩⟩ ⟨⟨_, rfl, rfl, rfl, rfl, by decide +kernel⟩⟩ ⟨⟨_, rfl, rfl, rfl, rfl, by decide +kernel⟩⟩ ⟨⟨_, rfl, rfl, rfl, rfl, by decide +kernel⟩⟩ ⟨⟨_, rfl, rfl, rfl, rfl, by decide +kernel⟩⟩ ⟨⟨_, rfl, rfl, rfl, rfl, by decide +kernel⟩⟩ ⟨⟨_, rfl, rfl, rfl, rfl, by decide +kernel⟩⟩ ⟨⟨_, rfl, rfl, rfl, rfl, by decide +kernel⟩⟩ rfl (by decide +kernel) rfl (by decide +kernel) mixed rfl rfl rfl rfl rfl rfl (fun hW => ⟨_, (h9'.mod hW (fun _ _ h => h)).sl (by simp), by simp⟩) (fun hW => ⟨_, (hD.mod hW (fun _ _ h => h)).sl (by simp), by simp⟩) (fun hW => ⟨_, (h3'.mod hW (fun _ _ h => h)).sl (by simp), by simp⟩) (fun hW => (((h9'.mod hW (fun _ _ h => h)).sl (by simp)).cutB 12 (by omega)).resolve_right (by omega)) (fun hW => (((h3'.mod hW (fun _ _ h => h)).sl (by simp)).cutB 8 (by omega)).resolve_right (by omega)) l9 l3 ?_
          intro u2 w14 hm14 hT
          simp only [puts, Act.put, List.setIfInBounds_toArray, List.set_cons_succ, List.set_cons_zero]
          generalize u2 12 = v12 at hT ⊢
          obtain ⟨bc, rfl, hT⟩ := hT
          have M14 : Hid (Mod (fun _ => False) w1 w14) := M13.drew.trans hm14 (fun _ _ h => h) (fun _ _ h => h)
          have HT : Hid (∀ j, j < 12 → ∃ u, w14.cell? ⟨bc, j, none⟩ = some u ∧ IsB w14 u) := hT
          clear hm14 M13 m13 M11 hT hD h9' h3' l9 l3 hown1 hgrow hg hlt9 hvd hm12 hnd h9
          go_wp2_with (fail)
          go_loopw [13] (fun i wr => ∃ n : Nat, i = .int .i64 n ∧ n ≤ 12 ∧ Hid (Mod (fun _ => False) w14 wr)) (fun i _ => 12 - (intOf i).toNat)
          case atStart => exact ⟨0, rfl, by omega, Mod.refl _ _⟩
          case round =>
            obtain ⟨n, rfl, hn, MR⟩ := hrel
            by_cases hlt : (n : Int) < 12
            · as_aux_lemma =>
                obtain ⟨x, hx, l, hL, hl5⟩ := HT.out n (by omega)
                have cx := MR.out.cell hx (fun h => h)
                have hL' := hL.mod MR.out (fun _ _ h => h)
                clear HT
                go_wp2_with (fail)
                refine (unpacks_walk x l _ hL' (by omega)).mono ?_
                rintro e w15 ⟨rfl, hm15⟩
                have cx2 := hm15.cell cx (fun h => h)
                have hL2 := hL'.mod hm15 (fun _ _ h => h)
                go_wp2_with (fail)
                refine (once_walk x l 0 _ hL2 (by omega) (by omega)).mono ?_
                rintro e w16 ⟨rfl, hm16⟩
                have M16 : Hid (Mod (fun _ => False) w14 w16) := (MR.out.trans hm15 (V := fun _ => False) (fun _ _ h => h) (fun _ _ h => h)).trans hm16 (fun _ _ h => h) (fun _ _ h => h)
                clear hm15 hm16 cx cx2 hL' hL2 hx hL MR
                go_wp2
                go_roundw
                case rel => exact ⟨n + 1, by go_num, by omega, M16⟩
                case measure => simp [intOf]; omega
            · clear hn HT
              have M16 := M14.out.trans MR.out (V := fun _ => False) (fun _ _ h => h) (fun _ _ h => h)
              clear MR M14
              go_upto_region 26 with fail
              have BP3 := BP.out.mod M16 (fun h => h)
              refine region26 b (.bool false) (.bool false) 3 2 ⟨⟨_, rfl, rfl, rfl, rfl, by decide +kernel⟩⟩ ⟨⟨_, rfl, rfl, rfl, rfl, by decide +kernel⟩⟩ ⟨⟨_, rfl, rfl, rfl, rfl, by decide +kernel⟩⟩ ⟨⟨_, rfl, rfl, rfl, rfl, by decide +kernel⟩⟩ ⟨⟨_, rfl, rfl, rfl, rfl, by decide +kernel⟩⟩ ⟨⟨_, rfl, rfl, rfl, rfl, by decide +kernel⟩⟩ ⟨⟨_, rfl, rfl, rfl, rfl, by decide +kernel⟩⟩ ⟨⟨_, rfl, rfl, rfl, rfl, by decide +kernel⟩⟩ ⟨⟨_, rfl, rfl, rfl, rfl, by decide +kernel⟩⟩ ⟨⟨_, rfl, rfl, rfl, rfl, by decide +kernel⟩⟩ ⟨⟨_, rfl, rfl, rfl, rfl, by decide +kernel⟩⟩ ⟨⟨_, rfl, rfl, rfl, rfl, by decide +kernel⟩⟩ ⟨⟨_, rfl, rfl, rfl, rfl, by decide +kernel⟩⟩ ⟨⟨_, rfl, rfl, rfl, rfl, by decide +kernel⟩⟩ ⟨⟨_, rfl, rfl, rfl, rfl, by decide +kernel⟩⟩ ⟨⟨_, rfl, rfl, rfl, rfl, by decide +kernel⟩⟩ ⟨⟨_, rfl, rfl, rfl, rfl, by decide +kernel⟩⟩ ⟨⟨_, rfl, rfl, rfl, rfl, by decide +kernel⟩⟩ ⟨⟨_, rfl, rfl, rfl, rfl, by decide +kernel⟩⟩ ⟨⟨_, rfl, rfl, rfl, rfl, by decide +kernel⟩⟩ rfl (by decide +kernel) rfl (by decide +kernel) mixed rfl rfl (BP3.cellv (j := 1) rfl) (BP3.cellv (j := 2) rfl) ?_
              intro u3 w17 hm17 hT
              simp only [puts, Act.put, List.setIfInBounds_toArray, List.set_cons_succ, List.set_cons_zero]
              generalize u3 14 = v14 at hT ⊢
              obtain ⟨be, rfl, hT⟩ := hT
              have M17 : Hid (Mod (fun _ => False) w1 w17) := M16.drew.trans hm17 (fun _ _ h => h) (fun _ _ h => h)
              have HT : Hid (∀ j, j < 6 → ∃ u, Dc w17 be (j * 18) u ∧ IsD w17 u) := hT
              clear hm17 M16 hT BP3
              go_wp2_with (fail)
              go_loopw [15] (fun i wr => ∃ n : Nat, i = .int .i64 n ∧ n ≤ 6 ∧ Hid (Mod (fun _ => False) w17 wr)) (fun i _ => 6 - (intOf i).toNat)
              case atStart => exact ⟨0, rfl, by omega, Mod.refl _ _⟩
              case round =>
                obtain ⟨n, rfl, hn, MR⟩ := hrel
                by_cases hlt : (n : Int) < 6
                · as_aux_lemma =>
                    obtain ⟨x, ⟨xs, e1, hc⟩, dq, dr, ds, dn, dt, k, o, lf, i, p, ps, g, s, st, rs, rr, sq, ao, cap, l, e2, hS, hl⟩ := HT.out n (by omega)
                    rw [e1] at e2
                    have exs : xs = [.int .i64 dq, .int .i64 dr, .int .i64 ds, .int .i64 dn, .int .i64 dt, .int .i64 k, .int .i64 o, .int .i64 lf, .int .i64 i, .int .i64 p, .int .i64 ps, .int .i64 g, .bool s, .int .i64 st, .int .i64 rs, .int .i64 rr, .int .i64 sq, .slice ao l.length cap] := by simpa using e2
                    subst exs
                    clear e1 e2 HT
                    have HRA : Hid (wr.rangeAt be (n * 18) [.int .i64 dq, .int .i64 dr, .int .i64 ds, .int .i64 dn, .int .i64 dt, .int .i64 k, .int .i64 o, .int .i64 lf, .int .i64 i, .int .i64 p, .int .i64 ps, .int .i64 g, .bool s, .int .i64 st, .int .i64 rs, .int .i64 rr, .int .i64 sq, .slice ao l.length cap]) := fun t c ht => MR.out.cell (hc t c ht) (fun h => h)
                    have HS : Hid (∀ W, Mod (fun _ => False) wr W → Sl W (.slice ao l.length cap) l) := fun W hW => hS.mod (MR.out.trans hW (V := fun _ => False) (fun _ _ h => h) (fun _ _ h => h)) (fun _ _ h => h)
                    have HL : Hid (l.length ≤ 140737488351232) := by show _ ≤ _; omega
                    have HNL : Hid (n < 6) := by show _ < _; omega
                    clear hc hS hl
                    go_upto_region 30 with (fail)
                    refine region30 be n #[.int .i64 dq, .int .i64 dr, .int .i64 ds, .int .i64 dn, .int .i64 dt, .int .i64 k, .int .i64 o, .int .i64 lf, .int .i64 i, .int .i64 p, .int .i64 ps, .int .i64 g, .bool s, .int .i64 st, .int .i64 rs, .int .i64 rr, .int .i64 sq, .slice ao l.length cap] ⟨⟨_, rfl, rfl, rfl, rfl, by decide +kernel⟩⟩ ⟨⟨_, rfl, rfl, rfl, rfl, by decide +kernel⟩⟩ ⟨⟨_, rfl, rfl, rfl, rfl, by decide +kernel⟩⟩ ⟨⟨_, rfl, rfl, rfl, rfl, by decide +kernel⟩⟩ ⟨⟨_, rfl, rfl, rfl, rfl, by decide +kernel⟩⟩ ⟨⟨_, rfl, rfl, rfl, rfl, by decide +kernel⟩⟩ ⟨⟨_, rfl, rfl, rfl, rfl, by decide +kernel⟩⟩ rfl (by decide +kernel) rfl (by decide +kernel) rfl rfl rfl HNL.out rfl HRA.out (fun W ao2 cap2 hW hO => olds_walk dq dr ds dn dt k o lf i p ps g s st rs rr sq ao cap l 1 1 9 2 0 1 130 true 0 0 0 0 ao2 cap2 [65] W (HS.out W (((Mod.refl (fun _ => False) wr).drew).trans hW (fun _ _ h => h) (fun _ _ h => h))) (hO.sl (by simp)) HL.out (by simp)) ?_
                    intro y184 y185 y186 y187 y188 y189 w20 hm20
                    have M20 : Hid (Mod (fun _ => False) w17 w20) := MR.out.trans hm20 (fun _ _ h => h) (fun _ _ h => h)
                    clear hm20 HS MR HRA HL
                    simp only [puts, Act.put, List.setIfInBounds_toArray, List.set_cons_succ, List.set_cons_zero]
                    go_wp2
                    go_roundw
                    case rel => exact ⟨n + 1, by go_num, by omega, M20⟩
                    case measure => simp [intOf]; omega
                · clear hn HT
                  have M20 := M17.out.trans MR.out (V := fun _ => False) (fun _ _ h => h) (fun _ _ h => h)
                  clear MR M17
                  have BP4 := BP.out.mod M20 (fun h => h)
                  have p11 := BP4.cellv (j := 1) rfl
                  have p12 := BP4.cellv (j := 2) rfl
                  clear BP4
                  go_upto_region 32 with (fail)
                  refine region32 b ⟨⟨_, rfl, rfl, rfl, rfl, by decide +kernel⟩⟩ ⟨⟨_, rfl, rfl, rfl, rfl, by decide +kernel⟩⟩ ⟨⟨_, rfl, rfl, rfl, rfl, by decide +kernel⟩⟩ ⟨⟨_, rfl, rfl, rfl, rfl, by decide +kernel⟩⟩ ⟨⟨_, rfl, rfl, rfl, rfl, by decide +kernel⟩⟩ ⟨⟨_, rfl, rfl, rfl, rfl, by decide +kernel⟩⟩ ⟨⟨_, rfl, rfl, rfl, rfl, by decide +kernel⟩⟩ ⟨⟨_, rfl, rfl, rfl, rfl, by decide +kernel⟩⟩ ⟨⟨_, rfl, rfl, rfl, rfl, by decide +kernel⟩⟩ ⟨⟨_, rfl, rfl, rfl, rfl, by decide +kernel⟩⟩ ⟨⟨_, rfl, rfl, rfl, rfl, by decide +kernel⟩⟩ rfl (by decide +kernel) rfl (by decide +kernel) rfl rfl p11 p12 (fun W => marked W) (fun W => old_mk W) ?_
                  intro y196 y191 y197 bX a cc wc hMw hBY hOY
                  have MY : Hid (Mod (fun _ => False) w1 wc) := M20.trans hMw (fun _ _ h => h) (fun _ _ h => h)
                  clear p11 p12 hMw
                  simp only [puts, Act.put, List.setIfInBounds_toArray, List.set_cons_succ, List.set_cons_zero]
                  all_goals
                    as_aux_lemma =>
                      have HPk := fun W h => Pack_any 5 2 0 2 0 0 0 false 0 3 2 1 a cc [2, 3, 0, 0, 0, 0, 0, 0, 5, 2, 1, 7, 0] W h
                      rw [show chk ⟨5, 2, 0, 2, 0, 0, 0, false, 0, 3, 2, 1, [2, 3, 0, 0, 0, 0, 0, 0, 5, 2, 1, 7, 0]⟩ = 0 from ag0_chk, show pk ⟨5, 2, 0, 2, 0, 0, 0, false, 0, 3, 2, 1, [2, 3, 0, 0, 0, 0, 0, 0, 5, 2, 1, 7, 0]⟩ = xx0 from rfl] at HPk
                      go_wp2_with (refine wpList_load_row info13 Try.underlying28 rfl rfl _ rfl _ rfl hBY rfl ?_; simp only [Act.put, List.setIfInBounds_toArray])
                      refine (HPk _ (hOY.sl (by simp))).mono ?_
                      rintro e w24 ⟨x, rfl, hm24, hok, _⟩
                      obtain ⟨hx, _⟩ := hok trivial
                      obtain ⟨ax, cx, ex⟩ := hx.shape
                      subst ex
                      have B24 := hBY.mod hm24 (fun h => h)
                      have M24 : Hid (Mod (fun _ => False) w1 w24) := MY.out.trans hm24 (fun _ _ h => h) (fun _ _ h => h)
                      clear hBY hOY hm24 hok MY HPk
                      have hA := (Mod.refl (fun _ => False) w24).alloc (.cells #[.int .i64 5, .int .i64 2, .int .i64 0, .int .i64 2, .int .i64 0, .int .i64 0, .int .i64 0, .bool false, .int .i64 0, .int .i64 3, .int .i64 2, .int .i64 1, .slice ax xx0.length cx] 28)
                      have BT := Bk.new w24 #[.int .i64 5, .int .i64 2, .int .i64 0, .int .i64 2, .int .i64 0, .int .i64 0, .int .i64 0, .bool false, .int .i64 0, .int .i64 3, .int .i64 2, .int .i64 1, .slice ax xx0.length cx] 28
                      have hxA := hx.mod hA (fun _ _ h => h)
                      clear hx
                      go_wp2_with (refine wpList_load_row info13 Try.underlying28 rfl rfl _ rfl _ rfl B24 rfl ?_; simp only [Act.put, List.setIfInBounds_toArray, List.set_cons_succ, List.set_cons_zero])
                      refine (awake _).mono ?_
                      rintro e w25 ⟨rfl, hm25⟩
                      have BT5 := BT.mod hm25 (fun h => h)
                      have hx5 := hxA.mod hm25 (fun _ _ h => h)
                      have HCk := Check_any 5 2 0 2 0 0 0 false 0 3 2 1 ax cx xx0 w25 (hx5.sl xx0_rng)
                      rw [tw0_chk] at HCk
                      go_wp2_with (refine wpList_load_rowg info13 Try.underlying28 rfl rfl _ rfl _ rfl BT5 rfl ?_; simp only [Act.put, List.setIfInBounds_toArray, List.set_cons_succ, List.set_cons_zero])
                      refine HCk.mono ?_
                      rintro e w26 ⟨rfl, hm26⟩
                      have BT6 := BT5.mod hm26 (fun h => h)
                      have hx6 := hx5.mod hm26 (fun _ _ h => h)
                      clear HCk
                      go_wp2_with (refine wpList_load_rowg info13 Try.underlying28 rfl rfl _ rfl _ rfl BT6 rfl ?_; simp only [Act.put, List.setIfInBounds_toArray, List.set_cons_succ, List.set_cons_zero])
                      refine (packs_walk 5 2 0 2 0 0 0 false 0 3 2 1 ax cx xx0 w26 (hx6.sl xx0_rng) (by rw [xx0_len]; omega)).mono ?_
                      rintro e w27 ⟨rfl, hm27⟩
                      go_wp2
                      go_ret
                      exact ⟨rfl, M1.out.trans (M24.out.trans (hA.trans (hm25.trans (hm26.trans hm27 (V := fun _ => False) (fun _ _ h => h) (fun _ _ h => h)) (V := fun _ => False) (fun _ _ h => h) (fun _ _ h => h)) (V := fun _ => False) (fun _ _ h => h) (fun _ _ h => h)) (V := fun _ => False) (fun _ _ h => h) (fun _ _ h => h)) (fun _ _ h => h) (fun _ _ h => h)⟩
end Go.Proofs.Ytajhpnfpjickbaa
namespace Go.Proofs.Ytajhpnfpjickbaa
namespace parcelNames
open Go.ChangeShapes Go.WideShapes Go.ChangeAt Go.RowKit
set_option maxRecDepth 100000 in
theorem lifted (os : Os) (started : os.Started) (H : Type) (enc : TypeId × Value → H) :
    ReturnsInHanded {} Try.checked os 8 .any (Rows.parcelNamesSpec.pre6 enc Try.prog Try.f8 Rows.parcelNamesRow.domain false) (Rows.parcelNamesSpec.post enc Try.prog Try.f8 false true false false) := by
  refine returnsInHanded_of_change_sized (C := Try.checked) own started (by kernel_rfl) Try.func8
    (ChangeSpec.witness6 (enc := enc) (C := Try.checked) false ⟨#[], #[], []⟩ 8 (by kernel_rfl) (by kernel_rfl) (by kernel_rfl) (by kernel_rfl)) ?_
  intro W base args ds gs before hval0 hW hcnd hsz0 _
  have hval : ∀ (j : Nat) t v, Try.f8.params[j]? = some t → args[j]? = some v → Value.okWide Try.prog W .any base t v := hval0
  have hW' := hW
  obtain ⟨p, q, hA0, hV, rfl, hfz, hnd⟩ := hW
  have hA : DataW.TrodAll enc Try.prog W 0 (fun _ => true) true Try.f8.params.toList args.toList ds p := hA0
  rw [Try.params8] at hA hval
  obtain ⟨hargs, rfl, rfl⟩ := trodAll_nil hA
  obtain rfl : args = #[] := by cases args; simp_all
  obtain ⟨rfl, rfl⟩ := trodVars_none hV
  clear hA0 hval0
  refine (names_walk W).mono fun e W' ⟨he, hm⟩ => ?_
  subst he
  have bel : Below W.heap.size W W' := hm.below _ (Nat.le_refl _) (fun _ h => h.elim)
  exact ⟨_, rfl, _, _, _, [], _, [], hW', trodAll_mk1 (shut_bool Try.underlying4 _), trodAll_mk0, rfl, bel.frame _, fun h => by cases h⟩

theorem over : Rows.parcelNamesRow.holds Try.pinned (OpenSpec.ofChange Rows.parcelNamesSpec) :=
  OpenClaim.holds_of_wide 8 Try.f8 rfl rfl rfl rfl rfl rfl rfl ⟨rfl, rfl, rfl, rfl, rfl⟩ rfl rfl rfl rfl rfl (by kernel_rfl) Try.func8 (by kernel_rfl)
    (of_decide_eq_true (by kernel_rfl)) (by unfold Func.isWrapper; first | (rw [if_pos (by decide +kernel)]; kernel_rfl) | (rw [if_neg (by decide +kernel)]; exact ⟨rfl, rfl⟩))
    (fun os started H enc _ => lifted os started H enc)
end parcelNames
theorem parcelNames_holds : Rows.ParcelNamesSaid := parcelNames.over
end Go.Proofs.Ytajhpnfpjickbaa
