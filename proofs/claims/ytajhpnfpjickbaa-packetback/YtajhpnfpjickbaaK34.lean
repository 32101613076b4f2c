/- Contract of packet's Check. Conditions: what its slices read as; sizes. -/
import Derived.Test.YtajhpnfpjickbaaK33
namespace Go.Proofs.Ytajhpnfpjickbaa
open Go.RowKit
theorem info40 : (Try.prog.info? 76).map (·.size) = some 40 := by kernel_rfl
theorem flp0 {b : Nat} (w : World) : (Instr.fieldAt 76 (.pointer (some ⟨b, 0, none⟩)) 0).run Try.prog w = .ok (.pointer (some ⟨b, 0, none⟩)) w := by
  simp [go_sem]
theorem ldp {b : Nat} {t' : TypeId} {xs : Array Value} {w : World} (hB : Bk w b t' xs) (hs : xs.size = 40) : (Instr.loadAt 76 (.pointer (some ⟨b, 0, none⟩))).run Try.prog w = .ok (.agg xs) w := by
  have hl := run_loadVar_mid (P := Try.prog) w b 0 76 xs.toList _ hB.row Try.underlying76 rfl (by rw [info40]; simp [hs])
  simp only [Instr.loadAt, Instr.sureAddr, Sem.run_bind, Sem.run_pure, Result.andThen_ok, hl]
theorem ox_eqlF {o : Oper} {w : World} {ρ : Operand → Value} {x y : Operand} (ho : o.op = .binOp .eql 118 x y 118) {f0 f1 f2 f3 f4 g0 g1 g2 g3 g4 : Bool} (hx : ρ x = .agg #[.bool f0, .bool f1, .bool f2, .bool f3, .bool f4]) (hy : ρ y = .agg #[.bool g0, .bool g1, .bool g2, .bool g3, .bool g4]) {e : Bool} (he : ((f0 == g0) && ((f1 == g1) && ((f2 == g2) && ((f3 == g3) && (f4 == g4))))) = e) : (execOp ρ o).run Try.prog w = .ok (.value (.bool e)) w := by
  subst he
  by_cases h0 : f0 = g0 <;> by_cases h1 : f1 = g1 <;> by_cases h2 : f2 = g2 <;> by_cases h3 : f3 = g3 <;> by_cases h4 : f4 = g4 <;> simp [execOp, ho, hx, hy, go_sem, h0, h1, h2, h3, h4]
def v10 (b : Nat) (xs : Array Value) (kd : Int) (f0 f1 f2 f3 f4 g0 g1 g2 g3 g4 _wl : Bool) : Nat → Value
  | 0 => .agg xs
  | 1 => .agg #[.bool f0, .bool f1, .bool f2, .bool f3, .bool f4]
  | 2 => .pointer (some ⟨b, 0, none⟩)
  | 3 => .int .i64 kd
  | 4 => .agg #[.bool g0, .bool g1, .bool g2, .bool g3, .bool g4]
  | 5 => .bool false
  | 6 => .bool false
  | 9 => .bool false
  | _ => undef
set_option maxRecDepth 100000 in
set_option maxHeartbeats 4000000 in
theorem region10 {ops : Array Oper} {id : Nat} {a0 : Act} {w0 : World} {Q : Exit → Act → World → Prop} (b : Nat) (xs : Array Value) (kd : Int) (f0 f1 f2 f3 f4 g0 g1 g2 g3 g4 wl : Bool)
    (E0 : Is ops 0 (some 3) (Op.load 76 (Operand.tmp 1)) none [])
    (E1 : Is ops 1 (some 4) (Op.call { callee := Callee.value (Operand.func 74), args := #[Operand.tmp 3], argTypes := #[76] }) none [0])
    (E2 : Is ops 2 (some 5) (Op.fieldAddr 76 (Operand.tmp 1) 0) none [])
    (E3 : Is ops 3 (some 6) (Op.load 3 (Operand.tmp 5)) none [2])
    (E4 : Is ops 4 (some 7) (Op.call { callee := Callee.value (Operand.func 75), args := #[Operand.tmp 6], argTypes := #[3] }) none [1, 3])
    (E5 : Is ops 5 (some 8) (Op.binOp BinOp.eql 118 (Operand.tmp 4) (Operand.tmp 7) 118) none [1, 4])
    (E6 : Is ops 6 (some 9) (Op.move (Operand.tmp 8)) none [4, 5])
    (E7 : Is ops 7 (some 10) (Op.load 76 (Operand.tmp 1)) (some (6, true)) [6])
    (E8 : Is ops 8 (some 11) (Op.call { callee := Callee.value (Operand.func 76), args := #[Operand.tmp 10], argTypes := #[76] }) (some (6, true)) [6, 7])
    (E9 : Is ops 9 (some 12) (Op.pick (Operand.tmp 9) (Operand.tmp 11) (Operand.const (Value.bool false))) none [6, 8])
    (hN : ops.size = 10) (hlow : lowB ops = true) (hds : dsts ops = [some 3, some 4, some 5, some 6, some 7, some 8, some 9, some 10, some 11, some 12]) (hnd : injB ops = true)
    (hmx : Try.prog.follows .mixedOrders = true) (ha0 : a0.tmps.size = 13) (h1 : a0.tmps.getD 1 undef = .pointer (some ⟨b, 0, none⟩))
    (hB : Bk w0 b 76 xs) (hsx : xs.size = 40) (hk : xs[0]? = some (.int .i64 kd))
    (H1 : ∀ W, Calls Try.prog 74 #[.agg xs] W fun e w' => e = .returned (.agg #[.bool f0, .bool f1, .bool f2, .bool f3, .bool f4]) ∧ Mod (fun _ => False) W w')
    (H2 : ∀ W, Calls Try.prog 75 #[.int .i64 kd] W fun e w' => e = .returned (.agg #[.bool g0, .bool g1, .bool g2, .bool g3, .bool g4]) ∧ Mod (fun _ => False) W w')
    (hq : ((f0 == g0) && ((f1 == g1) && ((f2 == g2) && ((f3 == g3) && (f4 == g4))))) = false)
    (hend : ∀ w, Mod (fun _ => False) w0.drew w → Q .normal (puts a0 [(3, .agg xs), (4, .agg #[.bool f0, .bool f1, .bool f2, .bool f3, .bool f4]), (5, .pointer (some ⟨b, 0, none⟩)), (6, .int .i64 kd), (7, .agg #[.bool g0, .bool g1, .bool g2, .bool g3, .bool g4]), (8, .bool false), (9, .bool false), (10, undef), (11, undef), (12, .bool false)]) w) :
    (Code.region id ops true).wp Try.prog Q a0 w0 := by
  have DB' : ∀ {W : World}, Mod (fun _ => False) w0.drew W → Bk W b 76 xs := fun hW => (hB.mod (Mod.refl (fun _ => False) _).drew (fun h => h)).mod hW (fun h => h)
  have s0 : ∀ o, ops[0]? = some o → Step Try.prog ops (fun i' v => v = v10 b xs kd f0 f1 f2 f3 f4 g0 g1 g2 g3 g4 wl i') (fun _ W => Mod (fun _ => False) w0.drew W) a0 Q 0 o := by
    refine E0.step fun o hd ho hg hw => ?_
    intro y w listed hsz hls hun hwt hdown D' R hinv K hK
    rw [ha0] at hsz
    refine .inl ⟨wanted_none hg, ?_⟩
    have fx1 : y.eval (Operand.tmp 1) = .pointer (some ⟨b, 0, none⟩) := (R 1 (not_of (by rw [hds]; decide))).trans h1
    exact wp_value (ox_load ho fx1 (ldp (DB' hinv) hsx)) (hK _ _ rfl hinv)
  have s1 : ∀ o, ops[1]? = some o → Step Try.prog ops (fun i' v => v = v10 b xs kd f0 f1 f2 f3 f4 g0 g1 g2 g3 g4 wl i') (fun _ W => Mod (fun _ => False) w0.drew W) a0 Q 1 o := by
    refine E1.step fun o hd ho hg hw => ?_
    intro y w listed hsz hls hun hwt hdown D' R hinv K hK
    rw [ha0] at hsz
    refine .inl ⟨wanted_none hg, ?_⟩
    have fx3 : y.eval (Operand.tmp 3) = .agg xs := E0.post (Post := (fun i' v => v = v10 b xs kd f0 f1 f2 f3 f4 g0 g1 g2 g3 g4 wl i')) (a := y) D' (hw 0 (by simp))
    refine wp_enter (f := 74) (args := #[.agg xs]) ?_ (H1 w) ?_
    · rw [exec_call1 y.eval (fun args w => by simp [go_sem]) rfl ho, fx3]
    · rintro e w' ⟨rfl, hm⟩
      exact ⟨_, rfl, hK _ _ rfl (hinv.trans hm (fun _ _ h => h) (fun _ _ h => h))⟩
  have s2 : ∀ o, ops[2]? = some o → Step Try.prog ops (fun i' v => v = v10 b xs kd f0 f1 f2 f3 f4 g0 g1 g2 g3 g4 wl i') (fun _ W => Mod (fun _ => False) w0.drew W) a0 Q 2 o := by
    refine E2.step fun o hd ho hg hw => ?_
    intro y w listed hsz hls hun hwt hdown D' R hinv K hK
    rw [ha0] at hsz
    refine .inl ⟨wanted_none hg, ?_⟩
    have fx1 : y.eval (Operand.tmp 1) = .pointer (some ⟨b, 0, none⟩) := (R 1 (not_of (by rw [hds]; decide))).trans h1
    exact wp_value (ox_field ho fx1 (flp0 w)) (hK _ _ rfl hinv)
  have s3 : ∀ o, ops[3]? = some o → Step Try.prog ops (fun i' v => v = v10 b xs kd f0 f1 f2 f3 f4 g0 g1 g2 g3 g4 wl i') (fun _ W => Mod (fun _ => False) w0.drew W) a0 Q 3 o := by
    refine E3.step fun o hd ho hg hw => ?_
    intro y w listed hsz hls hun hwt hdown D' R hinv K hK
    rw [ha0] at hsz
    refine .inl ⟨wanted_none hg, ?_⟩
    have fx5 : y.eval (Operand.tmp 5) = .pointer (some ⟨b, 0, none⟩) := E2.post (Post := (fun i' v => v = v10 b xs kd f0 f1 f2 f3 f4 g0 g1 g2 g3 g4 wl i')) (a := y) D' (hw 2 (by simp))
    exact wp_value (ox_load ho fx5 (ld1 ((DB' hinv).cellv hk))) (hK _ _ rfl hinv)
  have s4 : ∀ o, ops[4]? = some o → Step Try.prog ops (fun i' v => v = v10 b xs kd f0 f1 f2 f3 f4 g0 g1 g2 g3 g4 wl i') (fun _ W => Mod (fun _ => False) w0.drew W) a0 Q 4 o := by
    refine E4.step fun o hd ho hg hw => ?_
    intro y w listed hsz hls hun hwt hdown D' R hinv K hK
    rw [ha0] at hsz
    refine .inl ⟨wanted_none hg, ?_⟩
    have fx6 : y.eval (Operand.tmp 6) = .int .i64 kd := E3.post (Post := (fun i' v => v = v10 b xs kd f0 f1 f2 f3 f4 g0 g1 g2 g3 g4 wl i')) (a := y) D' (hw 3 (by simp))
    refine wp_enter (f := 75) (args := #[.int .i64 kd]) ?_ (H2 w) ?_
    · rw [exec_call1 y.eval (fun args w => by simp [go_sem]) rfl ho, fx6]
    · rintro e w' ⟨rfl, hm⟩
      exact ⟨_, rfl, hK _ _ rfl (hinv.trans hm (fun _ _ h => h) (fun _ _ h => h))⟩
  have s5 : ∀ o, ops[5]? = some o → Step Try.prog ops (fun i' v => v = v10 b xs kd f0 f1 f2 f3 f4 g0 g1 g2 g3 g4 wl i') (fun _ W => Mod (fun _ => False) w0.drew W) a0 Q 5 o := by
    refine E5.step fun o hd ho hg hw => ?_
    intro y w listed hsz hls hun hwt hdown D' R hinv K hK
    rw [ha0] at hsz
    refine .inl ⟨wanted_none hg, ?_⟩
    have fx4 : y.eval (Operand.tmp 4) = .agg #[.bool f0, .bool f1, .bool f2, .bool f3, .bool f4] := E1.post (Post := (fun i' v => v = v10 b xs kd f0 f1 f2 f3 f4 g0 g1 g2 g3 g4 wl i')) (a := y) D' (hw 1 (by simp))
    have fx7 : y.eval (Operand.tmp 7) = .agg #[.bool g0, .bool g1, .bool g2, .bool g3, .bool g4] := E4.post (Post := (fun i' v => v = v10 b xs kd f0 f1 f2 f3 f4 g0 g1 g2 g3 g4 wl i')) (a := y) D' (hw 4 (by simp))
    exact wp_value (ox_eqlF ho fx4 fx7 hq) (hK _ _ rfl hinv)
  have s6 : ∀ o, ops[6]? = some o → Step Try.prog ops (fun i' v => v = v10 b xs kd f0 f1 f2 f3 f4 g0 g1 g2 g3 g4 wl i') (fun _ W => Mod (fun _ => False) w0.drew W) a0 Q 6 o := by
    refine E6.step fun o hd ho hg hw => ?_
    intro y w listed hsz hls hun hwt hdown D' R hinv K hK
    rw [ha0] at hsz
    refine .inl ⟨wanted_none hg, ?_⟩
    have fx8 : y.eval (Operand.tmp 8) = .bool false := E5.post (Post := (fun i' v => v = v10 b xs kd f0 f1 f2 f3 f4 g0 g1 g2 g3 g4 wl i')) (a := y) D' (hw 5 (by simp))
    exact wp_value (ox_move ho fx8) (hK _ _ rfl hinv)
  have s7 : ∀ o, ops[7]? = some o → Step Try.prog ops (fun i' v => v = v10 b xs kd f0 f1 f2 f3 f4 g0 g1 g2 g3 g4 wl i') (fun _ W => Mod (fun _ => False) w0.drew W) a0 Q 7 o := by
    refine E7.step fun o hd ho hg hw => ?_
    intro y w listed hsz hls hun hwt hdown D' R hinv K hK
    rw [ha0] at hsz
    exact .inr ⟨wanted_no E6 hg (by rw [hsz]; decide) (E6.post (Post := (fun i' v => v = v10 b xs kd f0 f1 f2 f3 f4 g0 g1 g2 g3 g4 wl i')) (a := y) D' (hw 6 (by simp))), hK _ _ rfl hinv⟩
  have s8 : ∀ o, ops[8]? = some o → Step Try.prog ops (fun i' v => v = v10 b xs kd f0 f1 f2 f3 f4 g0 g1 g2 g3 g4 wl i') (fun _ W => Mod (fun _ => False) w0.drew W) a0 Q 8 o := by
    refine E8.step fun o hd ho hg hw => ?_
    intro y w listed hsz hls hun hwt hdown D' R hinv K hK
    rw [ha0] at hsz
    exact .inr ⟨wanted_no E6 hg (by rw [hsz]; decide) (E6.post (Post := (fun i' v => v = v10 b xs kd f0 f1 f2 f3 f4 g0 g1 g2 g3 g4 wl i')) (a := y) D' (hw 6 (by simp))), hK _ _ rfl hinv⟩
  have s9 : ∀ o, ops[9]? = some o → Step Try.prog ops (fun i' v => v = v10 b xs kd f0 f1 f2 f3 f4 g0 g1 g2 g3 g4 wl i') (fun _ W => Mod (fun _ => False) w0.drew W) a0 Q 9 o := by
    refine E9.step fun o hd ho hg hw => ?_
    intro y w listed hsz hls hun hwt hdown D' R hinv K hK
    rw [ha0] at hsz
    refine .inl ⟨wanted_none hg, ?_⟩
    have fx9 : y.eval (Operand.tmp 9) = .bool false := E6.post (Post := (fun i' v => v = v10 b xs kd f0 f1 f2 f3 f4 g0 g1 g2 g3 g4 wl i')) (a := y) D' (hw 6 (by simp))
    have fx11 : y.eval (Operand.tmp 11) = undef := E8.post (Post := (fun i' v => v = v10 b xs kd f0 f1 f2 f3 f4 g0 g1 g2 g3 g4 wl i')) (a := y) D' (hw 8 (by simp))
    exact wp_value (ox_pick ho fx9 rfl) (hK _ _ rfl hinv)
  refine region_free (Post := (fun i' v => v = v10 b xs kd f0 f1 f2 f3 f4 g0 g1 g2 g3 g4 wl i')) (Inv := (fun _ W => Mod (fun _ => False) w0.drew W)) hmx (low_of hlow) (fun i o ho => by rw [ha0]; exact dst_of (by rw [hds]; decide) i o ho) (inj_of hnd) (Mod.refl _ _) ?_ ?_
  · intro i o ho
    have hi : i < 10 := by
      rw [← hN]
      rcases Nat.lt_or_ge i ops.size with h | h
      · exact h
      · rw [Array.getElem?_eq_none h] at ho; cases ho
    clear hend
    by_cases e0 : i = 0
    · subst e0; exact s0 o ho
    by_cases e1 : i = 1
    · subst e1; exact s1 o ho
    by_cases e2 : i = 2
    · subst e2; exact s2 o ho
    by_cases e3 : i = 3
    · subst e3; exact s3 o ho
    by_cases e4 : i = 4
    · subst e4; exact s4 o ho
    by_cases e5 : i = 5
    · subst e5; exact s5 o ho
    by_cases e6 : i = 6
    · subst e6; exact s6 o ho
    by_cases e7 : i = 7
    · subst e7; exact s7 o ho
    by_cases e8 : i = 8
    · subst e8; exact s8 o ho
    by_cases e9 : i = 9
    · subst e9; exact s9 o ho
    omega
  · intro y w listed hsz hdf hls hall hinv hp' hr
    have e : y = puts a0 [(3, .agg xs), (4, .agg #[.bool f0, .bool f1, .bool f2, .bool f3, .bool f4]), (5, .pointer (some ⟨b, 0, none⟩)), (6, .int .i64 kd), (7, .agg #[.bool g0, .bool g1, .bool g2, .bool g3, .bool g4]), (8, .bool false), (9, .bool false), (10, undef), (11, undef), (12, .bool false)] := by
      refine eq_puts hsz hdf (nodup_of (D := [some 3, some 4, some 5, some 6, some 7, some 8, some 9, some 10, some 11, some 12]) rfl (by decide)) (by rw [ha0]; simp) ?_ ?_
      · intro q hq
        simp only [List.mem_cons, List.not_mem_nil, or_false] at hq
        rcases hq with rfl | rfl | rfl | rfl | rfl | rfl | rfl | rfl | rfl | rfl
        · obtain ⟨o, h1, h2, _⟩ := E0.ex; exact hp' 0 o _ h1 h2
        · obtain ⟨o, h1, h2, _⟩ := E1.ex; exact hp' 1 o _ h1 h2
        · obtain ⟨o, h1, h2, _⟩ := E2.ex; exact hp' 2 o _ h1 h2
        · obtain ⟨o, h1, h2, _⟩ := E3.ex; exact hp' 3 o _ h1 h2
        · obtain ⟨o, h1, h2, _⟩ := E4.ex; exact hp' 4 o _ h1 h2
        · obtain ⟨o, h1, h2, _⟩ := E5.ex; exact hp' 5 o _ h1 h2
        · obtain ⟨o, h1, h2, _⟩ := E6.ex; exact hp' 6 o _ h1 h2
        · obtain ⟨o, h1, h2, _⟩ := E7.ex; exact hp' 7 o _ h1 h2
        · obtain ⟨o, h1, h2, _⟩ := E8.ex; exact hp' 8 o _ h1 h2
        · obtain ⟨o, h1, h2, _⟩ := E9.ex; exact hp' 9 o _ h1 h2
      · intro t ht
        refine hr t (not_of ?_)
        rw [hds]
        simp only [List.mem_cons, List.not_mem_nil, or_false, forall_eq_or_imp, forall_eq] at ht
        simp only [List.contains_cons, List.contains_nil, Bool.or_eq_false_iff, beq_eq_false_iff_ne, ne_eq, Option.some.injEq, Bool.or_false]
        simp only [eq_comm (a := t)]
        simp [ht]
    rw [e]
    exact hend w hinv
def v11 (b : Nat) (xs : Array Value) (kd : Int) (f0 f1 f2 f3 f4 g0 g1 g2 g3 g4 wl : Bool) : Nat → Value
  | 0 => .agg xs
  | 1 => .agg #[.bool f0, .bool f1, .bool f2, .bool f3, .bool f4]
  | 2 => .pointer (some ⟨b, 0, none⟩)
  | 3 => .int .i64 kd
  | 4 => .agg #[.bool g0, .bool g1, .bool g2, .bool g3, .bool g4]
  | 5 => .bool true
  | 6 => .bool true
  | 7 => .agg xs
  | 8 => .bool wl
  | 9 => .bool wl
  | _ => undef
set_option maxRecDepth 100000 in
set_option maxHeartbeats 4000000 in
theorem region11 {ops : Array Oper} {id : Nat} {a0 : Act} {w0 : World} {Q : Exit → Act → World → Prop} (b : Nat) (xs : Array Value) (kd : Int) (f0 f1 f2 f3 f4 g0 g1 g2 g3 g4 wl : Bool)
    (E0 : Is ops 0 (some 3) (Op.load 76 (Operand.tmp 1)) none [])
    (E1 : Is ops 1 (some 4) (Op.call { callee := Callee.value (Operand.func 74), args := #[Operand.tmp 3], argTypes := #[76] }) none [0])
    (E2 : Is ops 2 (some 5) (Op.fieldAddr 76 (Operand.tmp 1) 0) none [])
    (E3 : Is ops 3 (some 6) (Op.load 3 (Operand.tmp 5)) none [2])
    (E4 : Is ops 4 (some 7) (Op.call { callee := Callee.value (Operand.func 75), args := #[Operand.tmp 6], argTypes := #[3] }) none [1, 3])
    (E5 : Is ops 5 (some 8) (Op.binOp BinOp.eql 118 (Operand.tmp 4) (Operand.tmp 7) 118) none [1, 4])
    (E6 : Is ops 6 (some 9) (Op.move (Operand.tmp 8)) none [4, 5])
    (E7 : Is ops 7 (some 10) (Op.load 76 (Operand.tmp 1)) (some (6, true)) [6])
    (E8 : Is ops 8 (some 11) (Op.call { callee := Callee.value (Operand.func 76), args := #[Operand.tmp 10], argTypes := #[76] }) (some (6, true)) [6, 7])
    (E9 : Is ops 9 (some 12) (Op.pick (Operand.tmp 9) (Operand.tmp 11) (Operand.const (Value.bool false))) none [6, 8])
    (hN : ops.size = 10) (hlow : lowB ops = true) (hds : dsts ops = [some 3, some 4, some 5, some 6, some 7, some 8, some 9, some 10, some 11, some 12]) (hnd : injB ops = true)
    (hmx : Try.prog.follows .mixedOrders = true) (ha0 : a0.tmps.size = 13) (h1 : a0.tmps.getD 1 undef = .pointer (some ⟨b, 0, none⟩))
    (hB : Bk w0 b 76 xs) (hsx : xs.size = 40) (hk : xs[0]? = some (.int .i64 kd))
    (H1 : ∀ W, Calls Try.prog 74 #[.agg xs] W fun e w' => e = .returned (.agg #[.bool f0, .bool f1, .bool f2, .bool f3, .bool f4]) ∧ Mod (fun _ => False) W w')
    (H2 : ∀ W, Calls Try.prog 75 #[.int .i64 kd] W fun e w' => e = .returned (.agg #[.bool g0, .bool g1, .bool g2, .bool g3, .bool g4]) ∧ Mod (fun _ => False) W w')
    (hq : ((f0 == g0) && ((f1 == g1) && ((f2 == g2) && ((f3 == g3) && (f4 == g4))))) = true)
    (H3 : ∀ W, Mod (fun _ => False) w0.drew W → Calls Try.prog 76 #[.agg xs] W fun e w' => e = .returned (.bool wl) ∧ Mod (fun _ => False) W w')
    (hend : ∀ w, Mod (fun _ => False) w0.drew w → Q .normal (puts a0 [(3, .agg xs), (4, .agg #[.bool f0, .bool f1, .bool f2, .bool f3, .bool f4]), (5, .pointer (some ⟨b, 0, none⟩)), (6, .int .i64 kd), (7, .agg #[.bool g0, .bool g1, .bool g2, .bool g3, .bool g4]), (8, .bool true), (9, .bool true), (10, .agg xs), (11, .bool wl), (12, .bool wl)]) w) :
    (Code.region id ops true).wp Try.prog Q a0 w0 := by
  have DB' : ∀ {W : World}, Mod (fun _ => False) w0.drew W → Bk W b 76 xs := fun hW => (hB.mod (Mod.refl (fun _ => False) _).drew (fun h => h)).mod hW (fun h => h)
  have s0 : ∀ o, ops[0]? = some o → Step Try.prog ops (fun i' v => v = v11 b xs kd f0 f1 f2 f3 f4 g0 g1 g2 g3 g4 wl i') (fun _ W => Mod (fun _ => False) w0.drew W) a0 Q 0 o := by
    refine E0.step fun o hd ho hg hw => ?_
    intro y w listed hsz hls hun hwt hdown D' R hinv K hK
    rw [ha0] at hsz
    refine .inl ⟨wanted_none hg, ?_⟩
    have fx1 : y.eval (Operand.tmp 1) = .pointer (some ⟨b, 0, none⟩) := (R 1 (not_of (by rw [hds]; decide))).trans h1
    exact wp_value (ox_load ho fx1 (ldp (DB' hinv) hsx)) (hK _ _ rfl hinv)
  have s1 : ∀ o, ops[1]? = some o → Step Try.prog ops (fun i' v => v = v11 b xs kd f0 f1 f2 f3 f4 g0 g1 g2 g3 g4 wl i') (fun _ W => Mod (fun _ => False) w0.drew W) a0 Q 1 o := by
    refine E1.step fun o hd ho hg hw => ?_
    intro y w listed hsz hls hun hwt hdown D' R hinv K hK
    rw [ha0] at hsz
    refine .inl ⟨wanted_none hg, ?_⟩
    have fx3 : y.eval (Operand.tmp 3) = .agg xs := E0.post (Post := (fun i' v => v = v11 b xs kd f0 f1 f2 f3 f4 g0 g1 g2 g3 g4 wl i')) (a := y) D' (hw 0 (by simp))
    refine wp_enter (f := 74) (args := #[.agg xs]) ?_ (H1 w) ?_
    · rw [exec_call1 y.eval (fun args w => by simp [go_sem]) rfl ho, fx3]
    · rintro e w' ⟨rfl, hm⟩
      exact ⟨_, rfl, hK _ _ rfl (hinv.trans hm (fun _ _ h => h) (fun _ _ h => h))⟩
  have s2 : ∀ o, ops[2]? = some o → Step Try.prog ops (fun i' v => v = v11 b xs kd f0 f1 f2 f3 f4 g0 g1 g2 g3 g4 wl i') (fun _ W => Mod (fun _ => False) w0.drew W) a0 Q 2 o := by
    refine E2.step fun o hd ho hg hw => ?_
    intro y w listed hsz hls hun hwt hdown D' R hinv K hK
    rw [ha0] at hsz
    refine .inl ⟨wanted_none hg, ?_⟩
    have fx1 : y.eval (Operand.tmp 1) = .pointer (some ⟨b, 0, none⟩) := (R 1 (not_of (by rw [hds]; decide))).trans h1
    exact wp_value (ox_field ho fx1 (flp0 w)) (hK _ _ rfl hinv)
  have s3 : ∀ o, ops[3]? = some o → Step Try.prog ops (fun i' v => v = v11 b xs kd f0 f1 f2 f3 f4 g0 g1 g2 g3 g4 wl i') (fun _ W => Mod (fun _ => False) w0.drew W) a0 Q 3 o := by
    refine E3.step fun o hd ho hg hw => ?_
    intro y w listed hsz hls hun hwt hdown D' R hinv K hK
    rw [ha0] at hsz
    refine .inl ⟨wanted_none hg, ?_⟩
    have fx5 : y.eval (Operand.tmp 5) = .pointer (some ⟨b, 0, none⟩) := E2.post (Post := (fun i' v => v = v11 b xs kd f0 f1 f2 f3 f4 g0 g1 g2 g3 g4 wl i')) (a := y) D' (hw 2 (by simp))
    exact wp_value (ox_load ho fx5 (ld1 ((DB' hinv).cellv hk))) (hK _ _ rfl hinv)
  have s4 : ∀ o, ops[4]? = some o → Step Try.prog ops (fun i' v => v = v11 b xs kd f0 f1 f2 f3 f4 g0 g1 g2 g3 g4 wl i') (fun _ W => Mod (fun _ => False) w0.drew W) a0 Q 4 o := by
    refine E4.step fun o hd ho hg hw => ?_
    intro y w listed hsz hls hun hwt hdown D' R hinv K hK
    rw [ha0] at hsz
    refine .inl ⟨wanted_none hg, ?_⟩
    have fx6 : y.eval (Operand.tmp 6) = .int .i64 kd := E3.post (Post := (fun i' v => v = v11 b xs kd f0 f1 f2 f3 f4 g0 g1 g2 g3 g4 wl i')) (a := y) D' (hw 3 (by simp))
    refine wp_enter (f := 75) (args := #[.int .i64 kd]) ?_ (H2 w) ?_
    · rw [exec_call1 y.eval (fun args w => by simp [go_sem]) rfl ho, fx6]
    · rintro e w' ⟨rfl, hm⟩
      exact ⟨_, rfl, hK _ _ rfl (hinv.trans hm (fun _ _ h => h) (fun _ _ h => h))⟩
  have s5 : ∀ o, ops[5]? = some o → Step Try.prog ops (fun i' v => v = v11 b xs kd f0 f1 f2 f3 f4 g0 g1 g2 g3 g4 wl i') (fun _ W => Mod (fun _ => False) w0.drew W) a0 Q 5 o := by
    refine E5.step fun o hd ho hg hw => ?_
    intro y w listed hsz hls hun hwt hdown D' R hinv K hK
    rw [ha0] at hsz
    refine .inl ⟨wanted_none hg, ?_⟩
    have fx4 : y.eval (Operand.tmp 4) = .agg #[.bool f0, .bool f1, .bool f2, .bool f3, .bool f4] := E1.post (Post := (fun i' v => v = v11 b xs kd f0 f1 f2 f3 f4 g0 g1 g2 g3 g4 wl i')) (a := y) D' (hw 1 (by simp))
    have fx7 : y.eval (Operand.tmp 7) = .agg #[.bool g0, .bool g1, .bool g2, .bool g3, .bool g4] := E4.post (Post := (fun i' v => v = v11 b xs kd f0 f1 f2 f3 f4 g0 g1 g2 g3 g4 wl i')) (a := y) D' (hw 4 (by simp))
    exact wp_value (ox_eqlF ho fx4 fx7 hq) (hK _ _ rfl hinv)
  have s6 : ∀ o, ops[6]? = some o → Step Try.prog ops (fun i' v => v = v11 b xs kd f0 f1 f2 f3 f4 g0 g1 g2 g3 g4 wl i') (fun _ W => Mod (fun _ => False) w0.drew W) a0 Q 6 o := by
    refine E6.step fun o hd ho hg hw => ?_
    intro y w listed hsz hls hun hwt hdown D' R hinv K hK
    rw [ha0] at hsz
    refine .inl ⟨wanted_none hg, ?_⟩
    have fx8 : y.eval (Operand.tmp 8) = .bool true := E5.post (Post := (fun i' v => v = v11 b xs kd f0 f1 f2 f3 f4 g0 g1 g2 g3 g4 wl i')) (a := y) D' (hw 5 (by simp))
    exact wp_value (ox_move ho fx8) (hK _ _ rfl hinv)
  have s7 : ∀ o, ops[7]? = some o → Step Try.prog ops (fun i' v => v = v11 b xs kd f0 f1 f2 f3 f4 g0 g1 g2 g3 g4 wl i') (fun _ W => Mod (fun _ => False) w0.drew W) a0 Q 7 o := by
    refine E7.step fun o hd ho hg hw => ?_
    intro y w listed hsz hls hun hwt hdown D' R hinv K hK
    rw [ha0] at hsz
    refine .inl ⟨wanted_yes E6 hg (by rw [hsz]; decide) (E6.post (Post := (fun i' v => v = v11 b xs kd f0 f1 f2 f3 f4 g0 g1 g2 g3 g4 wl i')) (a := y) D' (hw 6 (by simp))), ?_⟩
    have fx1 : y.eval (Operand.tmp 1) = .pointer (some ⟨b, 0, none⟩) := (R 1 (not_of (by rw [hds]; decide))).trans h1
    exact wp_value (ox_load ho fx1 (ldp (DB' hinv) hsx)) (hK _ _ rfl hinv)
  have s8 : ∀ o, ops[8]? = some o → Step Try.prog ops (fun i' v => v = v11 b xs kd f0 f1 f2 f3 f4 g0 g1 g2 g3 g4 wl i') (fun _ W => Mod (fun _ => False) w0.drew W) a0 Q 8 o := by
    refine E8.step fun o hd ho hg hw => ?_
    intro y w listed hsz hls hun hwt hdown D' R hinv K hK
    rw [ha0] at hsz
    refine .inl ⟨wanted_yes E6 hg (by rw [hsz]; decide) (E6.post (Post := (fun i' v => v = v11 b xs kd f0 f1 f2 f3 f4 g0 g1 g2 g3 g4 wl i')) (a := y) D' (hw 6 (by simp))), ?_⟩
    have fx10 : y.eval (Operand.tmp 10) = .agg xs := E7.post (Post := (fun i' v => v = v11 b xs kd f0 f1 f2 f3 f4 g0 g1 g2 g3 g4 wl i')) (a := y) D' (hw 7 (by simp))
    refine wp_enter (f := 76) (args := #[.agg xs]) ?_ (H3 w hinv) ?_
    · rw [exec_call1 y.eval (fun args w => by simp [go_sem]) rfl ho, fx10]
    · rintro e w' ⟨rfl, hm⟩
      exact ⟨_, rfl, hK _ _ rfl (hinv.trans hm (fun _ _ h => h) (fun _ _ h => h))⟩
  have s9 : ∀ o, ops[9]? = some o → Step Try.prog ops (fun i' v => v = v11 b xs kd f0 f1 f2 f3 f4 g0 g1 g2 g3 g4 wl i') (fun _ W => Mod (fun _ => False) w0.drew W) a0 Q 9 o := by
    refine E9.step fun o hd ho hg hw => ?_
    intro y w listed hsz hls hun hwt hdown D' R hinv K hK
    rw [ha0] at hsz
    refine .inl ⟨wanted_none hg, ?_⟩
    have fx9 : y.eval (Operand.tmp 9) = .bool true := E6.post (Post := (fun i' v => v = v11 b xs kd f0 f1 f2 f3 f4 g0 g1 g2 g3 g4 wl i')) (a := y) D' (hw 6 (by simp))
    have fx11 : y.eval (Operand.tmp 11) = .bool wl := E8.post (Post := (fun i' v => v = v11 b xs kd f0 f1 f2 f3 f4 g0 g1 g2 g3 g4 wl i')) (a := y) D' (hw 8 (by simp))
    exact wp_value (ox_pick ho fx9 fx11) (hK _ _ rfl hinv)
  refine region_free (Post := (fun i' v => v = v11 b xs kd f0 f1 f2 f3 f4 g0 g1 g2 g3 g4 wl i')) (Inv := (fun _ W => Mod (fun _ => False) w0.drew W)) hmx (low_of hlow) (fun i o ho => by rw [ha0]; exact dst_of (by rw [hds]; decide) i o ho) (inj_of hnd) (Mod.refl _ _) ?_ ?_
  · intro i o ho
    have hi : i < 10 := by
      rw [← hN]
      rcases Nat.lt_or_ge i ops.size with h | h
      · exact h
      · rw [Array.getElem?_eq_none h] at ho; cases ho
    clear hend
    by_cases e0 : i = 0
    · subst e0; exact s0 o ho
    by_cases e1 : i = 1
    · subst e1; exact s1 o ho
    by_cases e2 : i = 2
    · subst e2; exact s2 o ho
    by_cases e3 : i = 3
    · subst e3; exact s3 o ho
    by_cases e4 : i = 4
    · subst e4; exact s4 o ho
    by_cases e5 : i = 5
    · subst e5; exact s5 o ho
    by_cases e6 : i = 6
    · subst e6; exact s6 o ho
    by_cases e7 : i = 7
    · subst e7; exact s7 o ho
    by_cases e8 : i = 8
    · subst e8; exact s8 o ho
    by_cases e9 : i = 9
    · subst e9; exact s9 o ho
    omega
  · intro y w listed hsz hdf hls hall hinv hp' hr
    have e : y = puts a0 [(3, .agg xs), (4, .agg #[.bool f0, .bool f1, .bool f2, .bool f3, .bool f4]), (5, .pointer (some ⟨b, 0, none⟩)), (6, .int .i64 kd), (7, .agg #[.bool g0, .bool g1, .bool g2, .bool g3, .bool g4]), (8, .bool true), (9, .bool true), (10, .agg xs), (11, .bool wl), (12, .bool wl)] := by
      refine eq_puts hsz hdf (nodup_of (D := [some 3, some 4, some 5, some 6, some 7, some 8, some 9, some 10, some 11, some 12]) rfl (by decide)) (by rw [ha0]; simp) ?_ ?_
      · intro q hq
        simp only [List.mem_cons, List.not_mem_nil, or_false] at hq
        rcases hq with rfl | rfl | rfl | rfl | rfl | rfl | rfl | rfl | rfl | rfl
        · obtain ⟨o, h1, h2, _⟩ := E0.ex; exact hp' 0 o _ h1 h2
        · obtain ⟨o, h1, h2, _⟩ := E1.ex; exact hp' 1 o _ h1 h2
        · obtain ⟨o, h1, h2, _⟩ := E2.ex; exact hp' 2 o _ h1 h2
        · obtain ⟨o, h1, h2, _⟩ := E3.ex; exact hp' 3 o _ h1 h2
        · obtain ⟨o, h1, h2, _⟩ := E4.ex; exact hp' 4 o _ h1 h2
        · obtain ⟨o, h1, h2, _⟩ := E5.ex; exact hp' 5 o _ h1 h2
        · obtain ⟨o, h1, h2, _⟩ := E6.ex; exact hp' 6 o _ h1 h2
        · obtain ⟨o, h1, h2, _⟩ := E7.ex; exact hp' 7 o _ h1 h2
        · obtain ⟨o, h1, h2, _⟩ := E8.ex; exact hp' 8 o _ h1 h2
        · obtain ⟨o, h1, h2, _⟩ := E9.ex; exact hp' 9 o _ h1 h2
      · intro t ht
        refine hr t (not_of ?_)
        rw [hds]
        simp only [List.mem_cons, List.not_mem_nil, or_false, forall_eq_or_imp, forall_eq] at ht
        simp only [List.contains_cons, List.contains_nil, Bool.or_eq_false_iff, beq_eq_false_iff_ne, ne_eq, Option.some.injEq, Bool.or_false]
        simp only [eq_comm (a := t)]
        simp [ht]
    rw [e]
    exact hend w hinv
set_option maxRecDepth 100000 in
set_option maxHeartbeats 8000000 in
theorem pCheck_any (kd to dq dr ds dn dt k o lf i p ps g : Int) (s : Bool) (st rs rr sq : Int) (ao : Option Addr) (cap : Nat) (l : List Int) (tq tr th tsq ta tl tst ti : Int) (tao : Option Addr) (tcap : Nat) (tk : List Int) (js jp jc cq cr_ cm ch_ : Int) (cao : Option Addr) (ccap : Nat) (ce : List Ey) (bq br_ bs : Int) (xs : Array Value) (hxs : xs = px kd to dq dr ds dn dt k o lf i p ps g s st rs rr sq ao cap l tq tr th tsq ta tl tst ti tao tcap tk js jp jc cq cr_ cm ch_ cao ccap ce bq br_ bs) (w : World) (hs : Sl w (.slice ao l.length cap) l) (ht : Cr.Sl w (.slice tao tk.length tcap) tk) (hti : ∀ x ∈ tk, -9223372036854775808 ≤ x ∧ x ≤ 9223372036854775807)
    (he : SlE w (.slice cao ce.length ccap) ce) (hjp : -9223372036854775808 ≤ jp ∧ jp ≤ 9223372036854775807) (hcm : -9223372036854775808 ≤ cm ∧ cm ≤ 9223372036854775807) (hch : ch_ ≤ 9223372036854775807) :
    Calls Try.prog 42 #[.agg xs] w fun e w' => e = .returned (.int .i64 (pchk ⟨kd, to, ⟨dq, dr, ds, dn, dt, ⟨k, o, lf, i, p, ps, g, s, st, rs, rr, sq, l⟩⟩, ⟨tq, tr, th, tsq, ta, tl, tst, ti, tk⟩, ⟨js, jp, jc⟩, ⟨cq, cr_, cm, ch_, ce⟩, ⟨bq, br_, bs⟩⟩)) ∧ Mod (fun _ => False) w w' := by
  have hM := ((Mod.refl (fun _ => False) w).alloc (.cells xs 76)).drew
  have hBk := Bk.new w xs 76
  have hsx : xs.size = 40 := by rw [hxs]; rfl
  have hk0 : xs[0]? = some (.int .i64 kd) := by rw [hxs]; rfl
  have H1 := found_any kd to dq dr ds dn dt k o lf i p ps g s st rs rr sq ao cap l tq tr th tsq ta tl tst ti tao tcap tk js jp jc cq cr_ cm ch_ cao ccap ce bq br_ bs xs hxs
  have H2 := fieldsOf_any kd
  have H3 := fun W (hW : Mod (fun _ => False) w W) => isWell_any kd to dq dr ds dn dt k o lf i p ps g s st rs rr sq ao cap l tq tr th tsq ta tl tst ti tao tcap tk js jp jc cq cr_ cm ch_ cao ccap ce bq br_ bs xs hxs W (hs.mod hW (fun _ _ h => h)) (Cr.Sl.mod ht hW (fun _ _ h => h)) hti (he.mod hW (fun _ _ _ h => h)) hjp hcm hch
  have hp : pchk ⟨kd, to, ⟨dq, dr, ds, dn, dt, ⟨k, o, lf, i, p, ps, g, s, st, rs, rr, sq, l⟩⟩, ⟨tq, tr, th, tsq, ta, tl, tst, ti, tk⟩, ⟨js, jp, jc⟩, ⟨cq, cr_, cm, ch_, ce⟩, ⟨bq, br_, bs⟩⟩ = if (((hasD ⟨dq, dr, ds, dn, dt, ⟨k, o, lf, i, p, ps, g, s, st, rs, rr, sq, l⟩⟩ == (kd == 1)) && ((hasT ⟨tq, tr, th, tsq, ta, tl, tst, ti, tk⟩ == (kd == 2)) && ((hasJ ⟨js, jp, jc⟩ == (kd == 3)) && ((hasC ⟨cq, cr_, cm, ch_, ce⟩ == (kd == 4)) && (hasB ⟨bq, br_, bs⟩ == (kd == 5)))))) && well ⟨kd, to, ⟨dq, dr, ds, dn, dt, ⟨k, o, lf, i, p, ps, g, s, st, rs, rr, sq, l⟩⟩, ⟨tq, tr, th, tsq, ta, tl, tst, ti, tk⟩, ⟨js, jp, jc⟩, ⟨cq, cr_, cm, ch_, ce⟩, ⟨bq, br_, bs⟩⟩) = true then 0 else 2 := by
    have hl : (fnd ⟨kd, to, ⟨dq, dr, ds, dn, dt, ⟨k, o, lf, i, p, ps, g, s, st, rs, rr, sq, l⟩⟩, ⟨tq, tr, th, tsq, ta, tl, tst, ti, tk⟩, ⟨js, jp, jc⟩, ⟨cq, cr_, cm, ch_, ce⟩, ⟨bq, br_, bs⟩⟩ == fof kd) = ((hasD ⟨dq, dr, ds, dn, dt, ⟨k, o, lf, i, p, ps, g, s, st, rs, rr, sq, l⟩⟩ == (kd == 1)) && ((hasT ⟨tq, tr, th, tsq, ta, tl, tst, ti, tk⟩ == (kd == 2)) && ((hasJ ⟨js, jp, jc⟩ == (kd == 3)) && ((hasC ⟨cq, cr_, cm, ch_, ce⟩ == (kd == 4)) && (hasB ⟨bq, br_, bs⟩ == (kd == 5)))))) := by
      show ([_, _, _, _, _] == [_, _, _, _, _]) = _
      rw [Bool.eq_iff_iff]
      simp
    show (if (fnd ⟨kd, to, ⟨dq, dr, ds, dn, dt, ⟨k, o, lf, i, p, ps, g, s, st, rs, rr, sq, l⟩⟩, ⟨tq, tr, th, tsq, ta, tl, tst, ti, tk⟩, ⟨js, jp, jc⟩, ⟨cq, cr_, cm, ch_, ce⟩, ⟨bq, br_, bs⟩⟩ == fof kd && well ⟨kd, to, ⟨dq, dr, ds, dn, dt, ⟨k, o, lf, i, p, ps, g, s, st, rs, rr, sq, l⟩⟩, ⟨tq, tr, th, tsq, ta, tl, tst, ti, tk⟩, ⟨js, jp, jc⟩, ⟨cq, cr_, cm, ch_, ce⟩, ⟨bq, br_, bs⟩⟩) = true then (0 : Int) else 2) = _
    rw [hl]
  rw [hp]
  clear hp
  generalize well ⟨kd, to, ⟨dq, dr, ds, dn, dt, ⟨k, o, lf, i, p, ps, g, s, st, rs, rr, sq, l⟩⟩, ⟨tq, tr, th, tsq, ta, tl, tst, ti, tk⟩, ⟨js, jp, jc⟩, ⟨cq, cr_, cm, ch_, ce⟩, ⟨bq, br_, bs⟩⟩ = wl at H3 ⊢
  generalize hasD ⟨dq, dr, ds, dn, dt, ⟨k, o, lf, i, p, ps, g, s, st, rs, rr, sq, l⟩⟩ = f0 at H1 ⊢
  generalize hasT ⟨tq, tr, th, tsq, ta, tl, tst, ti, tk⟩ = f1 at H1 ⊢
  generalize hasJ ⟨js, jp, jc⟩ = f2 at H1 ⊢
  generalize hasC ⟨cq, cr_, cm, ch_, ce⟩ = f3 at H1 ⊢
  generalize hasB ⟨bq, br_, bs⟩ = f4 at H1 ⊢
  generalize (kd == 1) = g0 at H2 ⊢
  generalize (kd == 2) = g1 at H2 ⊢
  generalize (kd == 3) = g2 at H2 ⊢
  generalize (kd == 4) = g3 at H2 ⊢
  generalize (kd == 5) = g4 at H2 ⊢
  clear hxs
  cases hq : ((f0 == g0) && ((f1 == g1) && ((f2 == g2) && ((f3 == g3) && (f4 == g4)))))
  · go_enter Try.func42, Try.ntmps42
    go_upto_region 1 with fail
    refine region10 w.heap.size xs kd f0 f1 f2 f3 f4 g0 g1 g2 g3 g4 wl ⟨⟨_, rfl, rfl, rfl, rfl, by decide +kernel⟩⟩ ⟨⟨_, rfl, rfl, rfl, rfl, by decide +kernel⟩⟩ ⟨⟨_, rfl, rfl, rfl, rfl, by decide +kernel⟩⟩ ⟨⟨_, rfl, rfl, rfl, rfl, by decide +kernel⟩⟩ ⟨⟨_, rfl, rfl, rfl, rfl, by decide +kernel⟩⟩ ⟨⟨_, rfl, rfl, rfl, rfl, by decide +kernel⟩⟩ ⟨⟨_, rfl, rfl, rfl, rfl, by decide +kernel⟩⟩ ⟨⟨_, rfl, rfl, rfl, rfl, by decide +kernel⟩⟩ ⟨⟨_, rfl, rfl, rfl, rfl, by decide +kernel⟩⟩ ⟨⟨_, rfl, rfl, rfl, rfl, by decide +kernel⟩⟩ rfl (by decide +kernel) rfl (by decide +kernel) mixed rfl rfl hBk hsx hk0 H1 H2 hq ?_
    intro w1 hm1
    simp only [puts, Act.put, List.setIfInBounds_toArray, List.set_cons_succ, List.set_cons_zero]
    go_wp2
    go_ret
    exact ⟨rfl, hM.trans hm1 (V := fun _ => False) (fun _ _ h => h) (fun _ _ h => h)⟩
  · go_enter Try.func42, Try.ntmps42
    go_upto_region 1 with fail
    refine region11 w.heap.size xs kd f0 f1 f2 f3 f4 g0 g1 g2 g3 g4 wl ⟨⟨_, rfl, rfl, rfl, rfl, by decide +kernel⟩⟩ ⟨⟨_, rfl, rfl, rfl, rfl, by decide +kernel⟩⟩ ⟨⟨_, rfl, rfl, rfl, rfl, by decide +kernel⟩⟩ ⟨⟨_, rfl, rfl, rfl, rfl, by decide +kernel⟩⟩ ⟨⟨_, rfl, rfl, rfl, rfl, by decide +kernel⟩⟩ ⟨⟨_, rfl, rfl, rfl, rfl, by decide +kernel⟩⟩ ⟨⟨_, rfl, rfl, rfl, rfl, by decide +kernel⟩⟩ ⟨⟨_, rfl, rfl, rfl, rfl, by decide +kernel⟩⟩ ⟨⟨_, rfl, rfl, rfl, rfl, by decide +kernel⟩⟩ ⟨⟨_, rfl, rfl, rfl, rfl, by decide +kernel⟩⟩ rfl (by decide +kernel) rfl (by decide +kernel) mixed rfl rfl hBk hsx hk0 H1 H2 hq (fun W hW => H3 W (hM.trans hW (V := fun _ => False) (fun _ _ h => h) (fun _ _ h => h))) ?_
    intro w1 hm1
    simp only [puts, Act.put, List.setIfInBounds_toArray, List.set_cons_succ, List.set_cons_zero]
    cases wl
    all_goals
      go_wp2
      go_ret
      exact ⟨rfl, hM.trans hm1 (V := fun _ => False) (fun _ _ h => h) (fun _ _ h => h)⟩
end Go.Proofs.Ytajhpnfpjickbaa
