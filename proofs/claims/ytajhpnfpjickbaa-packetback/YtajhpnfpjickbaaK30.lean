/- The statement of packet's isWell that draws its order, in its two cases. Conditions: what is said of the slots that it reads, and of the cells. -/
import Derived.Test.YtajhpnfpjickbaaK25
namespace Go.Proofs.Ytajhpnfpjickbaa
open Go.RowKit
theorem flp1 {b : Nat} (w : World) : (Instr.fieldAt 76 (.pointer (some ⟨b, 0, none⟩)) 1).run Try.prog w = .ok (.pointer (some ⟨b, 1, none⟩)) w := by
  simp [go_sem]
theorem flp5 {b : Nat} (w : World) : (Instr.fieldAt 76 (.pointer (some ⟨b, 0, none⟩)) 5).run Try.prog w = .ok (.pointer (some ⟨b, 32, none⟩)) w := by
  simp [go_sem]
theorem ldc {b o : Nat} {p0 p1 p2 p3 : Int} {ao : Option Addr} {n c : Nat} {w : World} (h0 : w.cell? ⟨b, o, none⟩ = some (.int .i64 p0)) (h1 : w.cell? ⟨b, o + 1, none⟩ = some (.int .i64 p1)) (h2 : w.cell? ⟨b, o + 2, none⟩ = some (.int .i64 p2)) (h3 : w.cell? ⟨b, o + 3, none⟩ = some (.int .i64 p3)) (h4 : w.cell? ⟨b, o + 4, none⟩ = some (.slice ao n c)) :
    (Instr.loadAt 72 (.pointer (some ⟨b, o, none⟩))).run Try.prog w = .ok (.agg #[.int .i64 p0, .int .i64 p1, .int .i64 p2, .int .i64 p3, .slice ao n c]) w := by
  simp [go_sem, h0, h1, h2, h3, h4]
def v90 (g EL ccap : Nat) (cao : Option Addr) (_to rs rr mm hp _rc : Int) (_eq : Bool) : Nat → Value
  | 0 => .pointer (some ⟨g, 32, none⟩)
  | 1 => .agg #[.int .i64 rs, .int .i64 rr, .int .i64 mm, .int .i64 hp, .slice cao EL ccap]
  | 2 => .bool false
  | 3 => .bool false
  | 10 => .bool false
  | 11 => .bool false
  | _ => undef
set_option maxRecDepth 100000 in
set_option maxHeartbeats 4000000 in
theorem region90 {ops : Array Oper} {id : Nat} {a0 : Act} {w0 : World} {Q : Exit → Act → World → Prop} (g EL ccap : Nat) (cao : Option Addr) (to rs rr mm hp rc : Int) (eq : Bool)
    (E0 : Is ops 0 (some 37) (Op.fieldAddr 76 (Operand.tmp 1) 5) none [])
    (E1 : Is ops 1 (some 38) (Op.load 72 (Operand.tmp 37)) none [0])
    (E2 : Is ops 2 (some 39) (Op.call { callee := Callee.value (Operand.func 115), args := #[Operand.tmp 38], argTypes := #[72] }) none [1])
    (E3 : Is ops 3 (some 40) (Op.move (Operand.tmp 39)) none [2])
    (E4 : Is ops 4 (some 41) (Op.fieldAddr 76 (Operand.tmp 1) 1) (some (3, true)) [3])
    (E5 : Is ops 5 (some 42) (Op.load 3 (Operand.tmp 41)) (some (3, true)) [3, 4])
    (E6 : Is ops 6 (some 43) (Op.fieldAddr 76 (Operand.tmp 1) 5) (some (3, true)) [3])
    (E7 : Is ops 7 (some 44) (Op.load 72 (Operand.tmp 43)) (some (3, true)) [3, 6])
    (E8 : Is ops 8 (some 45) (Op.call { callee := Callee.value (Operand.func 116), args := #[Operand.tmp 44], argTypes := #[72] }) (some (3, true)) [3, 7])
    (E9 : Is ops 9 (some 46) (Op.binOp BinOp.eql 3 (Operand.tmp 42) (Operand.tmp 45) 3) (some (3, true)) [3, 5, 8])
    (E10 : Is ops 10 (some 47) (Op.pick (Operand.tmp 40) (Operand.tmp 46) (Operand.const (Value.bool false))) none [3, 9])
    (E11 : Is ops 11 (some 2) (Op.assign (Operand.tmp 47)) none [0, 1, 2, 3, 4, 5, 6, 7, 8, 9, 10])
    (hN : ops.size = 12) (hlow : lowB ops = true) (hds : dsts ops = [some 37, some 38, some 39, some 40, some 41, some 42, some 43, some 44, some 45, some 46, some 47, some 2]) (hnd : injB ops = true)
    (hmx : Try.prog.follows .mixedOrders = true) (ha0 : a0.tmps.size = 65) (h1 : a0.tmps.getD 1 undef = .pointer (some ⟨g, 0, none⟩))
    (_d1 : w0.cell? ⟨g, 1, none⟩ = some (.int .i64 to)) (c0 : w0.cell? ⟨g, 32, none⟩ = some (.int .i64 rs)) (c1 : w0.cell? ⟨g, 33, none⟩ = some (.int .i64 rr)) (c2 : w0.cell? ⟨g, 34, none⟩ = some (.int .i64 mm)) (c3 : w0.cell? ⟨g, 35, none⟩ = some (.int .i64 hp)) (c4 : w0.cell? ⟨g, 36, none⟩ = some (.slice cao EL ccap))
    (H1 : ∀ W, Mod (fun _ => False) w0.drew W → Calls Try.prog 115 #[.agg #[.int .i64 rs, .int .i64 rr, .int .i64 mm, .int .i64 hp, .slice cao EL ccap]] W fun e w' => e = .returned (.bool false) ∧ Mod (fun _ => False) W w')
    (hend : ∀ w, Mod (fun _ => False) w0.drew w → Q .normal (puts a0 [(37, .pointer (some ⟨g, 32, none⟩)), (38, .agg #[.int .i64 rs, .int .i64 rr, .int .i64 mm, .int .i64 hp, .slice cao EL ccap]), (39, .bool false), (40, .bool false), (41, undef), (42, undef), (43, undef), (44, undef), (45, undef), (46, undef), (47, .bool false), (2, .bool false)]) w) :
    (Code.region id ops true).wp Try.prog Q a0 w0 := by
  have D : ∀ {W : World} {a : Addr} {v : Value}, Mod (fun _ => False) w0.drew W → w0.cell? a = some v → W.cell? a = some v := fun hW hc => hW.cell (by simpa using hc) (fun h => h)
  have s0 : ∀ o, ops[0]? = some o → Step Try.prog ops (fun i' v => v = v90 g EL ccap cao to rs rr mm hp rc eq i') (fun _ W => Mod (fun _ => False) w0.drew W) a0 Q 0 o := by
    refine E0.step fun o hd ho hg hw => ?_
    intro y w listed hsz hls hun hwt hdown D' R hinv K hK
    rw [ha0] at hsz
    refine .inl ⟨wanted_none hg, ?_⟩
    have f1 : y.eval (Operand.tmp 1) = .pointer (some ⟨g, 0, none⟩) := (R 1 (not_of (by rw [hds]; decide))).trans h1
    exact wp_value (ox_field ho f1 (flp5 w)) (hK _ _ rfl hinv)
  have s1 : ∀ o, ops[1]? = some o → Step Try.prog ops (fun i' v => v = v90 g EL ccap cao to rs rr mm hp rc eq i') (fun _ W => Mod (fun _ => False) w0.drew W) a0 Q 1 o := by
    refine E1.step fun o hd ho hg hw => ?_
    intro y w listed hsz hls hun hwt hdown D' R hinv K hK
    rw [ha0] at hsz
    refine .inl ⟨wanted_none hg, ?_⟩
    have f37 : y.eval (Operand.tmp 37) = .pointer (some ⟨g, 32, none⟩) := E0.post (Post := (fun i' v => v = v90 g EL ccap cao to rs rr mm hp rc eq i')) (a := y) D' (hw 0 (by simp))
    exact wp_value (ox_load ho f37 (ldc (D hinv c0) (D hinv c1) (D hinv c2) (D hinv c3) (D hinv c4))) (hK _ _ rfl hinv)
  have s2 : ∀ o, ops[2]? = some o → Step Try.prog ops (fun i' v => v = v90 g EL ccap cao to rs rr mm hp rc eq i') (fun _ W => Mod (fun _ => False) w0.drew W) a0 Q 2 o := by
    refine E2.step fun o hd ho hg hw => ?_
    intro y w listed hsz hls hun hwt hdown D' R hinv K hK
    rw [ha0] at hsz
    refine .inl ⟨wanted_none hg, ?_⟩
    have f38 : y.eval (Operand.tmp 38) = .agg #[.int .i64 rs, .int .i64 rr, .int .i64 mm, .int .i64 hp, .slice cao EL ccap] := E1.post (Post := (fun i' v => v = v90 g EL ccap cao to rs rr mm hp rc eq i')) (a := y) D' (hw 1 (by simp))
    refine wp_enter (f := 115) (args := #[.agg #[.int .i64 rs, .int .i64 rr, .int .i64 mm, .int .i64 hp, .slice cao EL ccap]]) ?_ (H1 w hinv) ?_
    · rw [exec_call1 y.eval (fun args w => by simp [go_sem]) rfl ho, f38]
    · rintro e w' ⟨rfl, hm⟩
      exact ⟨_, rfl, hK _ _ rfl (hinv.trans hm (fun _ _ h => h) (fun _ _ h => h))⟩
  have s3 : ∀ o, ops[3]? = some o → Step Try.prog ops (fun i' v => v = v90 g EL ccap cao to rs rr mm hp rc eq i') (fun _ W => Mod (fun _ => False) w0.drew W) a0 Q 3 o := by
    refine E3.step fun o hd ho hg hw => ?_
    intro y w listed hsz hls hun hwt hdown D' R hinv K hK
    rw [ha0] at hsz
    refine .inl ⟨wanted_none hg, ?_⟩
    have f39 : y.eval (Operand.tmp 39) = .bool false := E2.post (Post := (fun i' v => v = v90 g EL ccap cao to rs rr mm hp rc eq i')) (a := y) D' (hw 2 (by simp))
    exact wp_value (ox_move ho f39) (hK _ _ rfl hinv)
  have s4 : ∀ o, ops[4]? = some o → Step Try.prog ops (fun i' v => v = v90 g EL ccap cao to rs rr mm hp rc eq i') (fun _ W => Mod (fun _ => False) w0.drew W) a0 Q 4 o := by
    refine E4.step fun o hd ho hg hw => ?_
    intro y w listed hsz hls hun hwt hdown D' R hinv K hK
    rw [ha0] at hsz
    exact .inr ⟨wanted_no E3 hg (by rw [hsz]; decide) (E3.post (Post := (fun i' v => v = v90 g EL ccap cao to rs rr mm hp rc eq i')) (a := y) D' (hw 3 (by simp))), hK _ _ rfl hinv⟩
  have s5 : ∀ o, ops[5]? = some o → Step Try.prog ops (fun i' v => v = v90 g EL ccap cao to rs rr mm hp rc eq i') (fun _ W => Mod (fun _ => False) w0.drew W) a0 Q 5 o := by
    refine E5.step fun o hd ho hg hw => ?_
    intro y w listed hsz hls hun hwt hdown D' R hinv K hK
    rw [ha0] at hsz
    exact .inr ⟨wanted_no E3 hg (by rw [hsz]; decide) (E3.post (Post := (fun i' v => v = v90 g EL ccap cao to rs rr mm hp rc eq i')) (a := y) D' (hw 3 (by simp))), hK _ _ rfl hinv⟩
  have s6 : ∀ o, ops[6]? = some o → Step Try.prog ops (fun i' v => v = v90 g EL ccap cao to rs rr mm hp rc eq i') (fun _ W => Mod (fun _ => False) w0.drew W) a0 Q 6 o := by
    refine E6.step fun o hd ho hg hw => ?_
    intro y w listed hsz hls hun hwt hdown D' R hinv K hK
    rw [ha0] at hsz
    exact .inr ⟨wanted_no E3 hg (by rw [hsz]; decide) (E3.post (Post := (fun i' v => v = v90 g EL ccap cao to rs rr mm hp rc eq i')) (a := y) D' (hw 3 (by simp))), hK _ _ rfl hinv⟩
  have s7 : ∀ o, ops[7]? = some o → Step Try.prog ops (fun i' v => v = v90 g EL ccap cao to rs rr mm hp rc eq i') (fun _ W => Mod (fun _ => False) w0.drew W) a0 Q 7 o := by
    refine E7.step fun o hd ho hg hw => ?_
    intro y w listed hsz hls hun hwt hdown D' R hinv K hK
    rw [ha0] at hsz
    exact .inr ⟨wanted_no E3 hg (by rw [hsz]; decide) (E3.post (Post := (fun i' v => v = v90 g EL ccap cao to rs rr mm hp rc eq i')) (a := y) D' (hw 3 (by simp))), hK _ _ rfl hinv⟩
  have s8 : ∀ o, ops[8]? = some o → Step Try.prog ops (fun i' v => v = v90 g EL ccap cao to rs rr mm hp rc eq i') (fun _ W => Mod (fun _ => False) w0.drew W) a0 Q 8 o := by
    refine E8.step fun o hd ho hg hw => ?_
    intro y w listed hsz hls hun hwt hdown D' R hinv K hK
    rw [ha0] at hsz
    exact .inr ⟨wanted_no E3 hg (by rw [hsz]; decide) (E3.post (Post := (fun i' v => v = v90 g EL ccap cao to rs rr mm hp rc eq i')) (a := y) D' (hw 3 (by simp))), hK _ _ rfl hinv⟩
  have s9 : ∀ o, ops[9]? = some o → Step Try.prog ops (fun i' v => v = v90 g EL ccap cao to rs rr mm hp rc eq i') (fun _ W => Mod (fun _ => False) w0.drew W) a0 Q 9 o := by
    refine E9.step fun o hd ho hg hw => ?_
    intro y w listed hsz hls hun hwt hdown D' R hinv K hK
    rw [ha0] at hsz
    exact .inr ⟨wanted_no E3 hg (by rw [hsz]; decide) (E3.post (Post := (fun i' v => v = v90 g EL ccap cao to rs rr mm hp rc eq i')) (a := y) D' (hw 3 (by simp))), hK _ _ rfl hinv⟩
  have s10 : ∀ o, ops[10]? = some o → Step Try.prog ops (fun i' v => v = v90 g EL ccap cao to rs rr mm hp rc eq i') (fun _ W => Mod (fun _ => False) w0.drew W) a0 Q 10 o := by
    refine E10.step fun o hd ho hg hw => ?_
    intro y w listed hsz hls hun hwt hdown D' R hinv K hK
    rw [ha0] at hsz
    refine .inl ⟨wanted_none hg, ?_⟩
    have f40 : y.eval (Operand.tmp 40) = .bool false := E3.post (Post := (fun i' v => v = v90 g EL ccap cao to rs rr mm hp rc eq i')) (a := y) D' (hw 3 (by simp))
    have f46 : y.eval (Operand.tmp 46) = undef := E9.post (Post := (fun i' v => v = v90 g EL ccap cao to rs rr mm hp rc eq i')) (a := y) D' (hw 9 (by simp))
    exact wp_value (ox_pick ho f40 rfl) (hK _ _ rfl hinv)
  have s11 : ∀ o, ops[11]? = some o → Step Try.prog ops (fun i' v => v = v90 g EL ccap cao to rs rr mm hp rc eq i') (fun _ W => Mod (fun _ => False) w0.drew W) a0 Q 11 o := by
    refine E11.step fun o hd ho hg hw => ?_
    intro y w listed hsz hls hun hwt hdown D' R hinv K hK
    rw [ha0] at hsz
    refine .inl ⟨wanted_none hg, ?_⟩
    have f47 : y.eval (Operand.tmp 47) = .bool false := E10.post (Post := (fun i' v => v = v90 g EL ccap cao to rs rr mm hp rc eq i')) (a := y) D' (hw 10 (by simp))
    exact wp_value (ox_assign ho f47) (hK _ _ rfl hinv)
  refine region_free (Post := (fun i' v => v = v90 g EL ccap cao to rs rr mm hp rc eq i')) (Inv := (fun _ W => Mod (fun _ => False) w0.drew W)) hmx (low_of hlow) (fun i o ho => by rw [ha0]; exact dst_of (by rw [hds]; decide) i o ho) (inj_of hnd) (Mod.refl _ _) ?_ ?_
  · intro i o ho
    have hi : i < 12 := by
      rw [← hN]
      rcases Nat.lt_or_ge i ops.size with h | h
      · exact h
      · rw [Array.getElem?_eq_none h] at ho; cases ho
    clear hend
    by_cases e0 : i = 0
    · subst e0; exact s0 o ho
    by_cases e1 : i = 1
    · subst e1; exact s1 o ho
    by_cases e2 : i = 2
    · subst e2; exact s2 o ho
    by_cases e3 : i = 3
    · subst e3; exact s3 o ho
    by_cases e4 : i = 4
    · subst e4; exact s4 o ho
    by_cases e5 : i = 5
    · subst e5; exact s5 o ho
    by_cases e6 : i = 6
    · subst e6; exact s6 o ho
    by_cases e7 : i = 7
    · subst e7; exact s7 o ho
    by_cases e8 : i = 8
    · subst e8; exact s8 o ho
    by_cases e9 : i = 9
    · subst e9; exact s9 o ho
    by_cases e10 : i = 10
    · subst e10; exact s10 o ho
    by_cases e11 : i = 11
    · subst e11; exact s11 o ho
    omega
  · intro y w listed hsz hdf hls hall hinv hp' hr
    have e : y = puts a0 [(37, .pointer (some ⟨g, 32, none⟩)), (38, .agg #[.int .i64 rs, .int .i64 rr, .int .i64 mm, .int .i64 hp, .slice cao EL ccap]), (39, .bool false), (40, .bool false), (41, undef), (42, undef), (43, undef), (44, undef), (45, undef), (46, undef), (47, .bool false), (2, .bool false)] := by
      refine eq_puts hsz hdf (nodup_of (D := [some 37, some 38, some 39, some 40, some 41, some 42, some 43, some 44, some 45, some 46, some 47, some 2]) rfl (by decide)) (by rw [ha0]; simp) ?_ ?_
      · intro q hq
        simp only [List.mem_cons, List.not_mem_nil, or_false] at hq
        rcases hq with rfl | rfl | rfl | rfl | rfl | rfl | rfl | rfl | rfl | rfl | rfl | rfl
        · obtain ⟨o, h1, h2, _⟩ := E0.ex; exact hp' 0 o _ h1 h2
        · obtain ⟨o, h1, h2, _⟩ := E1.ex; exact hp' 1 o _ h1 h2
        · obtain ⟨o, h1, h2, _⟩ := E2.ex; exact hp' 2 o _ h1 h2
        · obtain ⟨o, h1, h2, _⟩ := E3.ex; exact hp' 3 o _ h1 h2
        · obtain ⟨o, h1, h2, _⟩ := E4.ex; exact hp' 4 o _ h1 h2
        · obtain ⟨o, h1, h2, _⟩ := E5.ex; exact hp' 5 o _ h1 h2
        · obtain ⟨o, h1, h2, _⟩ := E6.ex; exact hp' 6 o _ h1 h2
        · obtain ⟨o, h1, h2, _⟩ := E7.ex; exact hp' 7 o _ h1 h2
        · obtain ⟨o, h1, h2, _⟩ := E8.ex; exact hp' 8 o _ h1 h2
        · obtain ⟨o, h1, h2, _⟩ := E9.ex; exact hp' 9 o _ h1 h2
        · obtain ⟨o, h1, h2, _⟩ := E10.ex; exact hp' 10 o _ h1 h2
        · obtain ⟨o, h1, h2, _⟩ := E11.ex; exact hp' 11 o _ h1 h2
      · intro t ht
        refine hr t (not_of ?_)
        rw [hds]
        simp only [List.mem_cons, List.not_mem_nil, or_false, forall_eq_or_imp, forall_eq] at ht
        simp only [List.contains_cons, List.contains_nil, Bool.or_eq_false_iff, beq_eq_false_iff_ne, ne_eq, Option.some.injEq, Bool.or_false]
        simp only [eq_comm (a := t)]
        simp [ht]
    rw [e]
    exact hend w hinv
def v91 (g EL ccap : Nat) (cao : Option Addr) (to rs rr mm hp rc : Int) (eq : Bool) : Nat → Value
  | 0 => .pointer (some ⟨g, 32, none⟩)
  | 1 => .agg #[.int .i64 rs, .int .i64 rr, .int .i64 mm, .int .i64 hp, .slice cao EL ccap]
  | 2 => .bool true
  | 3 => .bool true
  | 4 => .pointer (some ⟨g, 1, none⟩)
  | 5 => .int .i64 to
  | 6 => .pointer (some ⟨g, 32, none⟩)
  | 7 => .agg #[.int .i64 rs, .int .i64 rr, .int .i64 mm, .int .i64 hp, .slice cao EL ccap]
  | 8 => .int .i64 rc
  | 9 => .bool eq
  | 10 => .bool eq
  | 11 => .bool eq
  | _ => undef
set_option maxRecDepth 100000 in
set_option maxHeartbeats 4000000 in
theorem region91 {ops : Array Oper} {id : Nat} {a0 : Act} {w0 : World} {Q : Exit → Act → World → Prop} (g EL ccap : Nat) (cao : Option Addr) (to rs rr mm hp rc : Int) (eq : Bool)
    (E0 : Is ops 0 (some 37) (Op.fieldAddr 76 (Operand.tmp 1) 5) none [])
    (E1 : Is ops 1 (some 38) (Op.load 72 (Operand.tmp 37)) none [0])
    (E2 : Is ops 2 (some 39) (Op.call { callee := Callee.value (Operand.func 115), args := #[Operand.tmp 38], argTypes := #[72] }) none [1])
    (E3 : Is ops 3 (some 40) (Op.move (Operand.tmp 39)) none [2])
    (E4 : Is ops 4 (some 41) (Op.fieldAddr 76 (Operand.tmp 1) 1) (some (3, true)) [3])
    (E5 : Is ops 5 (some 42) (Op.load 3 (Operand.tmp 41)) (some (3, true)) [3, 4])
    (E6 : Is ops 6 (some 43) (Op.fieldAddr 76 (Operand.tmp 1) 5) (some (3, true)) [3])
    (E7 : Is ops 7 (some 44) (Op.load 72 (Operand.tmp 43)) (some (3, true)) [3, 6])
    (E8 : Is ops 8 (some 45) (Op.call { callee := Callee.value (Operand.func 116), args := #[Operand.tmp 44], argTypes := #[72] }) (some (3, true)) [3, 7])
    (E9 : Is ops 9 (some 46) (Op.binOp BinOp.eql 3 (Operand.tmp 42) (Operand.tmp 45) 3) (some (3, true)) [3, 5, 8])
    (E10 : Is ops 10 (some 47) (Op.pick (Operand.tmp 40) (Operand.tmp 46) (Operand.const (Value.bool false))) none [3, 9])
    (E11 : Is ops 11 (some 2) (Op.assign (Operand.tmp 47)) none [0, 1, 2, 3, 4, 5, 6, 7, 8, 9, 10])
    (hN : ops.size = 12) (hlow : lowB ops = true) (hds : dsts ops = [some 37, some 38, some 39, some 40, some 41, some 42, some 43, some 44, some 45, some 46, some 47, some 2]) (hnd : injB ops = true)
    (hmx : Try.prog.follows .mixedOrders = true) (ha0 : a0.tmps.size = 65) (h1 : a0.tmps.getD 1 undef = .pointer (some ⟨g, 0, none⟩))
    (d1 : w0.cell? ⟨g, 1, none⟩ = some (.int .i64 to)) (c0 : w0.cell? ⟨g, 32, none⟩ = some (.int .i64 rs)) (c1 : w0.cell? ⟨g, 33, none⟩ = some (.int .i64 rr)) (c2 : w0.cell? ⟨g, 34, none⟩ = some (.int .i64 mm)) (c3 : w0.cell? ⟨g, 35, none⟩ = some (.int .i64 hp)) (c4 : w0.cell? ⟨g, 36, none⟩ = some (.slice cao EL ccap))
    (H1 : ∀ W, Mod (fun _ => False) w0.drew W → Calls Try.prog 115 #[.agg #[.int .i64 rs, .int .i64 rr, .int .i64 mm, .int .i64 hp, .slice cao EL ccap]] W fun e w' => e = .returned (.bool true) ∧ Mod (fun _ => False) W w')
    (H2 : ∀ W, Calls Try.prog 116 #[.agg #[.int .i64 rs, .int .i64 rr, .int .i64 mm, .int .i64 hp, .slice cao EL ccap]] W fun e w' => e = .returned (.int .i64 rc) ∧ Mod (fun _ => False) W w') (heq : (to == rc) = eq)
    (hend : ∀ w, Mod (fun _ => False) w0.drew w → Q .normal (puts a0 [(37, .pointer (some ⟨g, 32, none⟩)), (38, .agg #[.int .i64 rs, .int .i64 rr, .int .i64 mm, .int .i64 hp, .slice cao EL ccap]), (39, .bool true), (40, .bool true), (41, .pointer (some ⟨g, 1, none⟩)), (42, .int .i64 to), (43, .pointer (some ⟨g, 32, none⟩)), (44, .agg #[.int .i64 rs, .int .i64 rr, .int .i64 mm, .int .i64 hp, .slice cao EL ccap]), (45, .int .i64 rc), (46, .bool eq), (47, .bool eq), (2, .bool eq)]) w) :
    (Code.region id ops true).wp Try.prog Q a0 w0 := by
  have D : ∀ {W : World} {a : Addr} {v : Value}, Mod (fun _ => False) w0.drew W → w0.cell? a = some v → W.cell? a = some v := fun hW hc => hW.cell (by simpa using hc) (fun h => h)
  have s0 : ∀ o, ops[0]? = some o → Step Try.prog ops (fun i' v => v = v91 g EL ccap cao to rs rr mm hp rc eq i') (fun _ W => Mod (fun _ => False) w0.drew W) a0 Q 0 o := by
    refine E0.step fun o hd ho hg hw => ?_
    intro y w listed hsz hls hun hwt hdown D' R hinv K hK
    rw [ha0] at hsz
    refine .inl ⟨wanted_none hg, ?_⟩
    have f1 : y.eval (Operand.tmp 1) = .pointer (some ⟨g, 0, none⟩) := (R 1 (not_of (by rw [hds]; decide))).trans h1
    exact wp_value (ox_field ho f1 (flp5 w)) (hK _ _ rfl hinv)
  have s1 : ∀ o, ops[1]? = some o → Step Try.prog ops (fun i' v => v = v91 g EL ccap cao to rs rr mm hp rc eq i') (fun _ W => Mod (fun _ => False) w0.drew W) a0 Q 1 o := by
    refine E1.step fun o hd ho hg hw => ?_
    intro y w listed hsz hls hun hwt hdown D' R hinv K hK
    rw [ha0] at hsz
    refine .inl ⟨wanted_none hg, ?_⟩
    have f37 : y.eval (Operand.tmp 37) = .pointer (some ⟨g, 32, none⟩) := E0.post (Post := (fun i' v => v = v91 g EL ccap cao to rs rr mm hp rc eq i')) (a := y) D' (hw 0 (by simp))
    exact wp_value (ox_load ho f37 (ldc (D hinv c0) (D hinv c1) (D hinv c2) (D hinv c3) (D hinv c4))) (hK _ _ rfl hinv)
  have s2 : ∀ o, ops[2]? = some o → Step Try.prog ops (fun i' v => v = v91 g EL ccap cao to rs rr mm hp rc eq i') (fun _ W => Mod (fun _ => False) w0.drew W) a0 Q 2 o := by
    refine E2.step fun o hd ho hg hw => ?_
    intro y w listed hsz hls hun hwt hdown D' R hinv K hK
    rw [ha0] at hsz
    refine .inl ⟨wanted_none hg, ?_⟩
    have f38 : y.eval (Operand.tmp 38) = .agg #[.int .i64 rs, .int .i64 rr, .int .i64 mm, .int .i64 hp, .slice cao EL ccap] := E1.post (Post := (fun i' v => v = v91 g EL ccap cao to rs rr mm hp rc eq i')) (a := y) D' (hw 1 (by simp))
    refine wp_enter (f := 115) (args := #[.agg #[.int .i64 rs, .int .i64 rr, .int .i64 mm, .int .i64 hp, .slice cao EL ccap]]) ?_ (H1 w hinv) ?_
    · rw [exec_call1 y.eval (fun args w => by simp [go_sem]) rfl ho, f38]
    · rintro e w' ⟨rfl, hm⟩
      exact ⟨_, rfl, hK _ _ rfl (hinv.trans hm (fun _ _ h => h) (fun _ _ h => h))⟩
  have s3 : ∀ o, ops[3]? = some o → Step Try.prog ops (fun i' v => v = v91 g EL ccap cao to rs rr mm hp rc eq i') (fun _ W => Mod (fun _ => False) w0.drew W) a0 Q 3 o := by
    refine E3.step fun o hd ho hg hw => ?_
    intro y w listed hsz hls hun hwt hdown D' R hinv K hK
    rw [ha0] at hsz
    refine .inl ⟨wanted_none hg, ?_⟩
    have f39 : y.eval (Operand.tmp 39) = .bool true := E2.post (Post := (fun i' v => v = v91 g EL ccap cao to rs rr mm hp rc eq i')) (a := y) D' (hw 2 (by simp))
    exact wp_value (ox_move ho f39) (hK _ _ rfl hinv)
  have s4 : ∀ o, ops[4]? = some o → Step Try.prog ops (fun i' v => v = v91 g EL ccap cao to rs rr mm hp rc eq i') (fun _ W => Mod (fun _ => False) w0.drew W) a0 Q 4 o := by
    refine E4.step fun o hd ho hg hw => ?_
    intro y w listed hsz hls hun hwt hdown D' R hinv K hK
    rw [ha0] at hsz
    refine .inl ⟨wanted_yes E3 hg (by rw [hsz]; decide) (E3.post (Post := (fun i' v => v = v91 g EL ccap cao to rs rr mm hp rc eq i')) (a := y) D' (hw 3 (by simp))), ?_⟩
    have f1 : y.eval (Operand.tmp 1) = .pointer (some ⟨g, 0, none⟩) := (R 1 (not_of (by rw [hds]; decide))).trans h1
    exact wp_value (ox_field ho f1 (flp1 w)) (hK _ _ rfl hinv)
  have s5 : ∀ o, ops[5]? = some o → Step Try.prog ops (fun i' v => v = v91 g EL ccap cao to rs rr mm hp rc eq i') (fun _ W => Mod (fun _ => False) w0.drew W) a0 Q 5 o := by
    refine E5.step fun o hd ho hg hw => ?_
    intro y w listed hsz hls hun hwt hdown D' R hinv K hK
    rw [ha0] at hsz
    refine .inl ⟨wanted_yes E3 hg (by rw [hsz]; decide) (E3.post (Post := (fun i' v => v = v91 g EL ccap cao to rs rr mm hp rc eq i')) (a := y) D' (hw 3 (by simp))), ?_⟩
    have f41 : y.eval (Operand.tmp 41) = .pointer (some ⟨g, 1, none⟩) := E4.post (Post := (fun i' v => v = v91 g EL ccap cao to rs rr mm hp rc eq i')) (a := y) D' (hw 4 (by simp))
    exact wp_value (ox_load ho f41 (ld1 (D hinv d1))) (hK _ _ rfl hinv)
  have s6 : ∀ o, ops[6]? = some o → Step Try.prog ops (fun i' v => v = v91 g EL ccap cao to rs rr mm hp rc eq i') (fun _ W => Mod (fun _ => False) w0.drew W) a0 Q 6 o := by
    refine E6.step fun o hd ho hg hw => ?_
    intro y w listed hsz hls hun hwt hdown D' R hinv K hK
    rw [ha0] at hsz
    refine .inl ⟨wanted_yes E3 hg (by rw [hsz]; decide) (E3.post (Post := (fun i' v => v = v91 g EL ccap cao to rs rr mm hp rc eq i')) (a := y) D' (hw 3 (by simp))), ?_⟩
    have f1 : y.eval (Operand.tmp 1) = .pointer (some ⟨g, 0, none⟩) := (R 1 (not_of (by rw [hds]; decide))).trans h1
    exact wp_value (ox_field ho f1 (flp5 w)) (hK _ _ rfl hinv)
  have s7 : ∀ o, ops[7]? = some o → Step Try.prog ops (fun i' v => v = v91 g EL ccap cao to rs rr mm hp rc eq i') (fun _ W => Mod (fun _ => False) w0.drew W) a0 Q 7 o := by
    refine E7.step fun o hd ho hg hw => ?_
    intro y w listed hsz hls hun hwt hdown D' R hinv K hK
    rw [ha0] at hsz
    refine .inl ⟨wanted_yes E3 hg (by rw [hsz]; decide) (E3.post (Post := (fun i' v => v = v91 g EL ccap cao to rs rr mm hp rc eq i')) (a := y) D' (hw 3 (by simp))), ?_⟩
    have f43 : y.eval (Operand.tmp 43) = .pointer (some ⟨g, 32, none⟩) := E6.post (Post := (fun i' v => v = v91 g EL ccap cao to rs rr mm hp rc eq i')) (a := y) D' (hw 6 (by simp))
    exact wp_value (ox_load ho f43 (ldc (D hinv c0) (D hinv c1) (D hinv c2) (D hinv c3) (D hinv c4))) (hK _ _ rfl hinv)
  have s8 : ∀ o, ops[8]? = some o → Step Try.prog ops (fun i' v => v = v91 g EL ccap cao to rs rr mm hp rc eq i') (fun _ W => Mod (fun _ => False) w0.drew W) a0 Q 8 o := by
    refine E8.step fun o hd ho hg hw => ?_
    intro y w listed hsz hls hun hwt hdown D' R hinv K hK
    rw [ha0] at hsz
    refine .inl ⟨wanted_yes E3 hg (by rw [hsz]; decide) (E3.post (Post := (fun i' v => v = v91 g EL ccap cao to rs rr mm hp rc eq i')) (a := y) D' (hw 3 (by simp))), ?_⟩
    have f44 : y.eval (Operand.tmp 44) = .agg #[.int .i64 rs, .int .i64 rr, .int .i64 mm, .int .i64 hp, .slice cao EL ccap] := E7.post (Post := (fun i' v => v = v91 g EL ccap cao to rs rr mm hp rc eq i')) (a := y) D' (hw 7 (by simp))
    refine wp_enter (f := 116) (args := #[.agg #[.int .i64 rs, .int .i64 rr, .int .i64 mm, .int .i64 hp, .slice cao EL ccap]]) ?_ (H2 w) ?_
    · rw [exec_call1 y.eval (fun args w => by simp [go_sem]) rfl ho, f44]
    · rintro e w' ⟨rfl, hm⟩
      exact ⟨_, rfl, hK _ _ rfl (hinv.trans hm (fun _ _ h => h) (fun _ _ h => h))⟩
  have s9 : ∀ o, ops[9]? = some o → Step Try.prog ops (fun i' v => v = v91 g EL ccap cao to rs rr mm hp rc eq i') (fun _ W => Mod (fun _ => False) w0.drew W) a0 Q 9 o := by
    refine E9.step fun o hd ho hg hw => ?_
    intro y w listed hsz hls hun hwt hdown D' R hinv K hK
    rw [ha0] at hsz
    refine .inl ⟨wanted_yes E3 hg (by rw [hsz]; decide) (E3.post (Post := (fun i' v => v = v91 g EL ccap cao to rs rr mm hp rc eq i')) (a := y) D' (hw 3 (by simp))), ?_⟩
    have f42 : y.eval (Operand.tmp 42) = .int .i64 to := E5.post (Post := (fun i' v => v = v91 g EL ccap cao to rs rr mm hp rc eq i')) (a := y) D' (hw 5 (by simp))
    have f45 : y.eval (Operand.tmp 45) = .int .i64 rc := E8.post (Post := (fun i' v => v = v91 g EL ccap cao to rs rr mm hp rc eq i')) (a := y) D' (hw 8 (by simp))
    exact wp_value (ox_eql ho f42 f45 heq) (hK _ _ rfl hinv)
  have s10 : ∀ o, ops[10]? = some o → Step Try.prog ops (fun i' v => v = v91 g EL ccap cao to rs rr mm hp rc eq i') (fun _ W => Mod (fun _ => False) w0.drew W) a0 Q 10 o := by
    refine E10.step fun o hd ho hg hw => ?_
    intro y w listed hsz hls hun hwt hdown D' R hinv K hK
    rw [ha0] at hsz
    refine .inl ⟨wanted_none hg, ?_⟩
    have f40 : y.eval (Operand.tmp 40) = .bool true := E3.post (Post := (fun i' v => v = v91 g EL ccap cao to rs rr mm hp rc eq i')) (a := y) D' (hw 3 (by simp))
    have f46 : y.eval (Operand.tmp 46) = .bool eq := E9.post (Post := (fun i' v => v = v91 g EL ccap cao to rs rr mm hp rc eq i')) (a := y) D' (hw 9 (by simp))
    exact wp_value (ox_pick ho f40 f46) (hK _ _ rfl hinv)
  have s11 : ∀ o, ops[11]? = some o → Step Try.prog ops (fun i' v => v = v91 g EL ccap cao to rs rr mm hp rc eq i') (fun _ W => Mod (fun _ => False) w0.drew W) a0 Q 11 o := by
    refine E11.step fun o hd ho hg hw => ?_
    intro y w listed hsz hls hun hwt hdown D' R hinv K hK
    rw [ha0] at hsz
    refine .inl ⟨wanted_none hg, ?_⟩
    have f47 : y.eval (Operand.tmp 47) = .bool eq := E10.post (Post := (fun i' v => v = v91 g EL ccap cao to rs rr mm hp rc eq i')) (a := y) D' (hw 10 (by simp))
    exact wp_value (ox_assign ho f47) (hK _ _ rfl hinv)
  refine region_free (Post := (fun i' v => v = v91 g EL ccap cao to rs rr mm hp rc eq i')) (Inv := (fun _ W => Mod (fun _ => False) w0.drew W)) hmx (low_of hlow) (fun i o ho => by rw [ha0]; exact dst_of (by rw [hds]; decide) i o ho) (inj_of hnd) (Mod.refl _ _) ?_ ?_
  · intro i o ho
    have hi : i < 12 := by
      rw [← hN]
      rcases Nat.lt_or_ge i ops.size with h | h
      · exact h
      · rw [Array.getElem?_eq_none h] at ho; cases ho
    clear hend
    by_cases e0 : i = 0
    · subst e0; exact s0 o ho
    by_cases e1 : i = 1
    · subst e1; exact s1 o ho
    by_cases e2 : i = 2
    · subst e2; exact s2 o ho
    by_cases e3 : i = 3
    · subst e3; exact s3 o ho
    by_cases e4 : i = 4
    · subst e4; exact s4 o ho
    by_cases e5 : i = 5
    · subst e5; exact s5 o ho
    by_cases e6 : i = 6
    · subst e6; exact s6 o ho
    by_cases e7 : i = 7
    · subst e7; exact s7 o ho
    by_cases e8 : i = 8
    · subst e8; exact s8 o ho
    by_cases e9 : i = 9
    · subst e9; exact s9 o ho
    by_cases e10 : i = 10
    · subst e10; exact s10 o ho
    by_cases e11 : i = 11
    · subst e11; exact s11 o ho
    omega
  · intro y w listed hsz hdf hls hall hinv hp' hr
    have e : y = puts a0 [(37, .pointer (some ⟨g, 32, none⟩)), (38, .agg #[.int .i64 rs, .int .i64 rr, .int .i64 mm, .int .i64 hp, .slice cao EL ccap]), (39, .bool true), (40, .bool true), (41, .pointer (some ⟨g, 1, none⟩)), (42, .int .i64 to), (43, .pointer (some ⟨g, 32, none⟩)), (44, .agg #[.int .i64 rs, .int .i64 rr, .int .i64 mm, .int .i64 hp, .slice cao EL ccap]), (45, .int .i64 rc), (46, .bool eq), (47, .bool eq), (2, .bool eq)] := by
      refine eq_puts hsz hdf (nodup_of (D := [some 37, some 38, some 39, some 40, some 41, some 42, some 43, some 44, some 45, some 46, some 47, some 2]) rfl (by decide)) (by rw [ha0]; simp) ?_ ?_
      · intro q hq
        simp only [List.mem_cons, List.not_mem_nil, or_false] at hq
        rcases hq with rfl | rfl | rfl | rfl | rfl | rfl | rfl | rfl | rfl | rfl | rfl | rfl
        · obtain ⟨o, h1, h2, _⟩ := E0.ex; exact hp' 0 o _ h1 h2
        · obtain ⟨o, h1, h2, _⟩ := E1.ex; exact hp' 1 o _ h1 h2
        · obtain ⟨o, h1, h2, _⟩ := E2.ex; exact hp' 2 o _ h1 h2
        · obtain ⟨o, h1, h2, _⟩ := E3.ex; exact hp' 3 o _ h1 h2
        · obtain ⟨o, h1, h2, _⟩ := E4.ex; exact hp' 4 o _ h1 h2
        · obtain ⟨o, h1, h2, _⟩ := E5.ex; exact hp' 5 o _ h1 h2
        · obtain ⟨o, h1, h2, _⟩ := E6.ex; exact hp' 6 o _ h1 h2
        · obtain ⟨o, h1, h2, _⟩ := E7.ex; exact hp' 7 o _ h1 h2
        · obtain ⟨o, h1, h2, _⟩ := E8.ex; exact hp' 8 o _ h1 h2
        · obtain ⟨o, h1, h2, _⟩ := E9.ex; exact hp' 9 o _ h1 h2
        · obtain ⟨o, h1, h2, _⟩ := E10.ex; exact hp' 10 o _ h1 h2
        · obtain ⟨o, h1, h2, _⟩ := E11.ex; exact hp' 11 o _ h1 h2
      · intro t ht
        refine hr t (not_of ?_)
        rw [hds]
        simp only [List.mem_cons, List.not_mem_nil, or_false, forall_eq_or_imp, forall_eq] at ht
        simp only [List.contains_cons, List.contains_nil, Bool.or_eq_false_iff, beq_eq_false_iff_ne, ne_eq, Option.some.injEq, Bool.or_false]
        simp only [eq_comm (a := t)]
        simp [ht]
    rw [e]
    exact hend w hinv
end Go.Proofs.Ytajhpnfpjickbaa
