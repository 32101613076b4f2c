/- Contracts of a queue's small calls: New, isNone, slot, Len, Room. No conditions. -/
import Derived.Test.YtcedlpjjldmpfaaQa
import Derived.Test.YtcedlpjjldmpfaaCv
import Derived.Deep.QuietTactic
import Derived.BigQuiet
namespace Go.Proofs.Ytcedlpjjldmpfaa
open Go.RowKit
/-- A queue at block q that has the messages L; X: its blocks. -/
structure Qx (w : World) (q : Nat) (X : Nat → Prop) (L : List Ms) (xs : Array Value) (f : Nat) (V : Nat → Value) : Prop where
  blk : Bk w q 53 xs
  size : xs.size = 419
  made : xs[0]? = some (.bool true)
  first : xs[417]? = some (.int .i64 (f : Int))
  count : xs[418]? = some (.int .i64 (L.length : Int))
  f32 : f < 32
  l32 : L.length ≤ 32
  cells : ∀ i m, L[i]? = some m → ∀ j c, (mcl m (V i))[j]? = some c → xs[1 + (f + i) % 32 * 13 + j]? = some c
  own : ∀ i m, L[i]? = some m → Own w (V i) m.body ∧ (∀ c ∈ m.body, 0 ≤ c ∧ c ≤ 255) ∧ (∀ b, (V i).ownBlock = some b → X b ∧ b ≠ q)
  apart : ∀ i k, i < L.length → k < L.length → i ≠ k → ∀ b, (V i).ownBlock = some b → (V k).ownBlock ≠ some b
  inX : X q
  lt : ∀ b, X b → b < w.heap.size
def Qu (w : World) (q : Nat) (X : Nat → Prop) (L : List Ms) : Prop := ∃ xs f V, Qx w q X L xs f V
theorem Qx.mod {S : Nat → Prop} {w w' : World} {q : Nat} {X : Nat → Prop} {L : List Ms} {xs : Array Value} {f : Nat} {V : Nat → Value} (h : Qx w q X L xs f V) (hm : Mod S w w') (hX : ∀ b, X b → ¬ S b) : Qx w' q X L xs f V :=
  ⟨h.blk.mod hm (hX q h.inX), h.size, h.made, h.first, h.count, h.f32, h.l32, h.cells, fun i m hi => ⟨(h.own i m hi).1.mod hm (fun b hb => hX b ((h.own i m hi).2.2 b hb).1), (h.own i m hi).2⟩, h.apart, h.inX, fun b hb => Nat.lt_of_lt_of_le (h.lt b hb) hm.size⟩
theorem Qu.mod {S : Nat → Prop} {w w' : World} {q : Nat} {X : Nat → Prop} {L : List Ms} (h : Qu w q X L) (hm : Mod S w w') (hX : ∀ b, X b → ¬ S b) : Qu w' q X L := by
  obtain ⟨xs, f, V, h⟩ := h
  exact ⟨xs, f, V, h.mod hm hX⟩
theorem Qx.modK {S : Nat → Prop} {w w' : World} {q : Nat} {X : Nat → Prop} {L : List Ms} {xs : Array Value} {f : Nat} {V : Nat → Value} (h : Qx w q X L xs f V) (hm : Mod S w w') (hS : ∀ b, S b → b ≠ q ∧ ∀ cur, w.heap[b]? ≠ some (.cells cur 5 (0, 0))) : Qx w' q X L xs f V :=
  ⟨h.blk.mod hm (fun e => (hS q e).1 rfl), h.size, h.made, h.first, h.count, h.f32, h.l32, h.cells, fun i m hi => ⟨(h.own i m hi).1.mod hm (fun b hb e => by
    obtain ⟨cur, hc⟩ := (h.own i m hi).1.kind hb
    exact (hS b e).2 cur hc), (h.own i m hi).2⟩, h.apart, h.inX, fun b hb => Nat.lt_of_lt_of_le (h.lt b hb) hm.size⟩
/-- What turns is neither it nor bytes. -/
theorem Qu.modK {S : Nat → Prop} {w w' : World} {q : Nat} {X : Nat → Prop} {L : List Ms} (h : Qu w q X L) (hm : Mod S w w') (hS : ∀ b, S b → b ≠ q ∧ ∀ cur, w.heap[b]? ≠ some (.cells cur 5 (0, 0))) : Qu w' q X L := by
  obtain ⟨xs, f, V, h⟩ := h
  exact ⟨xs, f, V, h.modK hm hS⟩
theorem Qu.kind {w : World} {q : Nat} {X : Nat → Prop} {L : List Ms} (h : Qu w q X L) : ∃ cur, w.heap[q]? = some (.cells cur 53 (0, 0)) := by
  obtain ⟨xs, f, V, h⟩ := h
  exact ⟨xs, h.blk.at'⟩
theorem Qu.l32 {w : World} {q : Nat} {X : Nat → Prop} {L : List Ms} (h : Qu w q X L) : L.length ≤ 32 := by
  obtain ⟨xs, f, V, h⟩ := h
  exact h.l32
theorem Qu.inX {w : World} {q : Nat} {X : Nat → Prop} {L : List Ms} (h : Qu w q X L) : X q := by
  obtain ⟨xs, f, V, h⟩ := h
  exact h.inX
theorem Qu.lt {w : World} {q : Nat} {X : Nat → Prop} {L : List Ms} (h : Qu w q X L) : ∀ b, X b → b < w.heap.size := by
  obtain ⟨xs, f, V, h⟩ := h
  exact h.lt
theorem infoQ : (Try.prog.info? 53).map (fun i => (i.zero.map (fun z => match z with | .agg cs => (cs.size, cs[417]?, cs[418]?) | _ => (0, none, none)), i.size)) = some (some (419, some (.int .i64 0), some (.int .i64 0)), 419) := by kernel_rfl
theorem infoQs : ∃ i cs, Try.prog.info? 53 = some i ∧ i.zero = some (.agg cs) ∧ i.size = 419 ∧ cs.size = 419 ∧ cs[417]? = some (.int .i64 0) ∧ cs[418]? = some (.int .i64 0) := by
  have h := infoQ
  cases hi : Try.prog.info? 53 with
  | none => rw [hi] at h; cases h
  | some i =>
    rw [hi] at h
    simp only [Option.map_some, Option.some.injEq, Prod.mk.injEq] at h
    obtain ⟨h1, h2⟩ := h
    cases hz : i.zero with
    | none => rw [hz] at h1; cases h1
    | some z =>
      rw [hz] at h1
      cases z with
      | agg cs =>
        simp only [Option.map_some, Option.some.injEq, Prod.mk.injEq] at h1
        exact ⟨i, cs, rfl, hz, h2, h1⟩
      | _ => simp at h1
theorem wpList_val {ops : Array Oper} {rest : List Oper} {op : Oper} {a : Act} {w w' : World} {Q : Exit → Act → World → Prop} {v : Value} (hw : Region.wanted op (yielded ops a.tmps) = true) (hr : (execOp a.eval op).run Try.prog w = .ok (.value v) w')
    (h : wpList Try.prog ops Q rest (a.put op.dst v) w') : wpList Try.prog ops Q (op :: rest) a w := by
  refine wpList_step fun K hK => ?_
  rw [if_pos hw]
  unfold Oper.wp
  rw [hr]
  exact hK _ _ h
theorem bdQ : ∃ xs : Array Value, (xs.size = 419 ∧ xs[0]? = some (.bool true) ∧ xs[417]? = some (.int .i64 0) ∧ xs[418]? = some (.int .i64 0)) ∧ ∀ {oq : Oper} {w : World} {ρ : Operand → Value}, (∀ v, ρ (.const v) = v) → oq.op = .build 53 #[(0, .const (.bool true))] → (execOp ρ oq).run Try.prog w = .ok (.value (.agg xs)) w := by
  obtain ⟨i, cs, hi, hz, _, h1, h2, h3⟩ := infoQs
  have hne : ¬ cs = #[] := by rintro rfl; simp at h1
  refine ⟨cs.setIfInBounds 0 (.bool true), ⟨by simp [h1], by simp [h1], by simp [h2], by simp [h3]⟩, ?_⟩
  intro oq w ρ hc ho
  simp [execOp, ho, hc, Instr.build, zeroValue, typeInfo, hi, hz, Instr.fill, hne, go_sem]
/-- New: a queue without messages. -/
theorem qNew (w : World) : Calls Try.prog 7 #[] w fun e w' => ∃ q X, e = .returned (.pointer (some ⟨q, 0, none⟩)) ∧ Qu w' q X [] ∧ Mod (fun _ => False) w w' ∧ (∀ b, X b → w.heap.size ≤ b) := by
  obtain ⟨xs, ⟨h1, h2, h3, h4⟩, hb⟩ := bdQ
  go_enter Try.func7, Try.ntmps7
  go_wp2_with (refine wpList_val rfl (hb (fun _ => rfl) rfl) ?_; simp only [Act.put, List.setIfInBounds_toArray, List.set_cons_succ, List.set_cons_zero])
  go_ret
  exact ⟨w.heap.size, fun b => b = w.heap.size, rfl, ⟨xs, 0, fun _ => undef, ⟨Bk.new w xs _, h1, h2, h3, h4, by decide, by simp, by simp, by simp, by simp, rfl, fun b hb => by subst hb; simp⟩⟩, (Mod.refl _ w).alloc _, fun b hb => by subst hb; exact Nat.le_refl _⟩
theorem isNone_q {w : World} {q : Nat} (h : w.cell? ⟨q, 0, none⟩ = some (.bool true)) : Calls Try.prog 25 #[.pointer (some ⟨q, 0, none⟩)] w fun e w' => e = .returned (.bool false) ∧ w' = w := by
  go_enter Try.func25, Try.ntmps25
  go_wp2
  go_ret
  exact ⟨rfl, rfl⟩
theorem Qx.c0 {w : World} {q : Nat} {X : Nat → Prop} {L : List Ms} {xs : Array Value} {f : Nat} {V : Nat → Value} (h : Qx w q X L xs f V) : w.cell? ⟨q, 0, none⟩ = some (.bool true) := h.blk.cellv h.made
theorem Qx.cf {w : World} {q : Nat} {X : Nat → Prop} {L : List Ms} {xs : Array Value} {f : Nat} {V : Nat → Value} (h : Qx w q X L xs f V) : w.cell? ⟨q, 417, none⟩ = some (.int .i64 (f : Int)) := h.blk.cellv h.first
theorem Qx.cn {w : World} {q : Nat} {X : Nat → Prop} {L : List Ms} {xs : Array Value} {f : Nat} {V : Nat → Value} (h : Qx w q X L xs f V) : w.cell? ⟨q, 418, none⟩ = some (.int .i64 (L.length : Int)) := h.blk.cellv h.count
theorem Len_q {w : World} {q : Nat} {X : Nat → Prop} {L : List Ms} (h : Qu w q X L) : Calls Try.prog 16 #[.pointer (some ⟨q, 0, none⟩)] w fun e w' => e = .returned (.int .i64 (L.length : Int)) ∧ w' = w := by
  obtain ⟨xs, f, V, h⟩ := h
  have cn := h.cn
  have c0 := h.c0
  clear h
  go_enter Try.func16, Try.ntmps16
  go_wp2_with (go_at_call 25; refine (isNone_q c0).mono ?_; rintro e w' ⟨rfl, rfl⟩)
  go_ret
  exact ⟨rfl, rfl⟩
theorem Room_q {w : World} {q : Nat} {X : Nat → Prop} {L : List Ms} (h : Qu w q X L) : Calls Try.prog 18 #[.pointer (some ⟨q, 0, none⟩)] w fun e w' => e = .returned (.int .i64 (32 - (L.length : Int))) ∧ w' = w := by
  obtain ⟨xs, f, V, h⟩ := h
  have cn := h.cn
  have c0 := h.c0
  have hl : (L.length : Int) ≤ 32 := by have := h.l32; omega
  clear h
  go_enter Try.func18, Try.ntmps18
  go_wp2_with (go_at_call 25; refine (isNone_q c0).mono ?_; rintro e w' ⟨rfl, rfl⟩)
  go_ret
  exact ⟨rfl, rfl⟩
theorem slot_q {w : World} {q : Nat} {X : Nat → Prop} {L : List Ms} {xs : Array Value} {f : Nat} {V : Nat → Value} (h : Qx w q X L xs f V) (a : Nat) (ha : a ≤ 32) (s : Nat) (hs : s = (f + a) % 32) : Calls Try.prog 29 #[.pointer (some ⟨q, 0, none⟩), .int .i64 (a : Int)] w fun e w' => e = .returned (.pointer (some ⟨q, 1 + s * 13, none⟩)) ∧ Mod (fun _ => False) w w' := by
  have cf := h.cf
  have c0 := h.c0
  have hf := h.f32
  have e1 : ((f : Int) + (a : Int)).tmod 32 = (s : Int) := by rw [Int.tmod_eq_emod_of_nonneg (by omega)]; omega
  have hs2 : (s : Int) < 32 := by omega
  have hf2 : (f : Int) < 32 := by omega
  have ha2 : (a : Int) ≤ 32 := by omega
  clear h hs hf ha
  go_enter Try.func29, Try.ntmps29
  go_wp2_with (fail)
  go_quiet (fail)
  go_wp2
  go_ret
  exact ⟨rfl, (Mod.refl _ w).drewN _⟩
end Go.Proofs.Ytcedlpjjldmpfaa
