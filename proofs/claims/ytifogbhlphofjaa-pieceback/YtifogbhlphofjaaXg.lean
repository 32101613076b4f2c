/- Contracts of piece's isBlank and Split, of all messages and payloads; Bring. Conditions: sizes that a slice of bytes has. -/
import Derived.Test.YtifogbhlphofjaaXd
import Derived.Test.YtifogbhlphofjaaXe
import Derived.Laws.MakeOwn
namespace Go.Proofs.Ytifogbhlphofjaa
open Go.RowKit Go.Maps
/-- x brought to 0 .. m - 1. -/
def br (x m : Int) : Int := if x.tmod m < 0 then x.tmod m + m else x.tmod m
theorem br_rng (x : Int) (m : Nat) (h0 : 0 < m) : 0 ≤ br x m ∧ br x m < m ∧ -(m : Int) < x.tmod m ∧ x.tmod m < m := by
  have q1 : ¬ ((m : Int) = 0) := by omega
  have hb : -(m : Int) < x.tmod (m : Int) ∧ x.tmod (m : Int) < (m : Int) := by
    rcases (show 0 ≤ x ∨ x < 0 by omega) with h | h
    · rw [Int.tmod_eq_emod_of_nonneg h]
      have a1 := Int.emod_nonneg x q1
      have a2 := Int.emod_lt_of_pos x (show (0 : Int) < m by omega)
      omega
    · have e := Int.neg_tmod (-x) (m : Int)
      rw [Int.neg_neg, Int.tmod_eq_emod_of_nonneg (by omega : 0 ≤ -x)] at e
      rw [e]
      have a1 := Int.emod_nonneg (-x) q1
      have a2 := Int.emod_lt_of_pos (-x) (show (0 : Int) < m by omega)
      omega
  unfold br
  split <;> omega
theorem bring (x : Int) (m : Nat) (w : World) (h0 : 0 < m) (hm : m ≤ 1152921504606846976) (h : -9223372036854775808 ≤ x ∧ x ≤ 9223372036854775807) :
    Calls Try.prog 22 #[.int .i64 x, .int .i64 (m : Int)] w fun e w' => e = .returned (.int .i64 (br x m)) ∧ w' = w := by
  have q0 : ¬ ((m : Int) ≤ 0) := by omega
  have q1 : ¬ ((m : Int) = 0) := by omega
  have q2 : ((m : Int) == 0) = false := by simp; omega
  obtain ⟨_, _, b1, b2⟩ := br_rng x m h0
  unfold br
  generalize hr : x.tmod (m : Int) = r at b1 b2 ⊢
  obtain ⟨h1, h2⟩ := h
  by_cases hneg : r < 0
  · rw [if_pos hneg]
    go_enter Try.func22, Try.ntmps22
    go_wp2
    go_ret
    exact ⟨rfl, rfl⟩
  · rw [if_neg hneg]
    go_enter Try.func22, Try.ntmps22
    go_wp2
    go_ret
    exact ⟨rfl, rfl⟩
/-- Nothing is said yet that parts say. -/
def isB (m : Ms) : Bool := decide (m.part = 0) && (decide (m.parts = 0) && (decide (m.body.length = 0) && ((decide (m.st = 0) && (decide (m.rs = 0) && (decide (m.rr = 0) && decide (m.sq = 0)))) && okT { m with parts := 1 })))
set_option maxRecDepth 100000 in
set_option maxHeartbeats 1000000 in
theorem isBlank_any (k o lf i p ps g : Int) (s : Bool) (st rs rr sq : Int) (ao : Option Addr) (cap : Nat) (l : List Int) (w : World) (hs : Sl w (.slice ao l.length cap) l) :
    Calls Try.prog 26 #[.agg #[.int .i64 k, .int .i64 o, .int .i64 lf, .int .i64 i, .int .i64 p, .int .i64 ps, .int .i64 g, .bool s, .int .i64 st, .int .i64 rs, .int .i64 rr, .int .i64 sq, .slice ao l.length cap]] w fun e w' => e = .returned (.bool (isB ⟨k, o, lf, i, p, ps, g, s, st, rs, rr, sq, l⟩)) ∧ Mod (fun _ => False) w w' := by
  have hA := ((Mod.refl (fun _ => False) w).alloc (.cells #[.int .i64 k, .int .i64 o, .int .i64 lf, .int .i64 i, .int .i64 p, .int .i64 ps, .int .i64 g, .bool s, .int .i64 st, .int .i64 rs, .int .i64 rr, .int .i64 sq, .slice ao l.length cap] 28)).alloc (.cells #[.int .i64 0, .int .i64 0, .int .i64 0, .int .i64 0] 25)
  have EK := eqKey st rs rr sq 0 0 0 0
  have HT : ∀ W, Mod (fun _ => False) w W → _ := fun W (hm : Mod (fun _ => False) w W) => isText_any k o lf i p 1 g s st rs rr sq ao cap l W (hs.mod hm (fun _ _ h => h))
  have eB : isB ⟨k, o, lf, i, p, ps, g, s, st, rs, rr, sq, l⟩ = (decide (p = 0) && (decide (ps = 0) && (decide (l.length = 0) && ((decide (st = 0) && (decide (rs = 0) && (decide (rr = 0) && decide (sq = 0)))) && (k == 1 && chk ⟨k, o, lf, i, p, 1, g, s, st, rs, rr, sq, l⟩ == 0))))) := rfl
  rw [eB]
  clear eB
  generalize (k == 1 && chk ⟨k, o, lf, i, p, 1, g, s, st, rs, rr, sq, l⟩ == 0) = T at HT ⊢
  generalize (decide (st = 0) && (decide (rs = 0) && (decide (rr = 0) && decide (sq = 0)))) = C at EK ⊢
  by_cases hp : p = 0
  · subst hp
    by_cases hps : ps = 0
    · subst hps
      by_cases hl : l.length = 0
      · obtain rfl := List.eq_nil_of_length_eq_zero hl
        clear hl
        simp only [List.length_nil] at hA HT hs ⊢
        rcases C with _ | _
        · go_enter Try.func26, Try.ntmps26
          go_wp2
          go_ret
          exact ⟨rfl, hA⟩
        · go_enter Try.func26, Try.ntmps26
          go_wp2_with (fail)
          have hA2 := ((Mod.refl (fun _ => False) w).alloc (.cells #[.int .i64 k, .int .i64 o, .int .i64 lf, .int .i64 i, .int .i64 0, .int .i64 1, .int .i64 g, .bool s, .int .i64 st, .int .i64 rs, .int .i64 rr, .int .i64 sq, .slice ao 0 cap] 28)).alloc (.cells #[.int .i64 0, .int .i64 0, .int .i64 0, .int .i64 0] 25)
          refine (HT _ hA2).mono ?_
          rintro e w2 ⟨rfl, hm2⟩
          go_wp2
          go_ret
          exact ⟨by simp, hA2.trans hm2 (fun _ _ h => h) (fun _ _ h => h)⟩
      · rw [decide_eq_false hl]
        have e3 : 0 < l.length := by omega
        have e4 : l ≠ [] := by intro e; simp [e] at hl
        clear hl
        go_enter Try.func26, Try.ntmps26
        go_wp2
        go_ret
        exact ⟨rfl, hA⟩
    · have e2 : (ps != 0) = true := by simp [hps]
      rw [decide_eq_false hps]
      clear hps
      go_enter Try.func26, Try.ntmps26
      go_wp2
      go_ret
      exact ⟨rfl, hA⟩
  · have e1 : (p != 0) = true := by simp [hp]
    rw [decide_eq_false hp]
    clear hp
    go_enter Try.func26, Try.ntmps26
    go_wp2
    go_ret
    exact ⟨rfl, hA⟩
/-- A message's cells. -/
def mcl (m : Ms) (v : Value) : List Value := [.int .i64 m.kind, .int .i64 m.origin, .int .i64 m.life, .int .i64 m.id, .int .i64 m.part, .int .i64 m.parts, .int .i64 m.groups, .bool m.safe, .int .i64 m.st, .int .i64 m.rs, .int .i64 m.rr, .int .i64 m.sq, v]
/-- The part's bytes, and the part. -/
def chunk (l : List Int) (i : Nat) : List Int := (l.drop (i * 48)).take (min (i * 48 + 48) l.length - i * 48)
def prt (m : Ms) (n : Nat) (l : List Int) (i : Nat) : Ms := { m with part := i, parts := n, body := chunk l i }
theorem chunk_rng {l : List Int} (h : ∀ c ∈ l, 0 ≤ c ∧ c ≤ 255) (i : Nat) : ∀ c ∈ chunk l i, 0 ≤ c ∧ c ≤ 255 := fun c hc => h c (List.mem_of_mem_drop (List.mem_of_mem_take hc))
theorem chunk_len (l : List Int) (i : Nat) (h : i * 48 ≤ l.length) : (chunk l i).length = min (i * 48 + 48) l.length - i * 48 := by
  simp [chunk]
  omega
theorem elemB : Try.prog.elem 26 = 5 := by kernel_rfl
theorem undB : Try.prog.underlying 26 = some (.slice (Try.prog.elem 26)) := by rw [elemB]; exact Try.underlying26
theorem sizeB (w : World) : (sizeOf 5).run Try.prog w = .ok 1 w := by
  obtain ⟨i0, hi, hz0, hz1, hz2⟩ := info_parts info5
  simp [sizeOf, typeInfo, hi, hz1]
theorem run_cut (ao : Option Addr) (n cap k m : Nat) (w : World) (hk : k ≤ m) (hm : m ≤ cap) : (Instr.sliceAt 26 (.slice ao n cap) (some (.int .i64 (k : Int))) (some (.int .i64 (m : Int))) none).run Try.prog w = .ok (.slice (if cap = k then ao else ao.map (·.add (k * 1))) (m - k) (cap - k)) w := by
  rw [run_sliceAt_slice (h := undB), run_slice_lh (ht := undB) (h0 := by omega) (h1 := by omega) (h2 := by omega), elemB, sizeB]
  simp [Result.andThen, sliced]
/-- A slice cut, as one step. -/
theorem wpList_cut {ops : Array Oper} {rest : List Oper} {o : Oper} {a : Act} {w : World} {Q : Exit → Act → World → Prop} (hgd : o.guard = none) (x lo hi : Operand) (ho : o.op = .slice 26 x (some lo) (some hi) none)
    (ao : Option Addr) (cap k m : Nat) (l : List Int) (hx : a.eval x = .slice ao l.length cap) (hlo : a.eval lo = .int .i64 (k : Int)) (hhi : a.eval hi = .int .i64 (m : Int)) (hs : Sl w (.slice ao l.length cap) l) (hk : k ≤ m) (hm : m ≤ l.length)
    (h : ∀ u, Sl w u ((l.drop k).take (m - k)) → wpList Try.prog ops Q rest (a.put o.dst u) w) : wpList Try.prog ops Q (o :: rest) a w := by
  have hc := h _ (hs.cut k m hk hm)
  obtain ⟨ao', cap', e, h1, h2, _⟩ := hs.form
  simp only [Value.slice.injEq, true_and] at e
  obtain ⟨rfl, rfl⟩ := e
  refine wpList_plain hgd fun K hK => ?_
  unfold Oper.wp
  have hrun : (execOp a.eval o).run Try.prog w = .ok (.value (.slice (if cap = k then ao else ao.map (·.add (k * 1))) (m - k) (cap - k))) w := by
    unfold execOp
    rw [ho]
    simp only [Option.map_some, Option.map_none, hx, hlo, hhi]
    rw [Sem.run_bind, run_cut ao l.length cap k m w hk (by omega)]
    rfl
  rw [hrun]
  exact hK _ _ hc
end Go.Proofs.Ytifogbhlphofjaa
