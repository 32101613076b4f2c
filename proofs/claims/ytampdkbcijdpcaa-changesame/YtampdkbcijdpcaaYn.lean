/- How the laws' arguments read: a message is eleven ints, a bool and a slice of bytes; a slice of bytes reads as a list of bytes, of at most 2^47 - 4096 bytes by the form's own reach. No conditions. -/
import Derived.Test.YtampdkbcijdpcaaYa
import Derived.Test.YtampdkbcijdpcaaRows
import Derived.ProofKit
import Derived.OpenShut
import Derived.Deep.Slices
import Derived.Deep.Strs
import Derived.SizedLaws
import Derived.Lib.SmallJoins
namespace Go.Proofs.Ytampdkbcijdpcaa
open Go.ChangeShapes Go.WideShapes Go.ChangeAt Go.RowKit
variable {H : Type} {enc : TypeId × Value → H} {W : World}
theorem cells3 : Try.prog.cellsOf 3 = 1 := by kernel_rfl
theorem cells4 : Try.prog.cellsOf 4 = 1 := by kernel_rfl
theorem cells5 : Try.prog.cellsOf 5 = 1 := by kernel_rfl
theorem cellsR : Try.prog.cellsOf 23 = 2 := by kernel_rfl
theorem cellsK : Try.prog.cellsOf 39 = 4 := by kernel_rfl
theorem cellsB : Try.prog.cellsOf 40 = 1 := by kernel_rfl
theorem cellsM : Try.prog.cellsOf 42 = 13 := by kernel_rfl
theorem bytes5 : Try.prog.bytesOf 5 = 1 := by kernel_rfl
theorem own : ownKnob Try.prog.godebug = none := by kernel_rfl
theorem laidOut : laidOutB Try.prog = true := by kernel_rfl
theorem sl_of_trod {n : Nat} {c : Value} {x : DataW H × List MemPlace} (h : DataW.trod enc Try.prog W 0 (fun _ => true) true n 40 [c] = some x) :
    ∃ l, Sl W c l ∧ ((x.1 = .nil ∧ l = []) ∨ ∃ e s, x.1 = .slice e s ∧ e.length = l.length) := by
  rcases open_ints Try.underlying40 Try.underlying5 cells5 h with ⟨hcs, rfl⟩ | ⟨a, len, cap, zs, hcs, _, hl, hm, hz, rfl, hcell, hwz⟩
  · cases hcs
    exact ⟨[], ⟨⟨none, 0, rfl, Nat.le_refl _, by simp [maxLen], fun _ => rfl, fun h => absurd rfl h⟩, by simp⟩, .inl ⟨rfl, rfl⟩⟩
  · cases hcs
    simp only [if_true] at hz
    have hlen : (zs.take len).length = len := by simp; omega
    refine ⟨zs.take len, ⟨⟨some a, cap, by rw [hlen], by omega, hm, (by intro h; cases h), fun hne => ?_⟩, ?_⟩, .inr ⟨_, _, rfl, by simp [lits]⟩⟩
    · have h0 : 0 < len := by
        rcases Nat.eq_zero_or_pos len with h | h
        · subst h; simp at hne
        · exact h
      obtain ⟨b, off, spot⟩ := a
      have hc0 := hcell 0 (by omega)
      have hspot : spot = none := by simpa [Addr.add] using World.cell?_spot hc0
      subst hspot
      refine ⟨b, off, rfl, fun j hj => ?_⟩
      rw [hlen] at hj
      have := hcell j (by omega)
      rw [add_at] at this
      rw [this]
      simp [hj]
    · intro c hc
      have := hwz c (List.mem_of_mem_take hc)
      have hb := bounds_u8 this
      omega
theorem i64_of_wf {n : Int} (h : (Lit.int .i64 n).wf = true) : -9223372036854775808 ≤ n ∧ n ≤ 9223372036854775807 := by
  have := bounds_i64 h
  omega

/-- A key's cells. -/
theorem key_cells {n : Nat} {c0 c1 c2 c3 : Value} {x : DataW H × List MemPlace} {sp : Nat → Bool} (h : DataW.trod enc Try.prog W 0 sp true n 39 [c0, c1, c2, c3] = some x) :
    ∃ s q r n : Int, c0 = .int .i64 s ∧ c1 = .int .i64 q ∧ c2 = .int .i64 r ∧ c3 = .int .i64 n ∧ (Lit.int .i64 s).wf = true ∧ (Lit.int .i64 q).wf = true ∧ (Lit.int .i64 r).wf = true ∧ (Lit.int .i64 n).wf = true := by
  obtain ⟨y0, y1, y2, m, hx, _, t0, t1, t2⟩ := Deep.trod_struct3 Try.underlying39 h
  simp only [cells3, cellsR, List.drop_zero, List.drop_succ_cons, List.take_succ_cons, List.take_zero] at t0 t1 t2
  obtain ⟨z0, z1, m', _, _, u0, u1⟩ := trod_struct2 Try.underlying23 t1
  simp only [cells3, List.drop_zero, List.drop_succ_cons, List.take_succ_cons, List.take_zero] at u0 u1
  obtain ⟨k0, e0, _, w0⟩ := DataW.trod_int Try.underlying3 t0
  obtain ⟨k1, e1, _, w1⟩ := DataW.trod_int Try.underlying3 u0
  obtain ⟨k2, e2, _, w2⟩ := DataW.trod_int Try.underlying3 u1
  obtain ⟨k3, e3, _, w3⟩ := DataW.trod_int Try.underlying3 t2
  simp at e0 e1 e2 e3
  exact ⟨k0, k1, k2, k3, e0, e1, e2, e3, w0, w1, w2, w3⟩
set_option maxRecDepth 100000 in
theorem trod_struct10 {P : Program} {w : World} {base : Nat} {spare : Nat → Bool} {held : Bool} {t : TypeId} {f0 f1 f2 f3 f4 f5 f6 f7 f8 f9 : Field} {fuel : Nat} {cs : List Value} {x : DataW H × List MemPlace} (ht : P.underlying t = some (.struct #[f0, f1, f2, f3, f4, f5, f6, f7, f8, f9])) (h : DataW.trod enc P w base spare held fuel t cs = some x) :
    ∃ y0 y1 y2 y3 y4 y5 y6 y7 y8 y9 n, x.1 = .agg [y0.1, y1.1, y2.1, y3.1, y4.1, y5.1, y6.1, y7.1, y8.1, y9.1] ∧ DataW.trod enc P w base spare held n f0.type ((cs.drop f0.offset).take (P.cellsOf f0.type)) = some y0 ∧ DataW.trod enc P w base spare held n f1.type ((cs.drop f1.offset).take (P.cellsOf f1.type)) = some y1 ∧ DataW.trod enc P w base spare held n f2.type ((cs.drop f2.offset).take (P.cellsOf f2.type)) = some y2 ∧ DataW.trod enc P w base spare held n f3.type ((cs.drop f3.offset).take (P.cellsOf f3.type)) = some y3 ∧ DataW.trod enc P w base spare held n f4.type ((cs.drop f4.offset).take (P.cellsOf f4.type)) = some y4 ∧ DataW.trod enc P w base spare held n f5.type ((cs.drop f5.offset).take (P.cellsOf f5.type)) = some y5 ∧ DataW.trod enc P w base spare held n f6.type ((cs.drop f6.offset).take (P.cellsOf f6.type)) = some y6 ∧ DataW.trod enc P w base spare held n f7.type ((cs.drop f7.offset).take (P.cellsOf f7.type)) = some y7 ∧ DataW.trod enc P w base spare held n f8.type ((cs.drop f8.offset).take (P.cellsOf f8.type)) = some y8 ∧ DataW.trod enc P w base spare held n f9.type ((cs.drop f9.offset).take (P.cellsOf f9.type)) = some y9 := by
  obtain ⟨xs, n, _, rfl, hl, hlen, hf⟩ := DataW.trod_struct ht h
  match xs, hlen with
  | [y0, y1, y2, y3, y4, y5, y6, y7, y8, y9], _ => exact ⟨y0, y1, y2, y3, y4, y5, y6, y7, y8, y9, n, rfl, by simpa using hf 0 f0 rfl, by simpa using hf 1 f1 rfl, by simpa using hf 2 f2 rfl, by simpa using hf 3 f3 rfl, by simpa using hf 4 f4 rfl, by simpa using hf 5 f5 rfl, by simpa using hf 6 f6 rfl, by simpa using hf 7 f7 rfl, by simpa using hf 8 f8 rfl, by simpa using hf 9 f9 rfl⟩

/-- A message's cells: its numbers, and its body; and how the body is told. -/
theorem msg_cells {n : Nat} {c0 c1 c2 c3 c4 c5 c6 c7 c8 c9 c10 c11 c12 : Value} {x : DataW H × List MemPlace} (h : DataW.trod enc Try.prog W 0 (fun _ => true) true n 42 [c0, c1, c2, c3, c4, c5, c6, c7, c8, c9, c10, c11, c12] = some x) :
    ∃ (k o lf i p ps g : Int) (s : Bool) (st rs rr sq : Int) (l : List Int), (c0 = .int .i64 k ∧ c1 = .int .i64 o ∧ c2 = .int .i64 lf ∧ c3 = .int .i64 i ∧ c4 = .int .i64 p ∧ c5 = .int .i64 ps ∧ c6 = .int .i64 g ∧ c7 = .bool s ∧ c8 = .int .i64 st ∧ c9 = .int .i64 rs ∧ c10 = .int .i64 rr ∧ c11 = .int .i64 sq) ∧ Sl W c12 l ∧ ((-9223372036854775808 ≤ k ∧ k ≤ 9223372036854775807) ∧ (-9223372036854775808 ≤ o ∧ o ≤ 9223372036854775807) ∧ (-9223372036854775808 ≤ lf ∧ lf ≤ 9223372036854775807) ∧ (-9223372036854775808 ≤ i ∧ i ≤ 9223372036854775807) ∧ (-9223372036854775808 ≤ p ∧ p ≤ 9223372036854775807) ∧ (-9223372036854775808 ≤ ps ∧ ps ≤ 9223372036854775807) ∧ (-9223372036854775808 ≤ g ∧ g ≤ 9223372036854775807) ∧ (-9223372036854775808 ≤ st ∧ st ≤ 9223372036854775807) ∧ (-9223372036854775808 ≤ rs ∧ rs ≤ 9223372036854775807) ∧ (-9223372036854775808 ≤ rr ∧ rr ≤ 9223372036854775807) ∧ (-9223372036854775808 ≤ sq ∧ sq ≤ 9223372036854775807)) ∧
      ∃ parts d, x.1 = .agg parts ∧ parts[9]? = some d ∧ ((d = .nil ∧ l = []) ∨ ∃ e s, d = .slice e s ∧ e.length = l.length) := by
  obtain ⟨y0, y1, y2, y3, y4, y5, y6, y7, y8, y9, m, hx, t0, t1, t2, t3, t4, t5, t6, t7, t8, t9⟩ := trod_struct10 Try.underlying42 h
  simp only [cells3, cells4, cellsK, cellsB, List.drop_zero, List.drop_succ_cons, List.take_succ_cons, List.take_zero] at t0 t1 t2 t3 t4 t5 t6 t7 t8 t9
  obtain ⟨k0, e0, _, w0⟩ := DataW.trod_int Try.underlying3 t0
  obtain ⟨k1, e1, _, w1⟩ := DataW.trod_int Try.underlying3 t1
  obtain ⟨k2, e2, _, w2⟩ := DataW.trod_int Try.underlying3 t2
  obtain ⟨k3, e3, _, w3⟩ := DataW.trod_int Try.underlying3 t3
  obtain ⟨k4, e4, _, w4⟩ := DataW.trod_int Try.underlying3 t4
  obtain ⟨k5, e5, _, w5⟩ := DataW.trod_int Try.underlying3 t5
  obtain ⟨k6, e6, _, w6⟩ := DataW.trod_int Try.underlying3 t6
  obtain ⟨b7, e7, _⟩ := DataW.trod_bool Try.underlying4 t7
  obtain ⟨k8, k9, k10, k11, e8, e9, e10, e11, w8, w9, w10, w11⟩ := key_cells t8
  obtain ⟨l, hs, hd⟩ := sl_of_trod t9
  simp at e0 e1 e2 e3 e4 e5 e6 e7
  refine ⟨k0, k1, k2, k3, k4, k5, k6, b7, k8, k9, k10, k11, l, ⟨e0, e1, e2, e3, e4, e5, e6, e7, e8, e9, e10, e11⟩, hs, ⟨i64_of_wf w0, i64_of_wf w1, i64_of_wf w2, i64_of_wf w3, i64_of_wf w4, i64_of_wf w5, i64_of_wf w6, i64_of_wf w8, i64_of_wf w9, i64_of_wf w10, i64_of_wf w11⟩, _, y9.1, hx, rfl, hd⟩
set_option maxRecDepth 100000 in
theorem array13 {α : Type} {cs : Array α} (h : cs.size = 13) : ∃ c0 c1 c2 c3 c4 c5 c6 c7 c8 c9 c10 c11 c12, cs = #[c0, c1, c2, c3, c4, c5, c6, c7, c8, c9, c10, c11, c12] := by
  obtain ⟨l⟩ := cs
  match l, h with
  | [c0, c1, c2, c3, c4, c5, c6, c7, c8, c9, c10, c11, c12], _ => exact ⟨c0, c1, c2, c3, c4, c5, c6, c7, c8, c9, c10, c11, c12, rfl⟩
theorem weights_agg (P : Program) {t : TypeId} {fs : Array Field} (hu : P.underlying t = some (.struct fs)) (parts : List (DataW H)) : (DataW.agg parts).weights P t = DataW.weightsEach P (fs.toList.map (·.type)) parts := by
  rw [DataW.weights, hu]
set_option maxRecDepth 100000 in
theorem open_msg {r : Reach} {base : Nat} {v : Value} {d : DataW H} {p : List MemPlace} (hv : Value.okWide Try.prog W r base 42 v) (h : DataW.Trod enc Try.prog W 0 (fun _ => true) true 42 v d p) :
    ∃ (k o lf i pt ps g : Int) (s : Bool) (st rs rr sq : Int) (ao : Option Addr) (cap : Nat) (l : List Int), v = .agg #[.int .i64 k, .int .i64 o, .int .i64 lf, .int .i64 i, .int .i64 pt, .int .i64 ps, .int .i64 g, .bool s, .int .i64 st, .int .i64 rs, .int .i64 rr, .int .i64 sq, .slice ao l.length cap] ∧ Sl W (.slice ao l.length cap) l ∧
      ((-9223372036854775808 ≤ k ∧ k ≤ 9223372036854775807) ∧ (-9223372036854775808 ≤ o ∧ o ≤ 9223372036854775807) ∧ (-9223372036854775808 ≤ lf ∧ lf ≤ 9223372036854775807) ∧ (-9223372036854775808 ≤ i ∧ i ≤ 9223372036854775807) ∧ (-9223372036854775808 ≤ pt ∧ pt ≤ 9223372036854775807) ∧ (-9223372036854775808 ≤ ps ∧ ps ≤ 9223372036854775807) ∧ (-9223372036854775808 ≤ g ∧ g ≤ 9223372036854775807) ∧ (-9223372036854775808 ≤ st ∧ st ≤ 9223372036854775807) ∧ (-9223372036854775808 ≤ rs ∧ rs ≤ 9223372036854775807) ∧ (-9223372036854775808 ≤ rr ∧ rr ≤ 9223372036854775807) ∧ (-9223372036854775808 ≤ sq ∧ sq ≤ 9223372036854775807)) ∧ (∀ B, (d.weights Try.prog 42).all (· ≤ B) = true → l.length ≤ B) := by
  obtain ⟨cs, rfl, hsz⟩ := okWide_struct Try.underlying42 hv
  obtain ⟨c0, c1, c2, c3, c4, c5, c6, c7, c8, c9, c10, c11, c12, rfl⟩ := array13 (hsz.trans cellsM)
  obtain ⟨fuel, hf⟩ := h
  obtain ⟨k, o, lf, i, pt, ps, g, s, st, rs, rr, sq, l, ⟨rfl, rfl, rfl, rfl, rfl, rfl, rfl, rfl, rfl, rfl, rfl, rfl⟩, hs, hr, parts, d9, hd, h9, hb⟩ := msg_cells (by simpa [Value.cells] using hf)
  obtain ⟨ao, cap, rfl, _⟩ := hs.form
  refine ⟨k, o, lf, i, pt, ps, g, s, st, rs, rr, sq, ao, cap, l, rfl, hs, hr, fun B hB => ?_⟩
  simp only at hd
  subst hd
  rcases hb with ⟨_, rfl⟩ | ⟨e, s', rfl, he⟩
  · simp
  · rw [weights_agg Try.prog Try.underlying42] at hB
    have := List.all_eq_true.1 hB _ (DataW.weights_mem_each (t := 40) (j := 9) rfl h9 ((e.length + s'.length) * Try.prog.bytesOf 5) (by simp [DataW.weights, Try.underlying40]))
    rw [bytes5] at this
    simp at this
    omega
/-- A slice of ints that came in. -/
structure Si (w : World) (v : Value) (l : List Int) : Prop where
  form : ∃ ao cap, v = .slice ao l.length cap ∧ l.length ≤ cap ∧ cap ≤ maxLen ∧ (ao = none → cap = 0) ∧
    (l ≠ [] → ∃ b off, ao = some ⟨b, off, none⟩ ∧ ∀ j, j < l.length → w.cell? ⟨b, off + j, none⟩ = some (.int .i64 (l.getD j 0)))
  rng : ∀ n ∈ l, I64 n
theorem Si.mod {w w' : World} {v : Value} {l : List Int} (h : Si w v l) (hm : Mod (fun _ => False) w w') : Si w' v l := by
  obtain ⟨ao, cap, rfl, h1, h2, h3, h4⟩ := h.form
  refine ⟨⟨ao, cap, rfl, h1, h2, h3, fun hl => ?_⟩, h.rng⟩
  obtain ⟨b, off, rfl, hc⟩ := h4 hl
  exact ⟨b, off, rfl, fun j hj => hm.cell (hc j hj) (fun h => h)⟩
section
variable {H : Type} {enc : TypeId × Value → H} {W : World}
theorem cellsInt : Try.prog.cellsOf 3 = 1 := by kernel_rfl
theorem open_l {v : Value} {d : DataW H} {p : List MemPlace} (h : DataW.Trod enc Try.prog W 0 (fun _ => true) true 55 v d p) (hv : ∃ ao len cap, v = .slice ao len cap) : ∃ l, Si W v l := by
  obtain ⟨ao0, len0, cap0, rfl⟩ := hv
  obtain ⟨fuel, hf⟩ := h
  rcases open_ints Try.underlying55 Try.underlying3 cellsInt hf with ⟨hcs, _⟩ | ⟨a, len, cap, zs, hcs, _, hl, hm, hz, _, hcell, hwz⟩
  · simp [Value.cells] at hcs
    obtain ⟨rfl, rfl, rfl⟩ := hcs
    exact ⟨[], ⟨⟨none, 0, rfl, Nat.le_refl _, by simp [maxLen], fun _ => rfl, fun h => absurd rfl h⟩, by simp⟩⟩
  · simp [Value.cells] at hcs
    obtain ⟨rfl, rfl, rfl⟩ := hcs
    simp only [if_true] at hz
    have hlen : (zs.take len0).length = len0 := by simp; omega
    refine ⟨zs.take len0, ⟨⟨some a, cap0, by rw [hlen], by omega, hm, (by intro h; cases h), fun hne => ?_⟩, fun n hn => ?_⟩⟩
    · have h0 : 0 < len0 := by
        rcases Nat.eq_zero_or_pos len0 with h | h
        · subst h; simp at hne
        · exact h
      obtain ⟨b, off, spot⟩ := a
      have hc0 := hcell 0 (by omega)
      have hspot : spot = none := by simpa [Addr.add] using World.cell?_spot hc0
      subst hspot
      refine ⟨b, off, rfl, fun j hj => ?_⟩
      rw [hlen] at hj
      have := hcell j (by omega)
      rw [add_at] at this
      rw [this]
      simp [hj]
    · have := hwz n (List.mem_of_mem_take hn)
      exact i64_of_wf this
end
end Go.Proofs.Ytampdkbcijdpcaa
