/- QueueKnown: the chapter's examples, queues that are none. No conditions. -/
import Derived.Test.YtcedlpjjldmpfaaQh
import Derived.Test.YtcedlpjjldmpfaaQi
import Derived.Test.YtcedlpjjldmpfaaRows
import Derived.ProofKit
import Derived.OpenShut
import Derived.Deep.Slices
import Derived.Deep.Strs
import Derived.Lib.SmallJoins
import Derived.SizedLaws
namespace Go.Proofs.Ytcedlpjjldmpfaa
open Go.RowKit
/-- append of messages under a guard that holds. -/
theorem wpList_appM2 {ops : Array Oper} {rest : List Oper} {o : Oper} {a : Act} {w : World} {Q : Exit → Act → World → Prop} (hw : Region.wanted o (yielded ops a.tmps) = true) (s x : Operand) (ho : o.op = .call { callee := .builtin .append, args := #[s, x], argTypes := #[27, 27] })
    (v u : Value) (ds es : List (Ms × Value)) (hs : a.eval s = v) (hx : a.eval x = u) (hv : RM w v ds) (hu : Sc w u es) (hb : (ds.length + es.length) * 120 ≤ 140737488355328) (n : Nat) (hn : n = ds.length + es.length)
    (h : ∀ ax cx w', RM w' (.slice ax n cx) (ds ++ es) → Mod (fun k => v.ownBlock = some k) w w' → Fr w v (.slice ax n cx) → wpList Try.prog ops Q rest (a.put o.dst (.slice ax n cx)) w') : wpList Try.prog ops Q (o :: rest) a w := by
  refine wpList_step fun K hK => ?_
  rw [if_pos hw]
  obtain ⟨ax, cx, w', hrun, h1, h2, h3⟩ := run_appM w v u ds es hv hu hb n hn o.type
  unfold Oper.wp execOp
  simp only [ho, resolve, invoke, builtin, Sem.run_bind, Sem.run_pure, Result.andThen_ok, List.map_toArray, List.map_cons, List.map_nil, hs, hx, hrun]
  exact hK _ _ (h ax cx w' h1 h2 h3)
/-- A queue that is none. -/
def Nq (w : World) (v : Value) : Prop := v = .pointer none ∨ ∃ p, v = .pointer (some ⟨p, 0, none⟩) ∧ w.cell? ⟨p, 0, none⟩ = some (.bool false)
theorem Nq.mod {w w' : World} {v : Value} (h : Nq w v) (hm : Mod (fun _ => False) w w') : Nq w' v := by
  rcases h with h | ⟨p, h1, h2⟩
  · exact .inl h
  · exact .inr ⟨p, h1, hm.cell h2 (fun h => h)⟩
theorem isNone_none {w : World} {v : Value} (h : Nq w v) : Calls Try.prog 25 #[v] w fun e w' => e = .returned (.bool true) ∧ w' = w := by
  rcases h with rfl | ⟨p, rfl, h2⟩
  · go_enter Try.func25, Try.ntmps25
    go_wp2
    go_ret
    exact ⟨rfl, rfl⟩
  · go_enter Try.func25, Try.ntmps25
    go_wp2
    go_ret
    exact ⟨rfl, rfl⟩
theorem Len_none {w : World} {v : Value} (h : Nq w v) : Calls Try.prog 16 #[v] w fun e w' => e = .returned (.int .i64 0) ∧ w' = w := by
  have HN := isNone_none h
  clear h
  go_enter Try.func16, Try.ntmps16
  go_wp2_with (fail)
  refine HN.mono ?_
  rintro e w1 ⟨rfl, rfl⟩
  go_wp2
  go_ret
  exact ⟨rfl, rfl⟩
theorem Room_none {w : World} {v : Value} (h : Nq w v) : Calls Try.prog 18 #[v] w fun e w' => e = .returned (.int .i64 0) ∧ w' = w := by
  have HN := isNone_none h
  clear h
  go_enter Try.func18, Try.ntmps18
  go_wp2_with (fail)
  refine HN.mono ?_
  rintro e w1 ⟨rfl, rfl⟩
  go_wp2
  go_ret
  exact ⟨rfl, rfl⟩
theorem Put_none {w : World} {v : Value} (u : Value) (h : Nq w v) : Calls Try.prog 10 #[v, u] w fun e w' => e = .returned (.int .i64 1) ∧ w' = w := by
  have HN := isNone_none h
  clear h
  go_enter Try.func10, Try.ntmps10
  go_wp2_with (fail)
  refine HN.mono ?_
  rintro e w1 ⟨rfl, rfl⟩
  go_wp2
  go_ret
  exact ⟨rfl, rfl⟩
theorem Take_none {w : World} {v : Value} (h : Nq w v) : Calls Try.prog 14 #[v] w fun e w' => e = .returned (.tuple #[.agg #[.int .i64 0, .int .i64 0, .int .i64 0, .int .i64 0, .int .i64 0, .int .i64 0, .int .i64 0, .bool false, .int .i64 0, .int .i64 0, .int .i64 0, .int .i64 0, .slice none 0 0], .int .i64 1]) ∧ Mod (fun _ => False) w w' := by
  have hA := (Mod.refl (fun _ => False) w).alloc (.cells #[.int .i64 0, .int .i64 0, .int .i64 0, .int .i64 0, .int .i64 0, .int .i64 0, .int .i64 0, .bool false, .int .i64 0, .int .i64 0, .int .i64 0, .int .i64 0, .slice none 0 0] 40)
  have hN := Bk.new w #[.int .i64 0, .int .i64 0, .int .i64 0, .int .i64 0, .int .i64 0, .int .i64 0, .int .i64 0, .bool false, .int .i64 0, .int .i64 0, .int .i64 0, .int .i64 0, .slice none 0 0] 40
  have HN := isNone_none (h.mod hA)
  clear h
  go_enter Try.func14, Try.ntmps14
  go_wp2_with (fail)
  refine HN.mono ?_
  rintro e w1 ⟨rfl, rfl⟩
  go_wp2_with (refine wpList_store_row sizeM13 rfl rfl _ _ rfl (w.heap.size) #[.int .i64 0, .int .i64 0, .int .i64 0, .int .i64 0, .int .i64 0, .int .i64 0, .int .i64 0, .bool false, .int .i64 0, .int .i64 0, .int .i64 0, .int .i64 0, .slice none 0 0] rfl rfl hN rfl rfl rfl ?_; intro wF hBF hMF)
  exact bodyPost_ret (resTk rfl rfl rfl hBF rfl) rfl ⟨rfl, hA.trans hMF (fun _ _ h => h) (fun b hb e => by omega)⟩
/-- Two messages, in a row that was just laid. -/
theorem Mgs.lit2 (w : World) (m n : Ms) (v u : Value) (hv : Sl w v m.body) (hu : Sl w u n.body) (hl : m.body.length ≤ 140737488355328) (hk : n.body.length ≤ 140737488355328) : Mgs (w.alloc (.cells (mcl m v ++ mcl n u).toArray 40)) (.slice (some ⟨w.heap.size, 0, none⟩) 2 2) [(m, v), (n, u)] := by
  refine ⟨⟨some ⟨w.heap.size, 0, none⟩, 2, rfl, by simp, fun _ => ⟨w.heap.size, 0, rfl, fun i d hd => ?_⟩⟩, fun d hd => ?_⟩
  · refine (Bk.new w (mcl m v ++ mcl n u).toArray 40).range _ _ fun j c hj => ?_
    have := fm_get [(m, v), (n, u)] i d hd j c hj
    simp only [fm, List.append_nil] at this
    rw [Nat.zero_add]
    simpa using this
  · simp only [List.mem_cons, List.not_mem_nil, or_false] at hd
    rcases hd with rfl | rfl
    · exact ⟨hv.mod ((Mod.refl (fun _ => False) w).alloc _) (fun _ _ h => h), hl⟩
    · exact ⟨hu.mod ((Mod.refl (fun _ => False) w).alloc _) (fun _ _ h => h), hk⟩
theorem Mgs.none (w : World) : Mgs w (.slice none 0 0) [] := ⟨⟨_, 0, rfl, by simp, fun h => absurd rfl h⟩, by simp⟩
theorem infoQ0 : (Try.prog.info? 53).map (fun i => match i.zero with | some (.agg cs) => cs[0]? | _ => none) = some (some (.bool false)) := by kernel_rfl
theorem bdQ0 : ∃ xs : Array Value, xs[0]? = some (.bool false) ∧ ∀ {oq : Oper} {w : World} {ρ : Operand → Value}, oq.op = .build 53 #[] → (execOp ρ oq).run Try.prog w = .ok (.value (.agg xs)) w := by
  obtain ⟨i, cs, hi, hz, _, h1, h2, h3⟩ := infoQs
  have hc : cs[0]? = some (.bool false) := by
    have := infoQ0
    rw [hi] at this
    simp only [Option.map_some, hz, Option.some.injEq] at this
    exact this
  refine ⟨cs, hc, ?_⟩
  intro oq w ρ ho
  simp [execOp, ho, Instr.build, zeroValue, typeInfo, hi, hz, Instr.fill, go_sem]
theorem tms_cons (i : Nat) : tms i 32 = tm i :: tms (i + 1) 31 := by
  unfold tms
  rw [List.range_succ_eq_map, List.map_cons, List.map_map, Nat.add_zero]
  congr 1
theorem tms_snoc (i : Nat) : tms i 31 ++ [tm (31 + i)] = tms i 32 := by
  unfold tms
  have e : List.range 32 = List.range 31 ++ [31] := List.range_succ
  rw [e, List.map_append, List.map_cons, List.map_nil, Nat.add_comm 31 i]
theorem zchk : chk ⟨0, 0, 0, 0, 0, 0, 0, false, 0, 0, 0, 0, []⟩ ≠ 0 := by decide +kernel
theorem text1 (w : World) : Calls Try.prog 22 #[.int .i64 1] w fun e w' => ∃ b, e = .returned (.agg #[.int .i64 1, .int .i64 2, .int .i64 1, .int .i64 1, .int .i64 0, .int .i64 1, .int .i64 1, .bool false, .int .i64 0, .int .i64 0, .int .i64 0, .int .i64 0, .slice (some ⟨b, 0, none⟩) 1 1]) ∧ Own w' (.slice (some ⟨b, 0, none⟩) 1 1) [1] ∧ w.heap.size ≤ b ∧ Mod (fun _ => False) w w' := text_any 1 w (by decide)
theorem text9 (w : World) : Calls Try.prog 22 #[.int .i64 9] w fun e w' => ∃ b, e = .returned (.agg #[.int .i64 1, .int .i64 2, .int .i64 1, .int .i64 9, .int .i64 0, .int .i64 1, .int .i64 1, .bool false, .int .i64 0, .int .i64 0, .int .i64 0, .int .i64 0, .slice (some ⟨b, 0, none⟩) 1 1]) ∧ Own w' (.slice (some ⟨b, 0, none⟩) 1 1) [9] ∧ w.heap.size ≤ b ∧ Mod (fun _ => False) w w' := text_any 9 w (by decide)
set_option maxRecDepth 100000 in
set_option maxHeartbeats 8000000 in
theorem known_walk (w : World) : Calls Try.prog 6 #[] w fun e w' => e = .returned (.bool true) ∧ Mod (fun _ => False) w w' := by
  go_enter Try.func6, Try.ntmps6
  go_wp2_with (fail)
  refine (qNew w).mono ?_
  rintro e w1 ⟨q, X1, rfl, hQ1, hm1, hX1⟩
  have hqw : w.heap.size ≤ q := hX1 _ hQ1.inX
  clear hX1
  go_wp2_with (fail)
  refine (Take_empty hQ1).mono ?_
  rintro e w2 ⟨rfl, hm2⟩
  have hA2 := (Mod.refl (fun _ => False) w2).alloc (.cells #[.int .i64 0, .int .i64 0, .int .i64 0, .int .i64 0, .int .i64 0, .int .i64 0, .int .i64 0, .bool false, .int .i64 0, .int .i64 0, .int .i64 0, .int .i64 0, .slice none 0 0] 40)
  have hM2 := (hm1.trans hm2 (V := fun _ => False) (fun _ _ h => h) (fun _ _ h => h)).trans hA2 (V := fun _ => False) (fun _ _ h => h) (fun _ _ h => h)
  have hQ2 := (hQ1.mod hm2 (fun _ _ h => h)).mod hA2 (fun _ _ h => h)
  clear hQ1 hm1 hm2 hA2
  go_wp2_with (fail)
  generalize w2.alloc (.cells #[.int .i64 0, .int .i64 0, .int .i64 0, .int .i64 0, .int .i64 0, .int .i64 0, .int .i64 0, .bool false, .int .i64 0, .int .i64 0, .int .i64 0, .int .i64 0, .slice none 0 0] 40) = w2 at *
  refine (text1 w2).mono ?_
  rintro e w3 ⟨b3, rfl, ho3, hb3, hm3⟩
  have hQ3 := hQ2.mod hm3 (fun _ _ h => h)
  have hM3 := hM2.trans hm3 (V := fun _ => False) (fun _ _ h => h) (fun _ _ h => h)
  have hL3 := Mgs.lit2 w3 ⟨1, 2, 1, 1, 0, 1, 1, false, 0, 0, 0, 0, [1]⟩ ⟨0, 0, 0, 0, 0, 0, 0, false, 0, 0, 0, 0, []⟩ (.slice (some ⟨b3, 0, none⟩) 1 1) (.slice none 0 0) (ho3.sl (by simp)) ((Own.nil w3).sl (by simp)) (by simp) (by simp)
  have hA3 := (Mod.refl (fun _ => False) w3).alloc (.cells (mcl ⟨1, 2, 1, 1, 0, 1, 1, false, 0, 0, 0, 0, [1]⟩ (.slice (some ⟨b3, 0, none⟩) 1 1) ++ mcl ⟨0, 0, 0, 0, 0, 0, 0, false, 0, 0, 0, 0, []⟩ (.slice none 0 0)).toArray 40)
  simp only [mcl, List.cons_append, List.nil_append] at hL3 hA3
  have HP3 := Put_bad (hQ3.mod hA3 (fun _ _ h => h)) _ _ hL3 (bd_at (j := 1) rfl zchk)
  have hQ3a := hQ3.mod hA3 (fun _ _ h => h)
  have hM3a := hM3.trans hA3 (V := fun _ => False) (fun _ _ h => h) (fun _ _ h => h)
  clear hL3 hQ2 hM2 hm3 ho3 hb3 hQ3 hM3 hA3
  go_wp2_with (fail)
  refine HP3.mono ?_
  rintro e w4 ⟨rfl, hm4⟩
  have hQ4 := hQ3a.mod hm4 (fun _ _ h => h)
  have hM4 := hM3a.trans hm4 (V := fun _ => False) (fun _ _ h => h) (fun _ _ h => h)
  clear HP3 hQ3a hM3a hm4
  go_wp2_with (fail)
  refine (texts_any 0 40 w4 (by decide)).mono ?_
  rintro e w5 ⟨v5, ds5, rfl, hR5, hm5⟩
  have hQ5 := hQ4.mod hm5 (fun _ _ h => h)
  have hM5 := hM4.trans hm5 (V := fun _ => False) (fun _ _ h => h) (fun _ _ h => h)
  have hl5 : ds5.length = 40 := by rw [hR5.len]; simp
  have hsc := Sc.lit w5 ⟨0, 0, 0, 0, 0, 0, 0, false, 0, 0, 0, 0, []⟩ (.slice none 0 0) rfl
  have hA5 := (Mod.refl (fun _ => False) w5).alloc (.cells (mcl ⟨0, 0, 0, 0, 0, 0, 0, false, 0, 0, 0, 0, []⟩ (.slice none 0 0)).toArray 40)
  simp only [mcl] at hsc hA5
  have hrw := hR5.row.mod hA5 (fun _ _ h => h)
  have hQ5a := hQ5.mod hA5 (fun _ _ h => h)
  have hM5a := hM5.trans hA5 (V := fun _ => False) (fun _ _ h => h) (fun _ _ h => h)
  obtain ⟨a5, c5, e5⟩ := hR5.row.shape
  rw [hl5] at e5
  subst e5
  have HR5 : Hid (Rn w5 w4.heap.size (.slice a5 40 c5) (tms 0 40) ds5) := hR5
  have HL5 : Hid (ds5.length = 40) := hl5
  have hS5 : w4.heap.size ≤ w5.heap.size := hm5.size
  have hM4s := hM4.size
  clear hQ4 hM4 hm5 hQ5 hM5 hl5 hR5
  have HA5 : Hid (Mod (fun _ => False) w5 _) := hA5
  clear hA5
  go_wp2_with (refine wpList_appM2 rfl _ _ rfl (.slice a5 40 c5) (.slice (some ⟨w5.heap.size, 0, none⟩) 1 1) ds5 [(⟨0, 0, 0, 0, 0, 0, 0, false, 0, 0, 0, 0, []⟩, .slice none 0 0)] rfl rfl hrw hsc (by rw [HL5.out]; decide) 41 (by rw [HL5.out]; rfl) ?_; intro ax cx w6 hr6 hm6 hf6; simp only [Act.put, List.setIfInBounds_toArray, List.set_cons_succ, List.set_cons_zero])
  have hne6 : ∀ b, (Value.slice a5 40 c5).ownBlock = some b → b ≠ q ∧ ∀ cur, (w5.alloc (.cells #[.int .i64 0, .int .i64 0, .int .i64 0, .int .i64 0, .int .i64 0, .int .i64 0, .int .i64 0, .bool false, .int .i64 0, .int .i64 0, .int .i64 0, .int .i64 0, .slice none 0 0] 40)).heap[b]? ≠ some (.cells cur 5 (0, 0)) := fun b hb => by
    obtain ⟨c6, hc6⟩ := hrw.kind hb
    refine ⟨fun e => ?_, fun cur hcur => ?_⟩
    · obtain ⟨cq, hk⟩ := hQ5a.kind
      rw [← e, hc6] at hk
      simp at hk
    · rw [hc6] at hcur
      simp at hcur
  have hQ6 := hQ5a.modK hm6 hne6
  have hM6 : Mod (fun _ => False) w w6 := hM5a.trans hm6 (fun _ _ h => h) (fun b hb e => by have := HR5.out.new b e; omega)
  have hG6 : Mgs w6 (.slice ax 41 cx) (ds5 ++ [(⟨0, 0, 0, 0, 0, 0, 0, false, 0, 0, 0, 0, []⟩, .slice none 0 0)]) := by
    refine hr6.mgs (by rw [List.length_append, HL5.out]; decide) fun d hd => ?_
    rcases List.mem_append.1 hd with hd | hd
    · obtain ⟨a1, a2, a3⟩ := HR5.out.each d hd
      have a1W := a1.mod HA5.out (fun _ _ h => h)
      refine ⟨(a1W.mod hm6 (fun g hg e => hrw.own_ne a1W hg e)).sl a2, tms_body 0 40 d.1 (by rw [← HR5.out.ms]; exact List.mem_map_of_mem hd)⟩
    · rw [List.mem_singleton] at hd
      subst hd
      exact ⟨(Own.nil w6).sl (by simp), by simp⟩
  have HP6 := Put_bad hQ6 _ _ hG6 (bd_at (j := 40) (by rw [List.getElem?_append_right (by rw [HL5.out]; decide), HL5.out]; rfl) zchk)
  clear hne6 hG6 hr6 hm6 hf6 hrw hsc hQ5a hM5a HR5 HL5 hS5 hM4s HA5
  refine HP6.mono ?_
  rintro e w7 ⟨rfl, hm7⟩
  have hQ7 := hQ6.mod hm7 (fun _ _ h => h)
  have hM7 := hM6.trans hm7 (V := fun _ => False) (fun _ _ h => h) (fun _ _ h => h)
  clear HP6 hQ6 hM6 hm7
  go_wp2_with (fail)
  refine (texts_any 0 33 w7 (by decide)).mono ?_
  rintro e w8 ⟨v8, ds8, rfl, hR8, hm8⟩
  have hQ8 := hQ7.mod hm8 (fun _ _ h => h)
  have hM8 := hM7.trans hm8 (V := fun _ => False) (fun _ _ h => h) (fun _ _ h => h)
  clear hQ7 hM7 hm8
  go_wp2_with (fail)
  refine (Put_texts_full hQ8 0 33 (by decide) hR8 (by decide)).mono ?_
  rintro e w9 ⟨rfl, hm9⟩
  have hQ9 := hQ8.mod hm9 (fun _ _ h => h)
  have hM9 := hM8.trans hm9 (V := fun _ => False) (fun _ _ h => h) (fun _ _ h => h)
  have HLn := Len_q hQ9
  have HRm := Room_q hQ9
  simp only [List.length_nil] at HLn HRm
  have e00 : ((0 : Nat) : Int) = 0 := rfl
  rw [e00] at HLn HRm
  clear hQ8 hM8 hm9 hR8
  go_wp2_with (fail)
  refine HLn.mono ?_
  rintro e w9 ⟨rfl, rfl⟩
  go_wp2_with (fail)
  refine HRm.mono ?_
  rintro e w9 ⟨rfl, rfl⟩
  clear HLn HRm
  go_wp2_with (fail)
  refine (Put_ok hQ9 (.slice none 0 0) [] (Mgs.none w9) rfl (by decide) ⟨fun h => absurd rfl h, by simp⟩).mono ?_
  rintro e w10 ⟨rfl, ⟨X10, hQ10, _⟩, hm10⟩
  have hM10 : Mod (fun _ => False) w w10 := hM9.trans hm10 (fun _ _ h => h) (fun b hb e => by omega)
  clear hQ9 hM9 hm10
  go_wp2_with (fail)
  refine (texts_any 0 32 w10 (by decide)).mono ?_
  rintro e w11 ⟨v11, ds11, rfl, hR11, hm11⟩
  have hQ11 := hQ10.mod hm11 (fun _ _ h => h)
  have hM11 := hM10.trans hm11 (V := fun _ => False) (fun _ _ h => h) (fun _ _ h => h)
  have hlt := hQ10.lt
  clear hQ10 hM10 hm11
  go_wp2_with (fail)
  refine (Put_texts hQ11 0 32 (by decide) hR11 hlt (by decide)).mono ?_
  rintro e w12 ⟨rfl, ⟨X12, hQ12, _⟩, hm12⟩
  have hM12 : Mod (fun _ => False) w w12 := hM11.trans hm12 (fun _ _ h => h) (fun b hb e => by omega)
  have eL : [] ++ List.map (fun x => x.fst) ([] : List (Ms × Value)) ++ tms 0 32 = tms 0 32 := rfl
  rw [eL] at hQ12
  clear hQ11 hM11 hm12 hR11 hlt eL
  go_wp2_with (fail)
  refine (Put_ok hQ12 (.slice none 0 0) [] (Mgs.none w12) rfl (by rw [tms_len]; decide) ⟨fun h => absurd rfl h, by simp⟩).mono ?_
  rintro e w13 ⟨rfl, ⟨X13, hQ13, _⟩, hm13⟩
  have hM13 : Mod (fun _ => False) w w13 := hM12.trans hm13 (fun _ _ h => h) (fun b hb e => by omega)
  rw [List.map_nil, List.append_nil] at hQ13
  clear hQ12 hM12 hm13
  go_wp2_with (fail)
  refine (text9 w13).mono ?_
  rintro e w14 ⟨b14, rfl, ho14, hb14, hm14⟩
  have hQ14 := hQ13.mod hm14 (fun _ _ h => h)
  have hM14 := hM13.trans hm14 (V := fun _ => False) (fun _ _ h => h) (fun _ _ h => h)
  have hL14 := Mgs.lit w14 ⟨1, 2, 1, 9, 0, 1, 1, false, 0, 0, 0, 0, [9]⟩ (.slice (some ⟨b14, 0, none⟩) 1 1) (ho14.sl (by simp)) (by simp)
  have hA14 := (Mod.refl (fun _ => False) w14).alloc (.cells (mcl ⟨1, 2, 1, 9, 0, 1, 1, false, 0, 0, 0, 0, [9]⟩ (.slice (some ⟨b14, 0, none⟩) 1 1)).toArray 40)
  simp only [mcl] at hL14 hA14
  have HP14 := Put_full (hQ14.mod hA14 (fun _ _ h => h)) _ _ hL14 (bd_none fun i d hd => by
    have hi : i = 0 := by
      rcases Nat.eq_zero_or_pos i with h | h
      · exact h
      · rw [List.getElem?_eq_none (by simp; omega)] at hd; cases hd
    subst hi
    simp only [List.getElem?_cons_zero, Option.some.injEq] at hd
    subst hd
    exact tm_chk 9 (by decide)) (by rw [tms_len]; simp)
  have hQ14a := hQ14.mod hA14 (fun _ _ h => h)
  have hM14a := hM14.trans hA14 (V := fun _ => False) (fun _ _ h => h) (fun _ _ h => h)
  clear hQ13 hM13 hm14 ho14 hb14 hQ14 hM14 hL14 hA14
  go_wp2_with (fail)
  refine HP14.mono ?_
  rintro e w15 ⟨rfl, hm15⟩
  have hQ15 := hQ14a.mod hm15 (fun _ _ h => h)
  have hM15 := hM14a.trans hm15 (V := fun _ => False) (fun _ _ h => h) (fun _ _ h => h)
  clear HP14 hQ14a hM14a hm15
  go_upto_region 4 with (fail)
  go_cut [5] (fun s5 wx => s5 = .int .i64 0 ∧ wx = w15)
  case first =>
    go_wp2_with (fail)
    go_meet
    exact ⟨rfl, rfl⟩
  case rest =>
  obtain ⟨e5, ewc⟩ := hcut
  subst e5
  subst ewc
  generalize wc = w15 at *
  go_wp2_with (fail)
  go_loopw [5, 6, 7] (fun ci _ _ wr => ∃ (i : Nat), ci = .int .i64 (i : Int) ∧ i ≤ 100 ∧ (∃ X, Qu wr q X (tms i 32)) ∧ Mod (fun _ => False) w wr) (fun ci _ _ _ => 100 - (intOf ci).toNat)
  case atStart => exact ⟨0, rfl, by decide, ⟨_, hQ15⟩, hM15⟩
  case round =>
  obtain ⟨i, rfl, hi, ⟨X, hQ⟩, hMr⟩ := hrel
  clear hQ15 hM15
  obtain ⟨wk, ewk⟩ : ∃ wk, wk = wr := ⟨_, rfl⟩
  subst ewk
  by_cases hin : i < 100
  · have hin' : (i : Int) < 100 := by go_light; omega
    rw [tms_cons] at hQ
    obtain ⟨r, er⟩ : ∃ r, r = ((i % 8 : Nat) : Int) := ⟨_, rfl⟩
    obtain ⟨x, ex⟩ : ∃ x, x = 32 + i := ⟨_, rfl⟩
    obtain ⟨rx, erx⟩ : ∃ rx, rx = ((x % 8 : Nat) : Int) := ⟨_, rfl⟩
    have hxi : (32 : Int) + (i : Int) = (x : Int) := by go_light; omega
    have HTk := Take_some 1 (1 + r) 1 (i : Int) 0 1 1 false 0 0 0 0 [(i : Int)] (L := tms (i + 1) 31) (by rw [er]; exact hQ)
    have HER : Hid (r = ((i % 8 : Nat) : Int)) := er
    have HX : Hid (x = 32 + i ∧ rx = ((x % 8 : Nat) : Int)) := ⟨ex, erx⟩
    clear er ex erx
    simp only [List.length_cons, List.length_nil, Nat.zero_add] at HTk
    go_wp2_with (fail)
    refine HTk.mono ?_
    rintro e w5 ⟨am, cm, rfl, ho5, hr5, hQ5, hv5, hm5⟩
    have hM5 : Mod (fun _ => False) w w5 := hMr.trans hm5 (fun _ _ h => h) (fun b hb e => by go_light; omega)
    have hA5 := (Mod.refl (fun _ => False) w5).alloc (.cells #[.int .i64 1, .int .i64 (1 + r), .int .i64 1, .int .i64 (i : Int), .int .i64 0, .int .i64 1, .int .i64 1, .bool false, .int .i64 0, .int .i64 0, .int .i64 0, .int .i64 0, .slice am 1 cm] 40)
    have hMB := Bk.new w5 #[.int .i64 1, .int .i64 (1 + r), .int .i64 1, .int .i64 (i : Int), .int .i64 0, .int .i64 1, .int .i64 1, .bool false, .int .i64 0, .int .i64 0, .int .i64 0, .int .i64 0, .slice am 1 cm] 40
    have hQW := hQ5.mod hA5 (fun _ _ h => h)
    have hoW := ho5.mod hA5 (fun _ _ h => h)
    have hMW := hM5.trans hA5 (V := fun _ => False) (fun _ _ h => h) (fun _ _ h => h)
    clear HTk hQ hMr hm5 hv5 hQ5 hM5 ho5 hA5
    go_upto_region 8 with (fail)
    generalize w5.alloc (.cells #[.int .i64 1, .int .i64 (1 + r), .int .i64 1, .int .i64 (i : Int), .int .i64 0, .int .i64 1, .int .i64 1, .bool false, .int .i64 0, .int .i64 0, .int .i64 0, .int .i64 0, .slice am 1 cm] 40) = W at *
    generalize w5.heap.size = mb at *
    have m0 : W.cell? ⟨mb, 0, none⟩ = some (.int .i64 1) := hMB.cellv (j := 0) rfl
    have m1 : W.cell? ⟨mb, 1, none⟩ = some (.int .i64 (1 + r)) := hMB.cellv (j := 1) rfl
    have m2 : W.cell? ⟨mb, 2, none⟩ = some (.int .i64 1) := hMB.cellv (j := 2) rfl
    have m3 : W.cell? ⟨mb, 3, none⟩ = some (.int .i64 (i : Int)) := hMB.cellv (j := 3) rfl
    have m4 : W.cell? ⟨mb, 4, none⟩ = some (.int .i64 0) := hMB.cellv (j := 4) rfl
    have m5 : W.cell? ⟨mb, 5, none⟩ = some (.int .i64 1) := hMB.cellv (j := 5) rfl
    have m6 : W.cell? ⟨mb, 6, none⟩ = some (.int .i64 1) := hMB.cellv (j := 6) rfl
    have m7 : W.cell? ⟨mb, 7, none⟩ = some (.bool false) := hMB.cellv (j := 7) rfl
    have m8 : W.cell? ⟨mb, 8, none⟩ = some (.int .i64 0) := hMB.cellv (j := 8) rfl
    have m9 : W.cell? ⟨mb, 9, none⟩ = some (.int .i64 0) := hMB.cellv (j := 9) rfl
    have m10 : W.cell? ⟨mb, 10, none⟩ = some (.int .i64 0) := hMB.cellv (j := 10) rfl
    have m11 : W.cell? ⟨mb, 11, none⟩ = some (.int .i64 0) := hMB.cellv (j := 11) rfl
    have m12 : W.cell? ⟨mb, 12, none⟩ = some (.slice am 1 cm) := hMB.cellv (j := 12) rfl
    have hD := (Mod.refl (fun _ => False) W).drew
    have HT1 : Calls Try.prog 22 #[.int .i64 (i : Int)] W.drew fun e w' => ∃ rr, e = .returned rr ∧ (∃ b, rr = .agg #[.int .i64 1, .int .i64 (1 + r), .int .i64 1, .int .i64 (i : Int), .int .i64 0, .int .i64 1, .int .i64 1, .bool false, .int .i64 0, .int .i64 0, .int .i64 0, .int .i64 0, .slice (some ⟨b, 0, none⟩) 1 1] ∧ Own w' (.slice (some ⟨b, 0, none⟩) 1 1) [(i : Int)] ∧ Mod (fun _ => False) W.drew w') := by
      have := text_any i W.drew (by go_light; omega)
      rw [← HER.out] at this
      exact this.mono fun e w' ⟨b, h1, h2, _, h4⟩ => ⟨_, h1, b, rfl, h2, h4⟩
    have HT2 : ∀ w7, Calls Try.prog 22 #[.int .i64 (x : Int)] w7 fun e w' => ∃ rr, e = .returned rr ∧ (∃ b, rr = .agg #[.int .i64 1, .int .i64 (1 + rx), .int .i64 1, .int .i64 (x : Int), .int .i64 0, .int .i64 1, .int .i64 1, .bool false, .int .i64 0, .int .i64 0, .int .i64 0, .int .i64 0, .slice (some ⟨b, 0, none⟩) 1 1] ∧ (Own w' (.slice (some ⟨b, 0, none⟩) 1 1) [(x : Int)] ∧ w7.heap.size ≤ b) ∧ Mod (fun _ => False) w7 w') := fun w7 => by
      have := text_any x w7 (by have := HX.out.1; go_light; omega)
      rw [← HX.out.2] at this
      exact this.mono fun e w' ⟨b, h1, h2, h3, h4⟩ => ⟨_, h1, b, rfl, ⟨h2, h3⟩, h4⟩
    have HS : ∀ w' b, Mod (fun _ => False) W w' → Own w' (.slice (some ⟨b, 0, none⟩) 1 1) [(i : Int)] → Calls Try.prog 12 #[.agg #[.int .i64 1, .int .i64 (1 + r), .int .i64 1, .int .i64 (i : Int), .int .i64 0, .int .i64 1, .int .i64 1, .bool false, .int .i64 0, .int .i64 0, .int .i64 0, .int .i64 0, .slice am 1 cm], .agg #[.int .i64 1, .int .i64 (1 + r), .int .i64 1, .int .i64 (i : Int), .int .i64 0, .int .i64 1, .int .i64 1, .bool false, .int .i64 0, .int .i64 0, .int .i64 0, .int .i64 0, .slice (some ⟨b, 0, none⟩) 1 1]] w' fun e w'' => ∃ r, e = .returned r ∧ (r = .bool true ∧ Mod (fun _ => False) w' w'') := fun w' b hm ho => Calls.mono (Same_eq 1 (1 + r) 1 (i : Int) 0 1 1 false 0 0 0 0 am (some ⟨b, 0, none⟩) cm 1 [(i : Int)] w' ((hoW.mod hm (fun _ _ h => h)).sl hr5) (ho.sl hr5)) (fun e w'' h => ⟨_, h.1, rfl, h.2⟩)
    have HPt : ∀ w' b, Mod (fun _ => False) W w' → (Own w' (.slice (some ⟨b, 0, none⟩) 1 1) [(x : Int)] ∧ W.heap.size ≤ b) → Calls Try.prog 10 #[.pointer (some ⟨q, 0, none⟩), .slice (some ⟨w'.heap.size, 0, none⟩) 1 1] (w'.alloc (.cells #[.int .i64 1, .int .i64 (1 + rx), .int .i64 1, .int .i64 (x : Int), .int .i64 0, .int .i64 1, .int .i64 1, .bool false, .int .i64 0, .int .i64 0, .int .i64 0, .int .i64 0, .slice (some ⟨b, 0, none⟩) 1 1] 40)) fun e w'' => ∃ rr, e = .returned rr ∧ (rr = .int .i64 0 ∧ (∃ X', Qu w'' q X' (tms (i + 1) 32)) ∧ Mod (fun b => b = q) (w'.alloc (.cells #[.int .i64 1, .int .i64 (1 + rx), .int .i64 1, .int .i64 (x : Int), .int .i64 0, .int .i64 1, .int .i64 1, .bool false, .int .i64 0, .int .i64 0, .int .i64 0, .int .i64 0, .slice (some ⟨b, 0, none⟩) 1 1] 40)) w'') := fun w' b hm ⟨ho, hWb⟩ => by
      have hQ' := hQW.mod hm (fun _ _ h => h)
      have hLt := Mgs.lit w' (tm x) (.slice (some ⟨b, 0, none⟩) 1 1) (ho.sl (by intro c hc; simp at hc; subst hc; have := HX.out.1; go_light; omega)) (by simp [tm])
      simp only [mcl, tm, ← HX.out.2] at hLt
      have hP := Put_ok (hQ'.mod ((Mod.refl (fun _ => False) w').alloc (.cells #[.int .i64 1, .int .i64 (1 + rx), .int .i64 1, .int .i64 (x : Int), .int .i64 0, .int .i64 1, .int .i64 1, .bool false, .int .i64 0, .int .i64 0, .int .i64 0, .int .i64 0, .slice (some ⟨b, 0, none⟩) 1 1] 40)) (fun _ _ h => h)) _ _ hLt (bd_none fun i' d hd => by
        have hi : i' = 0 := by
          rcases Nat.eq_zero_or_pos i' with h | h
          · exact h
          · rw [List.getElem?_eq_none (by simp; omega)] at hd; cases hd
        subst hi
        simp only [List.getElem?_cons_zero, Option.some.injEq] at hd
        subst hd
        have := tm_chk x (by have := HX.out.1; go_light; omega)
        simp only [tm, ← HX.out.2] at this
        exact this) (by rw [tms_len]; simp) ⟨fun _ b' hb' hx => by
          simp only [Value.ownBlock, Option.some.injEq] at hb'
          subst hb'
          exact absurd (hQ'.lt _ hx) (Nat.lt_irrefl _), fun d hd hl b' hb' hx => by
          rw [List.mem_singleton] at hd
          subst hd
          simp only [Value.ownBlock, Option.some.injEq] at hb'
          subst hb'
          exact absurd (hQW.lt _ hx) (Nat.not_lt.2 hWb)⟩
      refine hP.mono fun e w'' h => ⟨_, h.1, rfl, ?_, h.2.2⟩
      obtain ⟨X', hq, _⟩ := h.2.1
      refine ⟨X', ?_⟩
      have e2 := tms_snoc (i + 1)
      rw [show 31 + (i + 1) = x by rw [HX.out.1]; omega] at e2
      rw [← e2]
      simp only [tm, ← HX.out.2]
      exact hq
    have HLn : ∀ w'', (∃ X', Qu w'' q X' (tms (i + 1) 32)) → Calls Try.prog 16 #[.pointer (some ⟨q, 0, none⟩)] w'' fun e w' => ∃ rr, e = .returned rr ∧ (rr = .int .i64 32 ∧ w' = w'') := fun w'' ⟨X', h⟩ => by
      have := Len_q h
      rw [tms_len] at this
      exact this.mono fun e w' h => ⟨_, h.1, rfl, h.2⟩
    have ewx : IntKind.i64.wrap ((32 : Int) + (i : Int)) = (x : Int) := by rw [hxi, IntKind.wrap_i64]; go_light; omega
    have ewx2 : IntKind.i64.wrap (x : Int) = (x : Int) := by rw [IntKind.wrap_i64]; go_light; omega
    have HMBQ : Hid (¬ mb = q) := fun e => by
      obtain ⟨cq, hk⟩ := hQW.kind
      have := hMB.at'
      rw [e, hk] at this
      simp at this
    have HMW : Hid (Mod (fun _ => False) w W) := hMW
    clear hQW hoW hMW hMB hr5 hi
    go_cut [103] (fun s wx => s = .bool false ∧ (∃ X, Qu wx q X (tms (i + 1) 32)) ∧ Mod (fun _ => False) w wx)
    case first =>
      go_region_held3 (fun y => y.cell? ⟨mb, 0, none⟩ = some (.int .i64 1) ∧ y.cell? ⟨mb, 1, none⟩ = some (.int .i64 (1 + r)) ∧ y.cell? ⟨mb, 2, none⟩ = some (.int .i64 1) ∧ y.cell? ⟨mb, 3, none⟩ = some (.int .i64 (i : Int)) ∧ y.cell? ⟨mb, 4, none⟩ = some (.int .i64 0) ∧ y.cell? ⟨mb, 5, none⟩ = some (.int .i64 1) ∧ y.cell? ⟨mb, 6, none⟩ = some (.int .i64 1) ∧ y.cell? ⟨mb, 7, none⟩ = some (.bool false) ∧ y.cell? ⟨mb, 8, none⟩ = some (.int .i64 0) ∧ y.cell? ⟨mb, 9, none⟩ = some (.int .i64 0) ∧ y.cell? ⟨mb, 10, none⟩ = some (.int .i64 0) ∧ y.cell? ⟨mb, 11, none⟩ = some (.int .i64 0) ∧ y.cell? ⟨mb, 12, none⟩ = some (.slice am 1 cm)) (first | with_reducible exact ⟨m0, m1, m2, m3, m4, m5, m6, m7, m8, m9, m10, m11, m12⟩ | go_keep) ((first
        | (go_at_call 22; first | (refine (HT2 y11).mono ?_; rintro e y12 ⟨r12, rfl, b2, rfl, hz12, hy12⟩; have hY12 := hY11.trans hy12 (V := fun _ => False) (fun _ _ h => h) (fun _ _ h => h); replace m0 : y12.cell? ⟨mb, 0, none⟩ = some (.int .i64 1) := hy12.cell m0 (fun h => h); replace m1 : y12.cell? ⟨mb, 1, none⟩ = some (.int .i64 (1 + r)) := hy12.cell m1 (fun h => h); replace m2 : y12.cell? ⟨mb, 2, none⟩ = some (.int .i64 1) := hy12.cell m2 (fun h => h); replace m3 : y12.cell? ⟨mb, 3, none⟩ = some (.int .i64 (i : Int)) := hy12.cell m3 (fun h => h); replace m4 : y12.cell? ⟨mb, 4, none⟩ = some (.int .i64 0) := hy12.cell m4 (fun h => h); replace m5 : y12.cell? ⟨mb, 5, none⟩ = some (.int .i64 1) := hy12.cell m5 (fun h => h); replace m6 : y12.cell? ⟨mb, 6, none⟩ = some (.int .i64 1) := hy12.cell m6 (fun h => h); replace m7 : y12.cell? ⟨mb, 7, none⟩ = some (.bool false) := hy12.cell m7 (fun h => h); replace m8 : y12.cell? ⟨mb, 8, none⟩ = some (.int .i64 0) := hy12.cell m8 (fun h => h); replace m9 : y12.cell? ⟨mb, 9, none⟩ = some (.int .i64 0) := hy12.cell m9 (fun h => h); replace m10 : y12.cell? ⟨mb, 10, none⟩ = some (.int .i64 0) := hy12.cell m10 (fun h => h); replace m11 : y12.cell? ⟨mb, 11, none⟩ = some (.int .i64 0) := hy12.cell m11 (fun h => h); replace m12 : y12.cell? ⟨mb, 12, none⟩ = some (.slice am 1 cm) := hy12.cell m12 (fun h => h)) | (refine HT1.mono ?_; rintro e y10 ⟨r10, rfl, b, rfl, hz10, hy10⟩; have hY10 := hD.trans hy10 (V := fun _ => False) (fun _ _ h => h) (fun _ _ h => h); replace m0 : y10.cell? ⟨mb, 0, none⟩ = some (.int .i64 1) := hy10.cell m0 (fun h => h); replace m1 : y10.cell? ⟨mb, 1, none⟩ = some (.int .i64 (1 + r)) := hy10.cell m1 (fun h => h); replace m2 : y10.cell? ⟨mb, 2, none⟩ = some (.int .i64 1) := hy10.cell m2 (fun h => h); replace m3 : y10.cell? ⟨mb, 3, none⟩ = some (.int .i64 (i : Int)) := hy10.cell m3 (fun h => h); replace m4 : y10.cell? ⟨mb, 4, none⟩ = some (.int .i64 0) := hy10.cell m4 (fun h => h); replace m5 : y10.cell? ⟨mb, 5, none⟩ = some (.int .i64 1) := hy10.cell m5 (fun h => h); replace m6 : y10.cell? ⟨mb, 6, none⟩ = some (.int .i64 1) := hy10.cell m6 (fun h => h); replace m7 : y10.cell? ⟨mb, 7, none⟩ = some (.bool false) := hy10.cell m7 (fun h => h); replace m8 : y10.cell? ⟨mb, 8, none⟩ = some (.int .i64 0) := hy10.cell m8 (fun h => h); replace m9 : y10.cell? ⟨mb, 9, none⟩ = some (.int .i64 0) := hy10.cell m9 (fun h => h); replace m10 : y10.cell? ⟨mb, 10, none⟩ = some (.int .i64 0) := hy10.cell m10 (fun h => h); replace m11 : y10.cell? ⟨mb, 11, none⟩ = some (.int .i64 0) := hy10.cell m11 (fun h => h); replace m12 : y10.cell? ⟨mb, 12, none⟩ = some (.slice am 1 cm) := hy10.cell m12 (fun h => h)))
        | (go_at_call 12; refine (HS y10 b hY10 hz10).mono ?_; rintro e y11 ⟨r11, rfl, rfl, hy11⟩; have hY11 := hY10.trans hy11 (V := fun _ => False) (fun _ _ h => h) (fun _ _ h => h); replace m0 : y11.cell? ⟨mb, 0, none⟩ = some (.int .i64 1) := hy11.cell m0 (fun h => h); replace m1 : y11.cell? ⟨mb, 1, none⟩ = some (.int .i64 (1 + r)) := hy11.cell m1 (fun h => h); replace m2 : y11.cell? ⟨mb, 2, none⟩ = some (.int .i64 1) := hy11.cell m2 (fun h => h); replace m3 : y11.cell? ⟨mb, 3, none⟩ = some (.int .i64 (i : Int)) := hy11.cell m3 (fun h => h); replace m4 : y11.cell? ⟨mb, 4, none⟩ = some (.int .i64 0) := hy11.cell m4 (fun h => h); replace m5 : y11.cell? ⟨mb, 5, none⟩ = some (.int .i64 1) := hy11.cell m5 (fun h => h); replace m6 : y11.cell? ⟨mb, 6, none⟩ = some (.int .i64 1) := hy11.cell m6 (fun h => h); replace m7 : y11.cell? ⟨mb, 7, none⟩ = some (.bool false) := hy11.cell m7 (fun h => h); replace m8 : y11.cell? ⟨mb, 8, none⟩ = some (.int .i64 0) := hy11.cell m8 (fun h => h); replace m9 : y11.cell? ⟨mb, 9, none⟩ = some (.int .i64 0) := hy11.cell m9 (fun h => h); replace m10 : y11.cell? ⟨mb, 10, none⟩ = some (.int .i64 0) := hy11.cell m10 (fun h => h); replace m11 : y11.cell? ⟨mb, 11, none⟩ = some (.int .i64 0) := hy11.cell m11 (fun h => h); replace m12 : y11.cell? ⟨mb, 12, none⟩ = some (.slice am 1 cm) := hy11.cell m12 (fun h => h))
        | (go_at_call 10; refine (HPt y12 b2 hY12 ⟨hz12.1, Nat.le_trans hY11.size hz12.2⟩).mono ?_; rintro e y13 ⟨r13, rfl, rfl, hq13, hy13⟩; replace m0 : y13.cell? ⟨mb, 0, none⟩ = some (.int .i64 1) := ((Mod.refl (fun _ => False) y12).alloc _ |>.mono (T := fun b => b = q) (fun _ _ h => h.elim) |>.trans hy13 (V := fun b => b = q) (fun _ _ h => h) (fun _ _ h => h)).cell m0 HMBQ.out; replace m1 : y13.cell? ⟨mb, 1, none⟩ = some (.int .i64 (1 + r)) := ((Mod.refl (fun _ => False) y12).alloc _ |>.mono (T := fun b => b = q) (fun _ _ h => h.elim) |>.trans hy13 (V := fun b => b = q) (fun _ _ h => h) (fun _ _ h => h)).cell m1 HMBQ.out; replace m2 : y13.cell? ⟨mb, 2, none⟩ = some (.int .i64 1) := ((Mod.refl (fun _ => False) y12).alloc _ |>.mono (T := fun b => b = q) (fun _ _ h => h.elim) |>.trans hy13 (V := fun b => b = q) (fun _ _ h => h) (fun _ _ h => h)).cell m2 HMBQ.out; replace m3 : y13.cell? ⟨mb, 3, none⟩ = some (.int .i64 (i : Int)) := ((Mod.refl (fun _ => False) y12).alloc _ |>.mono (T := fun b => b = q) (fun _ _ h => h.elim) |>.trans hy13 (V := fun b => b = q) (fun _ _ h => h) (fun _ _ h => h)).cell m3 HMBQ.out; replace m4 : y13.cell? ⟨mb, 4, none⟩ = some (.int .i64 0) := ((Mod.refl (fun _ => False) y12).alloc _ |>.mono (T := fun b => b = q) (fun _ _ h => h.elim) |>.trans hy13 (V := fun b => b = q) (fun _ _ h => h) (fun _ _ h => h)).cell m4 HMBQ.out; replace m5 : y13.cell? ⟨mb, 5, none⟩ = some (.int .i64 1) := ((Mod.refl (fun _ => False) y12).alloc _ |>.mono (T := fun b => b = q) (fun _ _ h => h.elim) |>.trans hy13 (V := fun b => b = q) (fun _ _ h => h) (fun _ _ h => h)).cell m5 HMBQ.out; replace m6 : y13.cell? ⟨mb, 6, none⟩ = some (.int .i64 1) := ((Mod.refl (fun _ => False) y12).alloc _ |>.mono (T := fun b => b = q) (fun _ _ h => h.elim) |>.trans hy13 (V := fun b => b = q) (fun _ _ h => h) (fun _ _ h => h)).cell m6 HMBQ.out; replace m7 : y13.cell? ⟨mb, 7, none⟩ = some (.bool false) := ((Mod.refl (fun _ => False) y12).alloc _ |>.mono (T := fun b => b = q) (fun _ _ h => h.elim) |>.trans hy13 (V := fun b => b = q) (fun _ _ h => h) (fun _ _ h => h)).cell m7 HMBQ.out; replace m8 : y13.cell? ⟨mb, 8, none⟩ = some (.int .i64 0) := ((Mod.refl (fun _ => False) y12).alloc _ |>.mono (T := fun b => b = q) (fun _ _ h => h.elim) |>.trans hy13 (V := fun b => b = q) (fun _ _ h => h) (fun _ _ h => h)).cell m8 HMBQ.out; replace m9 : y13.cell? ⟨mb, 9, none⟩ = some (.int .i64 0) := ((Mod.refl (fun _ => False) y12).alloc _ |>.mono (T := fun b => b = q) (fun _ _ h => h.elim) |>.trans hy13 (V := fun b => b = q) (fun _ _ h => h) (fun _ _ h => h)).cell m9 HMBQ.out; replace m10 : y13.cell? ⟨mb, 10, none⟩ = some (.int .i64 0) := ((Mod.refl (fun _ => False) y12).alloc _ |>.mono (T := fun b => b = q) (fun _ _ h => h.elim) |>.trans hy13 (V := fun b => b = q) (fun _ _ h => h) (fun _ _ h => h)).cell m10 HMBQ.out; replace m11 : y13.cell? ⟨mb, 11, none⟩ = some (.int .i64 0) := ((Mod.refl (fun _ => False) y12).alloc _ |>.mono (T := fun b => b = q) (fun _ _ h => h.elim) |>.trans hy13 (V := fun b => b = q) (fun _ _ h => h) (fun _ _ h => h)).cell m11 HMBQ.out; replace m12 : y13.cell? ⟨mb, 12, none⟩ = some (.slice am 1 cm) := ((Mod.refl (fun _ => False) y12).alloc _ |>.mono (T := fun b => b = q) (fun _ _ h => h.elim) |>.trans hy13 (V := fun b => b = q) (fun _ _ h => h) (fun _ _ h => h)).cell m12 HMBQ.out)
        | (go_at_call 16; refine (HLn y13 hq13).mono ?_; rintro e y14 ⟨r14, rfl, rfl, rfl⟩)))
      all_goals go_wp2_with (fail)
      all_goals go_meet
      all_goals exact ⟨rfl, hq13, ((HMW.out.trans hY12 (V := fun _ => False) (fun _ _ h => h) (fun _ _ h => h)).alloc _).trans hy13 (fun _ _ h => h) (fun b hb e => by go_light; omega)⟩
    case rest =>
    obtain ⟨e103, hQ15, hM15⟩ := hcut
    subst e103
    generalize wc = w15 at *
    clear HPt HLn HT1 HT2 HS m0 m1 m2 m3 m4 m5 m6 m7 m8 m9 m10 m11 m12
    go_wp2_with (fail)
    go_roundw
    case rel => exact ⟨i + 1, by go_num, hin, hQ15, hM15⟩
    case measure => simp [intOf]; go_light; omega
  · have hin' : ¬ (i : Int) < 100 := by go_light; omega
    clear hQ hin hi
    go_wp2_with (fail)
    go_loopw [8, 9, 10, 11] (fun v8 ci _ _ wr => ∃ (t : Nat), ci = .int .i64 (t : Int) ∧ t ≤ 2 ∧ Nq wr v8 ∧ Mod (fun _ => False) w wr) (fun _ ci _ _ _ => 2 - (intOf ci).toNat)
    case atStart => exact ⟨0, rfl, by decide, .inl rfl, hMr⟩
    case round =>
    clear hMr
    obtain ⟨t, rfl, ht, hN, hMr⟩ := hrel
    obtain ⟨wk, ewk⟩ : ∃ wk, wk = wr := ⟨_, rfl⟩
    subst ewk
    by_cases htn : t < 2
    · have htn' : (t : Int) < 2 := by go_light; omega
      have HTn := Take_none hN
      go_wp2_with (fail)
      refine HTn.mono ?_
      rintro e y5 ⟨rfl, hy5⟩
      have hA5 := (Mod.refl (fun _ => False) y5).alloc (.cells #[.int .i64 0, .int .i64 0, .int .i64 0, .int .i64 0, .int .i64 0, .int .i64 0, .int .i64 0, .bool false, .int .i64 0, .int .i64 0, .int .i64 0, .int .i64 0, .slice none 0 0] 40)
      have hA6 := ((Mod.refl (fun _ => False) y5).alloc (.cells #[.int .i64 0, .int .i64 0, .int .i64 0, .int .i64 0, .int .i64 0, .int .i64 0, .int .i64 0, .bool false, .int .i64 0, .int .i64 0, .int .i64 0, .int .i64 0, .slice none 0 0] 40)).alloc (.cells #[.int .i64 0, .int .i64 0, .int .i64 0, .int .i64 0, .int .i64 0, .int .i64 0, .int .i64 0, .bool false, .int .i64 0, .int .i64 0, .int .i64 0, .int .i64 0, .slice none 0 0] 40)
      have hN6 := (hN.mod hy5).mod hA6
      have hM6 := (hMr.trans hy5 (V := fun _ => False) (fun _ _ h => h) (fun _ _ h => h)).trans hA6 (V := fun _ => False) (fun _ _ h => h) (fun _ _ h => h)
      clear HTn hN hMr hy5 hA5
      go_wp2_with (fail)
      refine (Put_none _ hN6).mono ?_
      rintro e y6 ⟨rfl, hy6⟩
      subst hy6
      go_wp2_with (fail)
      refine (Len_none hN6).mono ?_
      rintro e y6 ⟨rfl, hy6⟩
      subst hy6
      go_wp2_with (fail)
      refine (Room_none hN6).mono ?_
      rintro e y6 ⟨rfl, hy6⟩
      subst hy6
      obtain ⟨xs, hx0, hbd⟩ := bdQ0
      generalize (y5.alloc (.cells #[.int .i64 0, .int .i64 0, .int .i64 0, .int .i64 0, .int .i64 0, .int .i64 0, .int .i64 0, .bool false, .int .i64 0, .int .i64 0, .int .i64 0, .int .i64 0, .slice none 0 0] 40)).alloc (.cells #[.int .i64 0, .int .i64 0, .int .i64 0, .int .i64 0, .int .i64 0, .int .i64 0, .int .i64 0, .bool false, .int .i64 0, .int .i64 0, .int .i64 0, .int .i64 0, .slice none 0 0] 40) = y7 at *
      clear hN6 hA6
      go_wp2_with (refine wpList_val rfl (hbd rfl) ?_; simp only [Act.put, List.setIfInBounds_toArray, List.set_cons_succ, List.set_cons_zero])
      have HN : Hid (Nq (y7.alloc (.cells xs 53)) (.pointer (some ⟨y7.heap.size, 0, none⟩)) ∧ Mod (fun _ => False) w (y7.alloc (.cells xs 53))) := ⟨.inr ⟨_, rfl, (Bk.new y7 xs _).cellv hx0⟩, hM6.alloc _⟩
      go_roundw
      case rel => exact ⟨t + 1, by go_num, htn, HN.out.1, HN.out.2⟩
      case measure => simp [intOf]; go_light; omega
    · have et : t = 2 := by go_light; omega
      subst et
      have HW := works_any wk
      clear hN htn ht
      go_wp2_with (fail)
      refine HW.mono ?_
      rintro e y5 ⟨rfl, hy5⟩
      go_wp2
      go_ret
      exact ⟨rfl, hMr.trans hy5 (fun _ _ h => h) (fun _ _ h => h)⟩
namespace queueKnown
open Go.ChangeShapes Go.WideShapes Go.ChangeAt Go.RowKit
set_option maxRecDepth 100000 in
theorem lifted (os : Os) (started : os.Started) (H : Type) (enc : TypeId × Value → H) :
    ReturnsInHanded {} Try.checked os 6 .any (Rows.queueKnownSpec.pre6 enc Try.prog Try.f6 Rows.queueKnownRow.domain false) (Rows.queueKnownSpec.post enc Try.prog Try.f6 false true false false) := by
  refine returnsInHanded_of_change_sized (C := Try.checked) own started (by kernel_rfl) Try.func6
    (ChangeSpec.witness6 (enc := enc) (C := Try.checked) false ⟨#[], #[], []⟩ 8 (by kernel_rfl) (by kernel_rfl) (by kernel_rfl) (by kernel_rfl)) ?_
  intro W base args ds gs before hval0 hW hcnd hsz0 _
  have hval : ∀ (j : Nat) t v, Try.f6.params[j]? = some t → args[j]? = some v → Value.okWide Try.prog W .any base t v := hval0
  have hsz : (DataW.weightsEach Try.prog (Try.f6.params.toList ++ Rows.queueKnownSpec.plain.varTypes Try.prog) (ds ++ gs)).all (· ≤ reachBytes) = true := hsz0
  have hW' := hW
  obtain ⟨p, q, hA0, hV, rfl, hfz, hnd⟩ := hW
  have hA : DataW.TrodAll enc Try.prog W 0 (fun _ => true) true Try.f6.params.toList args.toList ds p := hA0
  rw [Try.params6] at hA hval hsz
  obtain ⟨hargs, rfl, rfl⟩ := trodAll_nil hA
  obtain rfl : args = #[] := by cases args; simp_all
  obtain ⟨rfl, rfl⟩ := trodVars_none hV
  clear hA0 hval0
  refine (known_walk W).mono fun e W' ⟨he, hm⟩ => ?_
  subst he
  have bel : Below W.heap.size W W' := hm.below _ (Nat.le_refl _) (fun _ h => h.elim)
  exact ⟨_, rfl, _, _, _, [], _, [], hW', trodAll_mk1 (shut_bool Try.underlying4 _), trodAll_mk0, rfl, bel.frame _, fun h => by cases h⟩

theorem over : Rows.queueKnownRow.holds Try.pinned (OpenSpec.ofChange Rows.queueKnownSpec) :=
  OpenClaim.holds_of_wide 6 Try.f6 rfl rfl rfl rfl rfl rfl rfl ⟨rfl, rfl, rfl, rfl, rfl⟩ rfl rfl rfl rfl rfl (by kernel_rfl) Try.func6 (by kernel_rfl)
    (of_decide_eq_true (by kernel_rfl)) (by unfold Func.isWrapper; first | (rw [if_pos (by decide +kernel)]; kernel_rfl) | (rw [if_neg (by decide +kernel)]; exact ⟨rfl, rfl⟩))
    (fun os started H enc _ => lifted os started H enc)
end queueKnown
theorem queueKnown_holds : Rows.QueueKnownSaid := queueKnown.over
end Go.Proofs.Ytcedlpjjldmpfaa
