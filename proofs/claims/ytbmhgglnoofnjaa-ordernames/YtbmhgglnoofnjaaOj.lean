/- OrderNames holds: the chapter's examples, orders that are none. Conditions: none. -/
import Derived.Test.YtbmhgglnoofnjaaOi
import Derived.Test.YtbmhgglnoofnjaaYn
import Derived.Laws.Tables
namespace Go.Proofs.Ytbmhgglnoofnjaa
open Go.RowKit
def ecl (e : Dt × Int) : List Value := dcl e.1 (.slice none 0 0) ++ [.int .i64 e.2]
def exs : List (Dt × Int) := [(oz 1 1 false, 0), (oz 1 2 true, 0), (oz 5 3 false, 0), (oz 1 5 false, 2), (oz 1 4 true, 4), (oz 1 0 false, 4611686018427387904), (oz 1 6 true, (-9223372036854775808)), (oz 1 6 true, 9223372036854775807)]
def oag (e : Dt × Int) : Value := .agg (ecl e).toArray
theorem run_bslice (w : World) (t et : TypeId) (n sz : Nat) (parts : Array (Nat × Value)) (cells : Array Value) (z : Value) (hu : Try.prog.underlying t = some (.slice et)) (hi : (Try.prog.info? et).map (fun i => (i.zero, i.size)) = some (some z, sz)) (hl : ¬ n * sz > 2 ^ 24) (h0 : ¬ n * sz = 0)
    (h : Instr.fill (fun i => some (i * sz, sz)) ((Array.range (n * sz)).map (z.cells[· % z.cells.size]!)) parts.toList = some cells) : (Instr.buildSlice t n parts).run Try.prog w = .ok (.slice (some ⟨w.heap.size, 0, none⟩) n n) (w.alloc (.cells cells et)) := by
  cases hie : Try.prog.info? et with
  | none => simp [hie] at hi
  | some ie =>
    simp [hie] at hi
    obtain ⟨h1, h2⟩ := hi
    simp [Instr.buildSlice, run_underlying hu, sizeOf, typeInfo, zeroValue, hie, h1, h2, hl, h0, h, newRow]
theorem infoDz : (Try.prog.info? 44).map (fun i => (i.zero, i.size)) = some (some (oag (d0, 0)), 19) := by kernel_rfl
theorem fill8 : Instr.fill (fun i => some (i * 19, 19)) ((Array.range (8 * 19)).map ((oag (d0, 0)).cells[· % (oag (d0, 0)).cells.size]!)) [(0, oag (oz 1 1 false, 0)), (1, oag (oz 1 2 true, 0)), (2, oag (oz 5 3 false, 0)), (3, oag (oz 1 5 false, 2)), (4, oag (oz 1 4 true, 4)), (5, oag (oz 1 0 false, 4611686018427387904)), (6, oag (oz 1 6 true, (-9223372036854775808))), (7, oag (oz 1 6 true, 9223372036854775807))] = some (exs.flatMap ecl).toArray := by kernel_rfl
theorem ox_build {o : Oper} {w : World} {ρ : Operand → Value} {t : TypeId} {parts : Array (Nat × Operand)} (ho : o.op = .build t parts) {cells : Array Value} (h : Try.prog.built t (parts.map fun (i, x) => (i, ρ x)).toList = some cells) : (execOp ρ o).run Try.prog w = .ok (.value (.agg cells)) w := by
  simp only [execOp, ho, Sem.run_bind, run_build w t _ cells h, Result.andThen_ok]
  rfl
theorem ox_bslice {o : Oper} {w : World} {ρ : Operand → Value} {t : TypeId} {n : Nat} {parts : Array (Nat × Operand)} (ho : o.op = .buildSlice t n parts) {v : Value} {w' : World} (h : (Instr.buildSlice t n (parts.map fun (i, x) => (i, ρ x))).run Try.prog w = .ok v w') : (execOp ρ o).run Try.prog w = .ok (.value v) w' := by
  simp only [execOp, ho, Sem.run_bind, h, Result.andThen_ok]
  rfl
theorem wpList_val {ops : Array Oper} {rest : List Oper} {op : Oper} {a : Act} {w w' : World} {Q : Exit → Act → World → Prop} {v : Value} (hw : Region.wanted op (yielded ops a.tmps) = true) (hr : (execOp a.eval op).run Try.prog w = .ok (.value v) w')
    (h : wpList Try.prog ops Q rest (a.put op.dst v) w') : wpList Try.prog ops Q (op :: rest) a w := by
  refine wpList_step fun K hK => ?_
  rw [if_pos hw]
  exact wp_value hr (hK _ _ h)
theorem bq0 : Try.prog.built 44 [(0, dv (oz 1 1 false) (.slice none 0 0))] = some (ecl (oz 1 1 false, 0)).toArray := by kernel_rfl
theorem bq1 : Try.prog.built 44 [(0, dv (oz 1 2 true) (.slice none 0 0))] = some (ecl (oz 1 2 true, 0)).toArray := by kernel_rfl
theorem bq2 : Try.prog.built 44 [(0, dv (oz 5 3 false) (.slice none 0 0))] = some (ecl (oz 5 3 false, 0)).toArray := by kernel_rfl
theorem bq3 : Try.prog.built 44 [(0, dv (oz 1 5 false) (.slice none 0 0)), (1, .int .i64 2)] = some (ecl (oz 1 5 false, 2)).toArray := by kernel_rfl
theorem bq4 : Try.prog.built 44 [(0, dv (oz 1 4 true) (.slice none 0 0)), (1, .int .i64 4)] = some (ecl (oz 1 4 true, 4)).toArray := by kernel_rfl
theorem bq5 : Try.prog.built 44 [(0, dv (oz 1 0 false) (.slice none 0 0)), (1, .int .i64 4611686018427387904)] = some (ecl (oz 1 0 false, 4611686018427387904)).toArray := by kernel_rfl
theorem bq6 : Try.prog.built 44 [(0, dv (oz 1 6 true) (.slice none 0 0)), (1, .int .i64 (-9223372036854775808))] = some (ecl (oz 1 6 true, (-9223372036854775808))).toArray := by kernel_rfl
theorem bq7 : Try.prog.built 44 [(0, dv (oz 1 6 true) (.slice none 0 0)), (1, .int .i64 9223372036854775807)] = some (ecl (oz 1 6 true, 9223372036854775807)).toArray := by kernel_rfl
theorem flat_get : ∀ (es : List (Dt × Int)) (i : Nat) (e : Dt × Int), es[i]? = some e → ∀ t c, (ecl e)[t]? = some c → (es.flatMap ecl)[i * 19 + t]? = some c
  | [], i, e, h => by simp at h
  | x :: r, 0, e, h => fun t c hc => by
    simp at h
    subst h
    have ht : t < 19 := by
      rcases Nat.lt_or_ge t 19 with h' | h'
      · exact h'
      · rw [List.getElem?_eq_none (by exact h')] at hc; cases hc
    rw [List.flatMap_cons, List.getElem?_append_left (by show _ < 19; omega), Nat.zero_mul, Nat.zero_add]
    exact hc
  | x :: r, i + 1, e, h => fun t c hc => by
    rw [List.flatMap_cons, List.getElem?_append_right (by show 19 ≤ _; omega), show (i + 1) * 19 + t - (ecl x).length = i * 19 + t from by show _ - 19 = _; omega]
    exact flat_get r i e (by simpa using h) t c hc
theorem exs_dls {w : World} {g : Nat} (hB : Bk w g 44 (exs.flatMap ecl).toArray) : Dls w (.slice (some ⟨g, 0, none⟩) 8 8) exs := by
  refine ⟨⟨_, _, rfl, fun _ => ⟨g, 0, rfl, fun i e he => hB.range _ _ fun j c hc => ?_⟩⟩, fun e he => ?_⟩
  · have := flat_get exs i e he j c hc
    rw [List.getElem?_toArray, Nat.zero_add]
    exact this
  · simp only [exs, List.mem_cons, List.not_mem_nil, or_false] at he
    rcases he with rfl | rfl | rfl | rfl | rfl | rfl | rfl | rfl <;> exact ⟨⟨rfl, by decide, by decide⟩, by unfold I64; decide⟩
/-- An order that is none. -/
def Nq (w : World) (qo : Option Addr) : Prop := qo = none ∨ ∃ q, qo = some ⟨q, 0, none⟩ ∧ Bk w q 65 #[.bool false, .int .i64 0]
theorem Nq.keep {w w' : World} {qo : Option Addr} (h : Nq w qo) (hm : Mod (fun _ => False) w w') : Nq w' qo := by
  rcases h with h | ⟨q, h1, h2⟩
  · exact .inl h
  · exact .inr ⟨q, h1, h2.mod hm (fun h => h)⟩
theorem oNone_none {w : World} {qo : Option Addr} (h : Nq w qo) : Calls Try.prog 31 #[.pointer qo] w fun e w' => e = .returned (.bool true) ∧ w' = w := by
  rcases h with rfl | ⟨q, rfl, hB⟩
  · go_enter Try.func31, Try.ntmps31
    go_wp2
    go_ret
    exact ⟨rfl, rfl⟩
  · have c0 : w.cell? ⟨q, 0, none⟩ = some (.bool false) := hB.cellv (j := 0) rfl
    clear hB
    go_enter Try.func31, Try.ntmps31
    go_wp2
    go_ret
    exact ⟨rfl, rfl⟩
theorem Next_none {w : World} {qo : Option Addr} (h : Nq w qo) (v : Value) (s : Int) : Calls Try.prog 13 #[.pointer qo, v, .int .i64 s] w fun e w' => e = .returned (.tuple #[.slice none 0 0, .int .i64 1]) ∧ w' = w := by
  have HO := oNone_none h
  clear h
  go_enter Try.func13, Try.ntmps13
  go_wp2_with (fail)
  go_step3
  go_wp2_with (go_at_call 31; refine HO.mono ?_; rintro e w' ⟨rfl, rfl⟩)
  rw [Exit.noGoto_ret]
  go_ret2
  exact ⟨rfl, rfl⟩
theorem Done_none {w : World} {qo : Option Addr} (h : Nq w qo) : Calls Try.prog 15 #[.pointer qo] w fun e w' => e = .returned (.int .i64 0) ∧ w' = w := by
  have HO := oNone_none h
  clear h
  go_enter Try.func15, Try.ntmps15
  go_wp2_with (go_at_call 31; refine HO.mono ?_; rintro e w' ⟨rfl, rfl⟩)
  go_ret
  exact ⟨rfl, rfl⟩
theorem See_nil (w : World) (k : Int) : Calls Try.prog 39 #[.pointer none, .int .i64 k] w fun e w' => e = .returned (.int .i64 1) ∧ w' = w := by
  have HN := isNone_nil w
  go_enter Try.func39, Try.ntmps39
  go_wp2_with (go_at_call 25; refine HN.mono ?_; rintro e w' ⟨rfl, rfl⟩)
  go_ret
  exact ⟨rfl, rfl⟩
theorem noWin_nil (w : World) : Calls Try.prog 32 #[.pointer none] w fun e w' => e = .returned (.bool true) ∧ w' = w := by
  have HN := See_nil w (-1)
  go_enter Try.func32, Try.ntmps32
  go_wp2_with (go_at_call 39; refine HN.mono ?_; rintro e w' ⟨rfl, rfl⟩)
  go_ret
  exact ⟨rfl, rfl⟩
theorem Next_nil {w : World} {q : Nat} {N : Int} (h : Oq w q N) (s : Int) : Calls Try.prog 13 #[.pointer (some ⟨q, 0, none⟩), .pointer none, .int .i64 s] w fun e w' => e = .returned (.tuple #[.slice none 0 0, .int .i64 1]) ∧ w' = w := by
  have HO := oNone_w h
  have HNW := noWin_nil w
  clear h
  go_enter Try.func13, Try.ntmps13
  go_wp2_with (fail)
  go_step3
  go_wp2_with (first | (go_at_call 31; refine HO.mono ?_; rintro e w' ⟨rfl, rfl⟩) | (go_at_call 32; refine HNW.mono ?_; rintro e w'' ⟨rfl, rfl⟩))
  rw [Exit.noGoto_ret]
  go_ret2
  exact ⟨rfl, rfl⟩
set_option maxRecDepth 100000 in
set_option maxHeartbeats 8000000 in
theorem names_walk (w : World) : Calls Try.prog 6 #[] w fun e w' => e = .returned (.bool true) ∧ Mod (fun _ => False) w w' := by
  go_enter Try.func6, Try.ntmps6
  go_wp2_with (fail)
  refine (wNew w).mono ?_
  rintro e w1 ⟨p, X, rfl, -, -, hm1⟩
  have HM1 : Hid (Mod (fun _ => False) w w1) := hm1
  clear hm1
  go_wp2_with (fail)
  go_loopw [2, 3] (fun s i wr => ∃ (k : Nat) (q : Option Addr), s = .pointer q ∧ i = .int .i64 (k : Int) ∧ k ≤ 2 ∧ Hid (Nq wr q ∧ Mod (fun _ => False) w wr)) (fun _ i _ => 2 - (intOf i).toNat)
  case atStart => exact ⟨0, none, rfl, rfl, by omega, ⟨.inl rfl, HM1.out⟩⟩
  case round =>
  obtain ⟨k, q, rfl, rfl, hk, HN⟩ := hrel
  obtain ⟨wk, ewk⟩ : ∃ wk, wk = wr := ⟨_, rfl⟩
  subst ewk
  by_cases hk2 : (k : Int) < 2
  · go_wp2_with (fail)
    refine (Next_none HN.out.1 _ 9).mono ?_
    rintro e w2 ⟨rfl, rfl⟩
    go_wp2_with (fail)
    refine (Done_none HN.out.1).mono ?_
    rintro e w3 ⟨rfl, rfl⟩
    have HB : Hid (Bk _ _ _ _) := Bk.new w3 #[.bool false, .int .i64 0] 65
    go_wp2_with (fail)
    go_roundw
    case rel => exact ⟨k + 1, _, rfl, by go_num, by omega, ⟨.inr ⟨_, rfl, HB.out⟩, HN.out.2.alloc _⟩⟩
    case measure => simp [intOf]; omega
  · have HMk : Hid (Mod (fun _ => False) w wk) := HN.out.2
    clear HN
    go_wp2_with (fail)
    refine (oNew wk).mono ?_
    rintro e w2 ⟨qo, rfl, hO2, -, hm2⟩
    have HM2 : Hid (Mod (fun _ => False) w w2) := HMk.out.and hm2
    clear HMk hm2
    go_wp2_with (fail)
    refine (Next_nil hO2 0).mono ?_
    rintro e w3 ⟨rfl, rfl⟩
    clear hO2
    go_wp2_with (fail)
    refine (one_any 1 false _).mono ?_
    rintro e wa0 ⟨rfl, hq0⟩
    have HQ0 : Hid (Mod (fun _ => False) w wa0) := HM2.out.and hq0
    clear hq0 HM2
    go_wp2_with (refine wpList_val rfl (ox_build rfl (cells := (ecl (oz 1 1 false, 0)).toArray) (by simp only [List.map_toArray, List.map_cons, List.map_nil]; exact bq0)) ?_; simp only [Act.put, List.setIfInBounds_toArray, List.set_cons_succ, List.set_cons_zero])
    refine (one_any 2 true _).mono ?_
    rintro e wa1 ⟨rfl, hq1⟩
    have HQ1 : Hid (Mod (fun _ => False) w wa1) := HQ0.out.and hq1
    clear hq1 HQ0
    go_wp2_with (refine wpList_val rfl (ox_build rfl (cells := (ecl (oz 1 2 true, 0)).toArray) (by simp only [List.map_toArray, List.map_cons, List.map_nil]; exact bq1)) ?_; simp only [Act.put, List.setIfInBounds_toArray, List.set_cons_succ, List.set_cons_zero])
    refine (old_any 3 _).mono ?_
    rintro e wa2 ⟨rfl, hq2⟩
    have HQ2 : Hid (Mod (fun _ => False) w wa2) := HQ1.out.and hq2
    clear hq2 HQ1
    go_wp2_with (refine wpList_val rfl (ox_build rfl (cells := (ecl (oz 5 3 false, 0)).toArray) (by simp only [List.map_toArray, List.map_cons, List.map_nil]; exact bq2)) ?_; simp only [Act.put, List.setIfInBounds_toArray, List.set_cons_succ, List.set_cons_zero])
    refine (one_any 5 false _).mono ?_
    rintro e wa3 ⟨rfl, hq3⟩
    have HQ3 : Hid (Mod (fun _ => False) w wa3) := HQ2.out.and hq3
    clear hq3 HQ2
    go_wp2_with (refine wpList_val rfl (ox_build rfl (cells := (ecl (oz 1 5 false, 2)).toArray) (by simp only [List.map_toArray, List.map_cons, List.map_nil]; exact bq3)) ?_; simp only [Act.put, List.setIfInBounds_toArray, List.set_cons_succ, List.set_cons_zero])
    refine (one_any 4 true _).mono ?_
    rintro e wa4 ⟨rfl, hq4⟩
    have HQ4 : Hid (Mod (fun _ => False) w wa4) := HQ3.out.and hq4
    clear hq4 HQ3
    go_wp2_with (refine wpList_val rfl (ox_build rfl (cells := (ecl (oz 1 4 true, 4)).toArray) (by simp only [List.map_toArray, List.map_cons, List.map_nil]; exact bq4)) ?_; simp only [Act.put, List.setIfInBounds_toArray, List.set_cons_succ, List.set_cons_zero])
    refine (one_any 0 false _).mono ?_
    rintro e wa5 ⟨rfl, hq5⟩
    have HQ5 : Hid (Mod (fun _ => False) w wa5) := HQ4.out.and hq5
    clear hq5 HQ4
    go_wp2_with (refine wpList_val rfl (ox_build rfl (cells := (ecl (oz 1 0 false, 4611686018427387904)).toArray) (by simp only [List.map_toArray, List.map_cons, List.map_nil]; exact bq5)) ?_; simp only [Act.put, List.setIfInBounds_toArray, List.set_cons_succ, List.set_cons_zero])
    refine (one_any 6 true _).mono ?_
    rintro e wa6 ⟨rfl, hq6⟩
    have HQ6 : Hid (Mod (fun _ => False) w wa6) := HQ5.out.and hq6
    clear hq6 HQ5
    go_wp2_with (refine wpList_val rfl (ox_build rfl (cells := (ecl (oz 1 6 true, (-9223372036854775808))).toArray) (by simp only [List.map_toArray, List.map_cons, List.map_nil]; exact bq6)) ?_; simp only [Act.put, List.setIfInBounds_toArray, List.set_cons_succ, List.set_cons_zero])
    refine (one_any 6 true _).mono ?_
    rintro e wa7 ⟨rfl, hq7⟩
    have HQ7 : Hid (Mod (fun _ => False) w wa7) := HQ6.out.and hq7
    clear hq7 HQ6
    have hb : (Instr.buildSlice 22 8 #[((0 : Nat), oag (oz 1 1 false, 0)), ((1 : Nat), oag (oz 1 2 true, 0)), ((2 : Nat), oag (oz 5 3 false, 0)), ((3 : Nat), oag (oz 1 5 false, 2)), ((4 : Nat), oag (oz 1 4 true, 4)), ((5 : Nat), oag (oz 1 0 false, 4611686018427387904)), ((6 : Nat), oag (oz 1 6 true, (-9223372036854775808))), ((7 : Nat), oag (oz 1 6 true, 9223372036854775807))]).run Try.prog wa7 = .ok (.slice (some ⟨wa7.heap.size, 0, none⟩) 8 8) (wa7.alloc (.cells (exs.flatMap ecl).toArray 44)) := run_bslice wa7 _ _ 8 19 _ _ (oag (d0, 0)) Try.underlying22 infoDz (by decide) (by decide) fill8
    have HBX : Hid (Bk _ _ _ _) := Bk.new wa7 (exs.flatMap ecl).toArray 44
    have HQ8 : Hid (Mod (fun _ => False) w (wa7.alloc (.cells (exs.flatMap ecl).toArray 44))) := HQ7.out.alloc _
    go_wp2_with (refine wpList_val rfl (ox_build rfl (cells := (ecl (oz 1 6 true, 9223372036854775807)).toArray) (by simp only [List.map_toArray, List.map_cons, List.map_nil]; exact bq7)) ?_; simp only [Act.put, List.setIfInBounds_toArray, List.set_cons_succ, List.set_cons_zero]; refine wpList_val rfl (ox_bslice rfl (v := .slice (some ⟨wa7.heap.size, 0, none⟩) 8 8) (w' := wa7.alloc (.cells (exs.flatMap ecl).toArray 44)) (by simp only [List.map_toArray, List.map_cons, List.map_nil]; exact hb)) ?_; simp only [Act.put, List.setIfInBounds_toArray, List.set_cons_succ, List.set_cons_zero])
    have HDX : Hid (Dls _ (.slice (some ⟨wa7.heap.size, 0, none⟩) 8 8) exs) := exs_dls HBX.out
    generalize wa7.alloc (.cells (exs.flatMap ecl).toArray 44) = wz at *
    generalize wa7.heap.size = gz at *
    clear hb HBX HQ7
    refine (awake_any _).mono ?_
    rintro e w7 ⟨rfl, hm7⟩
    have HD7 : Hid (Dls w7 (.slice (some ⟨gz, 0, none⟩) 8 8) exs) := HDX.out.keep hm7
    have HM7 : Hid (Mod (fun _ => False) w w7) := HQ8.out.and hm7
    clear hm7 HDX HQ8
    go_wp2_with (fail)
    refine (plays_walk _ exs _ HD7.out (by decide)).mono ?_
    rintro e w8 ⟨rfl, hm8⟩
    have HM8 : Hid (Mod (fun _ => False) w w8) := HM7.out.and hm8
    clear hm8 HD7 HM7
    go_wp2_with (fail)
    refine (plays_walk (.slice none 0 0) [] w8 ⟨⟨none, 0, rfl, fun h => absurd rfl h⟩, by simp⟩ (by decide)).mono ?_
    rintro e w9 ⟨rfl, hm9⟩
    go_wp2
    go_ret
    exact ⟨rfl, HM8.out.and hm9⟩
namespace orderNames
open Go.ChangeShapes Go.WideShapes Go.ChangeAt Go.RowKit
set_option maxRecDepth 100000 in
theorem lifted (os : Os) (started : os.Started) (H : Type) (enc : TypeId × Value → H) :
    ReturnsInHanded {} Try.checked os 6 .any (Rows.orderNamesSpec.pre6 enc Try.prog Try.f6 Rows.orderNamesRow.domain false) (Rows.orderNamesSpec.post enc Try.prog Try.f6 false true false false) := by
  refine returnsInHanded_of_change_sized (C := Try.checked) own started (by kernel_rfl) Try.func6
    (ChangeSpec.witness6 (enc := enc) (C := Try.checked) false ⟨#[], #[], []⟩ 8 (by kernel_rfl) (by kernel_rfl) (by kernel_rfl) (by kernel_rfl)) ?_
  intro W base args ds gs before hval0 hW hcnd hsz0 _
  have hval : ∀ (j : Nat) t v, Try.f6.params[j]? = some t → args[j]? = some v → Value.okWide Try.prog W .any base t v := hval0
  have hsz : (DataW.weightsEach Try.prog (Try.f6.params.toList ++ Rows.orderNamesSpec.plain.varTypes Try.prog) (ds ++ gs)).all (· ≤ reachBytes) = true := hsz0
  have hW' := hW
  obtain ⟨p, q, hA0, hV, rfl, hfz, hnd⟩ := hW
  have hA : DataW.TrodAll enc Try.prog W 0 (fun _ => true) true Try.f6.params.toList args.toList ds p := hA0
  rw [Try.params6] at hA hval hsz
  obtain ⟨hargs, rfl, rfl⟩ := trodAll_nil hA
  obtain rfl : args = #[] := by cases args; simp_all
  obtain ⟨rfl, rfl⟩ := trodVars_none hV
  clear hA0 hval0
  refine (names_walk W).mono fun e W' ⟨he, hm⟩ => ?_
  subst he
  have bel : Below W.heap.size W W' := hm.below _ (Nat.le_refl _) (fun _ h => h.elim)
  exact ⟨_, rfl, _, _, _, [], _, [], hW', trodAll_mk1 (shut_bool Try.underlying4 _), trodAll_mk0, rfl, bel.frame _, fun h => by cases h⟩

theorem over : Rows.orderNamesRow.holds Try.pinned (OpenSpec.ofChange Rows.orderNamesSpec) :=
  OpenClaim.holds_of_wide 6 Try.f6 rfl rfl rfl rfl rfl rfl rfl ⟨rfl, rfl, rfl, rfl, rfl⟩ rfl rfl rfl rfl rfl (by kernel_rfl) Try.func6 (by kernel_rfl)
    (of_decide_eq_true (by kernel_rfl)) (by unfold Func.isWrapper; first | (rw [if_pos (by decide +kernel)]; kernel_rfl) | (rw [if_neg (by decide +kernel)]; exact ⟨rfl, rfl⟩))
    (fun os started H enc _ => lifted os started H enc)
end orderNames
theorem orderNames_holds : Rows.OrderNamesSaid := orderNames.over
end Go.Proofs.Ytbmhgglnoofnjaa
