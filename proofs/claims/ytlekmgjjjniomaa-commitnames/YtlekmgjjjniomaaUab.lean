/- The document's Pass. Conditions: sizes that a slice has. -/
import Derived.Test.YtlekmgjjjniomaaUaa
import Derived.Test.YtlekmgjjjniomaaUg
import Derived.Deep.DeepCutAuto
namespace Go.Proofs.Ytlekmgjjjniomaa
open Go.RowKit
theorem vis_to (c : Cm) : vis c (toC c) = if okC c = true then rnd c else 0 := by
  unfold vis
  by_cases h : okC c = true
  · rw [toC_ok h]; simp [h]
  · simp [h]
/-- What is said of a slot. -/
def p_rpd (_g : Nat) (rs rr mm hp tw vv : Int) (cao : Option Addr) (n ccap : Nat) (i : Nat) (v : Value) (_w : World) : Prop :=
  match i with
  | 0 => v = .agg #[.int .i64 rs, .int .i64 rr, .int .i64 mm, .int .i64 hp, .slice cao n ccap]
  | 1 => v = .agg #[.int .i64 rs, .int .i64 rr, .int .i64 mm, .int .i64 hp, .slice cao n ccap]
  | 2 => v = .int .i64 tw
  | 3 => v = .int .i64 vv
  | 4 => v = .bool (vv != 2)
  | _ => True
/-- Its operations. -/
structure O_rpd (ops : Array Oper) : Prop where
  e0 : Is ops 0 (some 5) (Op.load 26 (Operand.tmp 1)) none []
  e1 : Is ops 1 (some 6) (Op.load 26 (Operand.tmp 1)) none []
  e2 : Is ops 2 (some 7) (Op.call { callee := Callee.value (Operand.func 35), args := #[Operand.tmp 6], argTypes := #[26] }) none [1]
  e3 : Is ops 3 (some 8) (Op.call { callee := Callee.value (Operand.func 19), args := #[Operand.tmp 5, Operand.tmp 7], argTypes := #[26, 3] }) none [0, 2]
  e4 : Is ops 4 (some 9) (Op.binOp BinOp.neq 3 (Operand.tmp 8) (Operand.const (Value.int IntKind.i64 2)) 3) none [3]
set_option maxRecDepth 100000 in
set_option maxHeartbeats 4000000 in
theorem rpd {ops : Array Oper} {id : Nat} {aZ : Act} {w0 : World} {Q : Exit → Act → World → Prop} (g : Nat) (rs rr mm hp tw vv : Int) (cao : Option Addr) (n ccap : Nat)
    (E : O_rpd ops) (hN : ops.size = 5) (hlow : lowB ops = true) (hds : dsts ops = [some 5, some 6, some 7, some 8, some 9]) (hnd : injB ops = true) (ha0 : aZ.tmps.size = 18)
    (bS1 : aZ.tmps.getD 1 undef = .pointer (some ⟨g, 0, none⟩))
    (k_g_0 : w0.cell? ⟨g, 0, none⟩ = some (.int .i64 rs))
    (k_g_1 : w0.cell? ⟨g, 1, none⟩ = some (.int .i64 rr))
    (k_g_2 : w0.cell? ⟨g, 2, none⟩ = some (.int .i64 mm))
    (k_g_3 : w0.cell? ⟨g, 3, none⟩ = some (.int .i64 hp))
    (k_g_4 : w0.cell? ⟨g, 4, none⟩ = some (.slice cao n ccap))
    (H2 : ∀ (W : World), Mod (fun _ => False) w0 W → Calls Try.prog 35 #[.agg #[.int .i64 rs, .int .i64 rr, .int .i64 mm, .int .i64 hp, .slice cao n ccap]] W fun e w' => e = .returned (.int .i64 tw) ∧ Mod (fun _ => False) W w')
    (H3 : ∀ (W : World), Mod (fun _ => False) w0 W → Calls Try.prog 19 #[.agg #[.int .i64 rs, .int .i64 rr, .int .i64 mm, .int .i64 hp, .slice cao n ccap], .int .i64 tw] W fun e w' => e = .returned (.int .i64 vv) ∧ Mod (fun _ => False) W w')
    (hend : ∀ (_f : Nat → Value) (w : World), Mod (fun _ => False) w0 w → Q .normal (puts aZ [(5, .agg #[.int .i64 rs, .int .i64 rr, .int .i64 mm, .int .i64 hp, .slice cao n ccap]), (6, .agg #[.int .i64 rs, .int .i64 rr, .int .i64 mm, .int .i64 hp, .slice cao n ccap]), (7, .int .i64 tw), (8, .int .i64 vv), (9, .bool (vv != 2))]) w) :
    (Code.region id ops true).wp Try.prog Q aZ w0 := by
  obtain ⟨E0, E1, E2, E3, E4⟩ := E
  have hstay : ∀ (i : Nat) (v : Value) (w w1 : World), Mod (fun _ => False) w w1 → (p_rpd g rs rr mm hp tw vv cao n ccap) i v w → (p_rpd g rs rr mm hp tw vv cao n ccap) i v w1 := fun _ _ _ _ _ h => h
  have s0 : ∀ o, ops[0]? = some o → StepI Try.prog ops (p_rpd g rs rr mm hp tw vv cao n ccap) (fun (_ : Array Bool) (_ : Act) (w : World) => Mod (fun _ => False) w0 w) aZ Q 0 o := by
    refine E0.stepI fun o hd ho hg hw => ?_
    intro y w listed hsz hls hun hwt hdown D' hRR hinv K hK
    have f1 : y.eval (Operand.tmp 1) = .pointer (some ⟨g, 0, none⟩)   := (hRR 1 (not_of (by rw [hds]; decide))).trans bS1
    have h0 := hinv.cell k_g_0 (fun h => h)
    have h1 := hinv.cell k_g_1 (fun h => h)
    have h2 := hinv.cell k_g_2 (fun h => h)
    have h3 := hinv.cell k_g_3 (fun h => h)
    have h4 := hinv.cell k_g_4 (fun h => h)
    exact .inl ⟨wanted_none hg, wp_value (ox_load (v := .agg #[.int .i64 rs, .int .i64 rr, .int .i64 mm, .int .i64 hp, .slice cao n ccap]) ho f1 (by simp [go_sem, h0, h1, h2, h3, h4])) (hK _ _ (fun _ _ _ _ _ _ h => h) rfl hinv)⟩
  have s1 : ∀ o, ops[1]? = some o → StepI Try.prog ops (p_rpd g rs rr mm hp tw vv cao n ccap) (fun (_ : Array Bool) (_ : Act) (w : World) => Mod (fun _ => False) w0 w) aZ Q 1 o := by
    refine E1.stepI fun o hd ho hg hw => ?_
    intro y w listed hsz hls hun hwt hdown D' hRR hinv K hK
    have f1 : y.eval (Operand.tmp 1) = .pointer (some ⟨g, 0, none⟩)   := (hRR 1 (not_of (by rw [hds]; decide))).trans bS1
    have h0 := hinv.cell k_g_0 (fun h => h)
    have h1 := hinv.cell k_g_1 (fun h => h)
    have h2 := hinv.cell k_g_2 (fun h => h)
    have h3 := hinv.cell k_g_3 (fun h => h)
    have h4 := hinv.cell k_g_4 (fun h => h)
    exact .inl ⟨wanted_none hg, wp_value (ox_load (v := .agg #[.int .i64 rs, .int .i64 rr, .int .i64 mm, .int .i64 hp, .slice cao n ccap]) ho f1 (by simp [go_sem, h0, h1, h2, h3, h4])) (hK _ _ (fun _ _ _ _ _ _ h => h) rfl hinv)⟩
  have s2 : ∀ o, ops[2]? = some o → StepI Try.prog ops (p_rpd g rs rr mm hp tw vv cao n ccap) (fun (_ : Array Bool) (_ : Act) (w : World) => Mod (fun _ => False) w0 w) aZ Q 2 o := by
    refine E2.stepI fun o hd ho hg hw => ?_
    intro y w listed hsz hls hun hwt hdown D' hRR hinv K hK
    have f6 : y.eval (Operand.tmp 6) = .agg #[.int .i64 rs, .int .i64 rr, .int .i64 mm, .int .i64 hp, .slice cao n ccap] := E1.postI (Post := (p_rpd g rs rr mm hp tw vv cao n ccap)) (a := y) (w := w) D' (hwt 1 (hw 1 (by simp)))
    refine .inl ⟨wanted_none hg, wp_enter (f := 35) (args := #[.agg #[.int .i64 rs, .int .i64 rr, .int .i64 mm, .int .i64 hp, .slice cao n ccap]]) ?_ (H2 w  hinv ) ?_⟩
    · have h := exec_call1 y.eval (fun args w => by simp [go_sem]) rfl ho (w := w)
      rw [f6] at h
      exact h
    · rintro e w' ⟨rfl, hm⟩
      exact ⟨_, rfl, hK _ _ (fun j oj d _ _ _ h => hstay _ _ _ _ hm h) rfl (hinv.and hm)⟩
  have s3 : ∀ o, ops[3]? = some o → StepI Try.prog ops (p_rpd g rs rr mm hp tw vv cao n ccap) (fun (_ : Array Bool) (_ : Act) (w : World) => Mod (fun _ => False) w0 w) aZ Q 3 o := by
    refine E3.stepI fun o hd ho hg hw => ?_
    intro y w listed hsz hls hun hwt hdown D' hRR hinv K hK
    have f5 : y.eval (Operand.tmp 5) = .agg #[.int .i64 rs, .int .i64 rr, .int .i64 mm, .int .i64 hp, .slice cao n ccap] := E0.postI (Post := (p_rpd g rs rr mm hp tw vv cao n ccap)) (a := y) (w := w) D' (hwt 0 (hw 0 (by simp)))
    have f7 : y.eval (Operand.tmp 7) = .int .i64 tw := E2.postI (Post := (p_rpd g rs rr mm hp tw vv cao n ccap)) (a := y) (w := w) D' (hwt 2 (hw 2 (by simp)))
    refine .inl ⟨wanted_none hg, wp_enter (f := 19) (args := #[.agg #[.int .i64 rs, .int .i64 rr, .int .i64 mm, .int .i64 hp, .slice cao n ccap], .int .i64 tw]) ?_ (H3 w  hinv ) ?_⟩
    · have h := exec_call2 y.eval (fun args w => by simp [go_sem]) rfl ho (w := w)
      rw [f5, f7] at h
      exact h
    · rintro e w' ⟨rfl, hm⟩
      exact ⟨_, rfl, hK _ _ (fun j oj d _ _ _ h => hstay _ _ _ _ hm h) rfl (hinv.and hm)⟩
  have s4 : ∀ o, ops[4]? = some o → StepI Try.prog ops (p_rpd g rs rr mm hp tw vv cao n ccap) (fun (_ : Array Bool) (_ : Act) (w : World) => Mod (fun _ => False) w0 w) aZ Q 4 o := by
    refine E4.stepI fun o hd ho hg hw => ?_
    intro y w listed hsz hls hun hwt hdown D' hRR hinv K hK
    have f8 : y.eval (Operand.tmp 8) = .int .i64 vv := E3.postI (Post := (p_rpd g rs rr mm hp tw vv cao n ccap)) (a := y) (w := w) D' (hwt 3 (hw 3 (by simp)))
    exact .inl ⟨wanted_none hg, wp_value (rx_neq ho f8 rfl) (hK _ _ (fun _ _ _ _ _ _ h => h) rfl hinv)⟩
  refine region_freeI (Post := (p_rpd g rs rr mm hp tw vv cao n ccap)) (Inv := (fun (_ : Array Bool) (_ : Act) (w : World) => Mod (fun _ => False) w0 w)) mixed (low_of hlow) (fun i o ho => by rw [ha0]; exact dst_of (by rw [hds]; decide) i o ho) (inj_of hnd) (Mod.refl _ _).drew ?_ ?_
  · intro i o ho
    have hi : i < 5 := by
      rw [← hN]
      rcases Nat.lt_or_ge i ops.size with h | h
      · exact h
      · rw [Array.getElem?_eq_none h] at ho; cases ho
    clear hend
    by_cases e0 : i = 0
    · subst e0; exact s0 o ho
    by_cases e1 : i = 1
    · subst e1; exact s1 o ho
    by_cases e2 : i = 2
    · subst e2; exact s2 o ho
    by_cases e3 : i = 3
    · subst e3; exact s3 o ho
    by_cases e4 : i = 4
    · subst e4; exact s4 o ho
    omega
  · intro y w listed hsz hdf hls hall hinv hPO hRE
    have e : y = puts aZ [(5, .agg #[.int .i64 rs, .int .i64 rr, .int .i64 mm, .int .i64 hp, .slice cao n ccap]), (6, .agg #[.int .i64 rs, .int .i64 rr, .int .i64 mm, .int .i64 hp, .slice cao n ccap]), (7, .int .i64 tw), (8, .int .i64 vv), (9, .bool (vv != 2))] := by
      refine eq_puts hsz hdf (nodup_of (D := [some 5, some 6, some 7, some 8, some 9]) rfl (by decide)) (by rw [ha0]; simp) ?_ ?_
      · intro q hq
        simp only [List.mem_cons, List.not_mem_nil, or_false] at hq
        rcases hq with rfl | rfl | rfl | rfl | rfl
        · obtain ⟨o, h1, h2, _⟩ := E0.ex
          exact hPO 0 o _ h1 h2
        · obtain ⟨o, h1, h2, _⟩ := E1.ex
          exact hPO 1 o _ h1 h2
        · obtain ⟨o, h1, h2, _⟩ := E2.ex
          exact hPO 2 o _ h1 h2
        · obtain ⟨o, h1, h2, _⟩ := E3.ex
          exact hPO 3 o _ h1 h2
        · obtain ⟨o, h1, h2, _⟩ := E4.ex
          exact hPO 4 o _ h1 h2
      · intro t ht
        exact hRE t (not_of (by rw [hds]; exact not_cont rfl ht))
    rw [e]
    exact hend (fun d => y.tmps.getD d undef) w hinv
set_option maxRecDepth 100000 in
set_option maxHeartbeats 4000000 in
theorem dPass (w : World) (v : Value) (c : Cm) (h : Cv w v c) (hhp : I64 c.hop) : Calls Try.prog 14 #[v] w fun e w' => ∃ v', e = .returned (.tuple #[v', .int .i64 (pasC c).2]) ∧ Cn w w' v' (pasC c).1 ∧ Mod (fun _ => False) w w' := by
  obtain ⟨rs, rr, mm, hp, ce⟩ := c
  obtain ⟨cao, ccap, rfl, hs⟩ := h.form
  simp only at *
  have HT := fun W => dTo rs rr mm hp cao ccap ce W hhp
  have HV := fun W h => dVisit W (.agg #[.int .i64 rs, .int .i64 rr, .int .i64 mm, .int .i64 hp, .slice cao ce.length ccap]) ⟨rs, rr, mm, hp, ce⟩ (toC ⟨rs, rr, mm, hp, ce⟩) h hhp
  rw [vis_to] at HV
  have hpv : pasC ⟨rs, rr, mm, hp, ce⟩ = if okC ⟨rs, rr, mm, hp, ce⟩ = true ∧ rnd ⟨rs, rr, mm, hp, ce⟩ = 2 then (onw ⟨rs, rr, mm, hp, ce⟩ [], 0) else (Cm.zero, 2) := rfl
  have how : onw ⟨rs, rr, mm, hp, ce⟩ [] = ⟨rs, rr, mm, hp + 1, ce⟩ := by simp [onw]
  have hv2 : (if okC ⟨rs, rr, mm, hp, ce⟩ = true then rnd ⟨rs, rr, mm, hp, ce⟩ else 0) = 2 ↔ (okC ⟨rs, rr, mm, hp, ce⟩ = true ∧ rnd ⟨rs, rr, mm, hp, ce⟩ = 2) := by
    split
    · rename_i h; simp [h]
    · rename_i h; simp [h]
  have hbd : okC ⟨rs, rr, mm, hp, ce⟩ = true → 1 ≤ hp ∧ hp ≤ 16 ∧ ce.length ≤ 8 := fun h => by have := okC_hop h; simp only [nC] at this; omega
  have hq : pasC ⟨rs, rr, mm, hp, ce⟩ = if (if okC ⟨rs, rr, mm, hp, ce⟩ = true then rnd ⟨rs, rr, mm, hp, ce⟩ else 0) = 2 then (⟨rs, rr, mm, hp + 1, ce⟩, 0) else (Cm.zero, 2) := by
    rw [hpv, how]
    by_cases hz : okC ⟨rs, rr, mm, hp, ce⟩ = true ∧ rnd ⟨rs, rr, mm, hp, ce⟩ = 2
    · rw [if_pos hz, if_pos (hv2.2 hz)]
    · rw [if_neg hz, if_neg (fun h => hz (hv2.1 h))]
  have hbd2 : (if okC ⟨rs, rr, mm, hp, ce⟩ = true then rnd ⟨rs, rr, mm, hp, ce⟩ else 0) = 2 → 1 ≤ hp ∧ hp ≤ 16 ∧ ce.length ≤ 8 := fun h => hbd (hv2.1 h).1
  generalize pasC ⟨rs, rr, mm, hp, ce⟩ = RR at *
  clear hpv how hv2 hbd
  generalize (if okC ⟨rs, rr, mm, hp, ce⟩ = true then rnd ⟨rs, rr, mm, hp, ce⟩ else 0) = vv at *
  generalize toC ⟨rs, rr, mm, hp, ce⟩ = tw at *
  have HRR : Hid (RR = if vv = 2 then (⟨rs, rr, mm, hp + 1, ce⟩, 0) else (Cm.zero, 2)) := hq
  clear hq
  obtain ⟨W1, hW⟩ : ∃ W1, W1 = (w.alloc (.cells #[.int .i64 rs, .int .i64 rr, .int .i64 mm, .int .i64 hp, .slice cao ce.length ccap] 26)).alloc (.cells #[.int .i64 0, .int .i64 0, .int .i64 0, .int .i64 0, .slice none 0 0] 26) := ⟨_, rfl⟩
  have hM : Mod (fun _ => False) w W1 := by rw [hW]; exact ((Mod.refl (fun _ => False) w).alloc _).alloc _
  have h0 : Bk W1 w.heap.size 26 #[.int .i64 rs, .int .i64 rr, .int .i64 mm, .int .i64 hp, .slice cao ce.length ccap] := by rw [hW]; exact (Bk.new w _ _).mod ((Mod.refl (fun _ => False) _).alloc _) (fun h => h)
  have h1 : Bk W1 (w.heap.size + 1) 26 #[.int .i64 0, .int .i64 0, .int .i64 0, .int .i64 0, .slice none 0 0] := by
    rw [hW]
    have := Bk.new (w.alloc (.cells #[.int .i64 rs, .int .i64 rr, .int .i64 mm, .int .i64 hp, .slice cao ce.length ccap] 26)) #[.int .i64 0, .int .i64 0, .int .i64 0, .int .i64 0, .slice none 0 0] 26
    simpa using this
  have hsz : W1.heap.size = w.heap.size + 2 := by rw [hW]; simp
  replace h := h.keep hM
  replace hs := hs.keep hM
  go_enter Try.func14, Try.ntmps14
  go_upto_region 1 with fail
  rw [← hW]
  clear hW
  refine rpd w.heap.size rs rr mm hp tw vv cao ce.length ccap ⟨⟨⟨_, rfl, rfl, rfl, rfl, by decide +kernel⟩⟩, ⟨⟨_, rfl, rfl, rfl, rfl, by decide +kernel⟩⟩, ⟨⟨_, rfl, rfl, rfl, rfl, by decide +kernel⟩⟩, ⟨⟨_, rfl, rfl, rfl, rfl, by decide +kernel⟩⟩, ⟨⟨_, rfl, rfl, rfl, rfl, by decide +kernel⟩⟩⟩ rfl (by decide +kernel) rfl (by decide +kernel) rfl rfl (h0.cellv rfl) (h0.cellv rfl) (h0.cellv rfl) (h0.cellv rfl) (h0.cellv rfl) (fun W _ => HT W) (fun W hW => HV W (h.keep hW)) ?_
  intro f w2 hm2
  simp only [puts, Act.put, List.setIfInBounds_toArray, List.set_cons_succ, List.set_cons_zero]
  have hsz2 := hm2.size
  rw [hsz] at hsz2
  clear hsz
  replace hM := hM.and hm2
  replace hs := hs.keep hm2
  replace h0 := h0.mod hm2 (fun h => h)
  replace h1 := h1.mod hm2 (fun h => h)
  clear hm2 h HT HV
  by_cases hv : vv = 2
  · have e : RR = (⟨rs, rr, mm, hp + 1, ce⟩, 0) := by rw [HRR.out, if_pos hv]
    subst e
    clear HRR
    obtain ⟨q1, q2, q3⟩ := hbd2 hv
    subst hv
    clear hbd2
    obtain ⟨a0, a1, a2, a3, a4⟩ := (⟨h0.cellv (j := 0) rfl, h0.cellv (j := 1) rfl, h0.cellv (j := 2) rfl, h0.cellv (j := 3) rfl, h0.cellv (j := 4) rfl⟩ : _ ∧ _ ∧ _ ∧ _ ∧ _)
    go_wp2_with (fail)
    refine (dCopied rs rr mm hp cao ccap ce _ hs (by omega)).mono ?_
    rintro e w3 ⟨ax, cx, rfl, hr, hm3, hn3⟩
    clear a0 a1 a2 a3 a4
    have hsz3 := hm3.size
    go_upto_region 4 with fail
    obtain ⟨W4, hW4⟩ : ∃ W4, W4 = w3.alloc (.cells #[.int .i64 rs, .int .i64 rr, .int .i64 mm, .int .i64 hp, .slice ax ce.length cx] 26) := ⟨_, rfl⟩
    have hm4 : Mod (fun _ => False) w3 W4 := by rw [hW4]; exact (Mod.refl _ w3).alloc _
    have k0 : Bk W4 w3.heap.size 26 #[.int .i64 rs, .int .i64 rr, .int .i64 mm, .int .i64 hp, .slice ax ce.length cx] := by rw [hW4]; exact Bk.new w3 _ _
    rw [← hW4]
    clear hW4
    replace h0 := (h0.mod hm3 (fun h => h)).mod hm4 (fun h => h)
    replace h1 := (h1.mod hm3 (fun h => h)).mod hm4 (fun h => h)
    have a3 := h0.cellv (j := 3) (v := .int .i64 hp) rfl
    have b3 := k0.cellv (j := 3) (v := .int .i64 hp) rfl
    have f3 := k0.frz 3
    have hmA : Mod (fun k => k = w3.heap.size) W4 (W4.setCell ⟨w3.heap.size, 3, none⟩ (.int .i64 (hp + 1))) := (Mod.refl _ W4).setCell _ _ (.inl rfl)
    have hbA := k0.set 3 (.int .i64 (hp + 1))
    have hbB := h1.mod hmA (by omega)
    simp only [List.setIfInBounds_toArray, List.set_cons_succ, List.set_cons_zero] at hbA
    have HR : Hid (RE W4 (.slice ax ce.length cx) ce ∧ Mod (fun _ => False) w W4 ∧ (∀ g, (Value.slice ax ce.length cx).ownBlock = some g → w.heap.size + 2 ≤ g ∧ g < w3.heap.size) ∧ w.heap.size + 2 ≤ w3.heap.size) := ⟨hr.keep hm4, (hM.and hm3).and hm4, fun g hg => by have h1 := hn3 g hg; have h2 := hr.lt g hg; omega, by omega⟩
    clear hr hm3 hn3 hm4 hM hs h0 h1 k0 hsz3 hsz2
    go_upto_region 5 with fail
    clear a3 b3 f3
    go_wp2_with (first | (refine wpList_load_row infoC Try.underlying26 rfl rfl _ rfl w3.heap.size rfl hbA rfl ?_) | (refine wpList_store_row infoC rfl rfl _ _ rfl (w.heap.size + 1) #[.int .i64 rs, .int .i64 rr, .int .i64 mm, .int .i64 (hp + 1), .slice ax ce.length cx] rfl rfl hbB rfl rfl rfl ?_; intro wF hBF hMF))
    refine bodyPost_ret (resT2 infoC Try.underlying26 rfl rfl rfl rfl hBF rfl) rfl ⟨_, rfl, ⟨ax, cx, rfl, ?_, fun g hg => by have := HR.out.2.2.1 g hg; omega⟩, ?_⟩
    · exact (HR.out.1.mod hmA fun g hg e => by have := HR.out.2.2.1 g hg; omega).mod hMF fun g hg e => by have := HR.out.2.2.1 g hg; omega
    · exact (HR.out.2.1.trans hmA (V := fun _ => False) (fun _ _ h => h) (fun i hi h => by have := HR.out.2.2.2; omega)).trans hMF (V := fun _ => False) (fun _ _ h => h) (fun i hi h => by omega)
  · have e : RR = (Cm.zero, 2) := by rw [HRR.out, if_neg hv]
    subst e
    clear HRR
    have hvb : (vv != 2) = true := by simpa using hv
    have HH : Hid (Bk w2 (w.heap.size + 1) 26 #[.int .i64 0, .int .i64 0, .int .i64 0, .int .i64 0, .slice none 0 0] ∧ Mod (fun _ => False) w w2) := ⟨h1, hM⟩
    clear hv hbd2 h0 h1 hM hs hsz2
    go_wp2_with (refine wpList_store_row infoC rfl rfl _ _ rfl (w.heap.size + 1) #[.int .i64 0, .int .i64 0, .int .i64 0, .int .i64 0, .slice none 0 0] rfl rfl HH.out.1 rfl rfl rfl ?_; intro wF hBF hMF)
    have hmF : Mod (fun _ => False) w wF := HH.out.2.trans hMF (V := fun _ => False) (fun _ _ h => h) (fun i hi h => by omega)
    exact bodyPost_ret (resT2 infoC Try.underlying26 rfl rfl rfl rfl hBF rfl) rfl ⟨_, rfl, Cn.zero _ _, hmF⟩
end Go.Proofs.Ytlekmgjjjniomaa
