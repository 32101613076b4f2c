/- The document's to and Check of a commit. Conditions: sizes that a slice has. -/
import Derived.Test.YtlekmgjjjniomaaUv
import Derived.Deep.DeepCutAuto
namespace Go.Proofs.Ytlekmgjjjniomaa
open Go.RowKit
/-- To whom it is on its way. -/
def toC (c : Cm) : Int := if Cr.chk c.mem = 0 ∧ c.mem ≠ 0 ∧ 0 ≤ c.hop then rcv c else 0
theorem dC_to (c : Cm) : dC c (toC c) = okC c := by
  unfold dC
  cases h : okC c
  · rfl
  · have h1 := okC_hop h
    have h2 : Cr.chk c.mem = 0 := by simp only [okC, Bool.and_eq_true, beq_iff_eq] at h; exact h.1.1.1.1.1.1
    have h3 : c.mem ≠ 0 := by
      intro e
      have h4 : 0 < Cr.cn (Cr.lo c.mem) := by simp only [okC, Bool.and_eq_true, decide_eq_true_eq] at h; exact h.1.1.1.1.1.2
      rw [e] at h4
      revert h4
      decide
    simp [toC, h2, h3, show 0 ≤ c.hop by omega]
set_option maxRecDepth 100000 in
set_option maxHeartbeats 4000000 in
theorem dTo (rs rr mm hp : Int) (cao : Option Addr) (ccap : Nat) (ce : List Ey) (w : World) (hhp : I64 hp) :
    Calls Try.prog 35 #[.agg #[.int .i64 rs, .int .i64 rr, .int .i64 mm, .int .i64 hp, .slice cao ce.length ccap]] w fun e w' => e = .returned (.int .i64 (toC ⟨rs, rr, mm, hp, ce⟩)) ∧ Mod (fun _ => False) w w' := by
  have hM := (Mod.refl (fun _ => False) w).alloc (.cells #[.int .i64 rs, .int .i64 rr, .int .i64 mm, .int .i64 hp, .slice cao ce.length ccap] 26)
  have hBk := Bk.new w #[.int .i64 rs, .int .i64 rr, .int .i64 mm, .int .i64 hp, .slice cao ce.length ccap] 26
  have HL := Cr.RList mm
  have HK := Cr.RCheck mm
  have hl8 := cn_le mm
  have hcn := cn_zero mm
  rw [← lo_cn] at hl8 hcn
  have hr : rcv ⟨rs, rr, mm, hp, ce⟩ = (Cr.ls (Cr.lo mm)).getD (hp.toNat % (Cr.ls (Cr.lo mm)).length) 0 := rfl
  have ht0 : toC ⟨rs, rr, mm, hp, ce⟩ = if Cr.chk mm = 0 ∧ mm ≠ 0 ∧ 0 ≤ hp then rcv ⟨rs, rr, mm, hp, ce⟩ else 0 := rfl
  rw [ht0, hr]
  clear hr ht0
  have hhi : hp ≤ 9223372036854775807 := hhp.2
  generalize Cr.ls (Cr.lo mm) = L at HL hl8 hcn ⊢
  generalize Cr.chk mm = ec at HK hcn ⊢
  obtain ⟨R, hR⟩ : ∃ R, R = if ec = 0 ∧ mm ≠ 0 ∧ 0 ≤ hp then L.getD (hp.toNat % L.length) 0 else 0 := ⟨_, rfl⟩
  rw [← hR]
  have HR : Hid (R = _) := hR
  clear hR
  go_enter Try.func35, Try.ntmps35
  go_wp2_with (fail)
  refine (HK _).mono ?_
  rintro e w1 ⟨rfl, hm1⟩
  replace hM := hM.and hm1
  replace hBk := hBk.mod hm1 (fun h => h)
  have a2 := hBk.cellv (j := 2) (v := .int .i64 mm) rfl
  have a3 := hBk.cellv (j := 3) (v := .int .i64 hp) rfl
  clear hm1 HK
  by_cases hok : ec = 0 ∧ mm ≠ 0 ∧ 0 ≤ hp
  · have hR := HR.out
    rw [if_pos hok] at hR
    clear HR
    obtain ⟨he, hm0, hh0⟩ := hok
    have hpos := hcn he hm0
    subst he
    have hmb : (mm == 0) = false := by simpa using hm0
    have hhb : decide (hp < 0) = false := by simp; omega
    have ht : hp.tmod (L.length : Int) = ((hp.toNat % L.length : Nat) : Int) := by
      rw [Int.tmod_eq_emod_of_nonneg (by omega)]
      obtain ⟨n, rfl⟩ := Int.eq_ofNat_of_zero_le (show 0 ≤ hp by omega)
      simp
    have hlt : hp.toNat % L.length < L.length := Nat.mod_lt _ hpos
    generalize hp.toNat % L.length = q at ht hlt hR
    have hqi : (q : Int) < L.length := by omega
    have hq0 : (0 : Int) ≤ q := by omega
    have hl0 : ¬ (L.length : Int) = 0 := by omega
    have HX : Hid (L.getD q 0 = R) := hR.symm
    clear hR hcn
    go_wp2_with (fail)
    refine (HL _).mono ?_
    rintro e w2 ⟨v, rfl, ho, hm2, _⟩
    obtain ⟨ao, cap, rfl, h1, h2, h3, h4⟩ := ho.sl
    obtain ⟨b, off, rfl, hc⟩ := h4 (List.length_pos_iff.1 hpos)
    have hcq := hc q hlt
    clear a2 a3
    have a3 := (hBk.mod hm2 (fun h => h)).cellv (j := 3) (v := .int .i64 hp) rfl
    rw [HX.out] at hcq
    clear hc h4 hBk HL
    go_wp2
    go_ret
    exact ⟨rfl, hM.and hm2⟩
  · have hR := HR.out
    rw [if_neg hok] at hR
    subst hR
    clear hcn HL hBk HR
    by_cases he : ec = 0
    · subst he
      by_cases hm0 : mm = 0
      · subst hm0
        clear hok
        go_wp2
        go_ret
        exact ⟨rfl, hM⟩
      · have hmb : (mm == 0) = false := by simpa using hm0
        have hhb : decide (hp < 0) = true := by simp; have := hm0; omega
        have hh : hp < 0 := by simpa using hhb
        clear hok
        go_wp2
        go_ret
        exact ⟨rfl, hM⟩
    · have heb : (ec != 0) = true := by simpa using he
      clear hok
      go_wp2
      go_ret
      exact ⟨rfl, hM⟩
theorem bdQ {o : Oper} {w : World} {ρ : Operand → Value} (ho : o.op = Op.build 73 #[(0, Operand.const (Value.int IntKind.i64 4)), (1, Operand.tmp 4), (5, Operand.tmp 5)]) (hc : ∀ v, ρ (Operand.const v) = v) {tw rs rr mm hp : Int} {cao : Option Addr} {n ccap : Nat} (h4 : ρ (Operand.tmp 4) = .int .i64 tw) (h5 : ρ (Operand.tmp 5) = .agg #[.int .i64 rs, .int .i64 rr, .int .i64 mm, .int .i64 hp, .slice cao n ccap]) : (execOp ρ o).run Try.prog w = .ok (.value (.agg (pxC tw rs rr mm hp cao n ccap))) w := by
  simp [execOp, ho, hc, h4, h5, pxC, go_sem]
/-- What is said of a slot. -/
def p_rcd (_g : Nat) (rs rr mm hp tw ec : Int) (cao : Option Addr) (n ccap : Nat) (i : Nat) (v : Value) (_w : World) : Prop :=
  match i with
  | 0 => v = .agg #[.int .i64 rs, .int .i64 rr, .int .i64 mm, .int .i64 hp, .slice cao n ccap]
  | 1 => v = .int .i64 tw
  | 2 => v = .agg #[.int .i64 rs, .int .i64 rr, .int .i64 mm, .int .i64 hp, .slice cao n ccap]
  | 3 => v = .agg (pxC tw rs rr mm hp cao n ccap)
  | 4 => v = .int .i64 ec
  | 5 => v = .int .i64 ec
  | _ => True
/-- Its operations. -/
structure O_rcd (ops : Array Oper) : Prop where
  e0 : Is ops 0 (some 3) (Op.load 26 (Operand.tmp 1)) none []
  e1 : Is ops 1 (some 4) (Op.call { callee := Callee.value (Operand.func 35), args := #[Operand.tmp 3], argTypes := #[26] }) none [0]
  e2 : Is ops 2 (some 5) (Op.load 26 (Operand.tmp 1)) none []
  e3 : Is ops 3 (some 6) (Op.build 73 #[(0, Operand.const (Value.int IntKind.i64 4)), (1, Operand.tmp 4), (5, Operand.tmp 5)]) none [1, 2]
  e4 : Is ops 4 (some 7) (Op.call { callee := Callee.value (Operand.func 41), args := #[Operand.tmp 6], argTypes := #[73] }) none [1, 3]
  e5 : Is ops 5 (some 2) (Op.assign (Operand.tmp 7)) none [0, 1, 2, 3, 4]
set_option maxRecDepth 100000 in
set_option maxHeartbeats 4000000 in
theorem rcd {ops : Array Oper} {id : Nat} {aZ : Act} {w0 : World} {Q : Exit → Act → World → Prop} (g : Nat) (rs rr mm hp tw ec : Int) (cao : Option Addr) (n ccap : Nat)
    (E : O_rcd ops) (hN : ops.size = 6) (hlow : lowB ops = true) (hds : dsts ops = [some 3, some 4, some 5, some 6, some 7, some 2]) (hnd : injB ops = true) (ha0 : aZ.tmps.size = 8)
    (bS1 : aZ.tmps.getD 1 undef = .pointer (some ⟨g, 0, none⟩))
    (k_g_0 : w0.cell? ⟨g, 0, none⟩ = some (.int .i64 rs))
    (k_g_1 : w0.cell? ⟨g, 1, none⟩ = some (.int .i64 rr))
    (k_g_2 : w0.cell? ⟨g, 2, none⟩ = some (.int .i64 mm))
    (k_g_3 : w0.cell? ⟨g, 3, none⟩ = some (.int .i64 hp))
    (k_g_4 : w0.cell? ⟨g, 4, none⟩ = some (.slice cao n ccap))
    (H1 : ∀ (W : World), Mod (fun _ => False) w0 W → Calls Try.prog 35 #[.agg #[.int .i64 rs, .int .i64 rr, .int .i64 mm, .int .i64 hp, .slice cao n ccap]] W fun e w' => e = .returned (.int .i64 tw) ∧ Mod (fun _ => False) W w')
    (H4 : ∀ (W : World), Mod (fun _ => False) w0 W → Calls Try.prog 41 #[.agg (pxC tw rs rr mm hp cao n ccap)] W fun e w' => e = .returned (.int .i64 ec) ∧ Mod (fun _ => False) W w')
    (hend : ∀ (_f : Nat → Value) (w : World), Mod (fun _ => False) w0 w → Q .normal (puts aZ [(3, .agg #[.int .i64 rs, .int .i64 rr, .int .i64 mm, .int .i64 hp, .slice cao n ccap]), (4, .int .i64 tw), (5, .agg #[.int .i64 rs, .int .i64 rr, .int .i64 mm, .int .i64 hp, .slice cao n ccap]), (6, .agg (pxC tw rs rr mm hp cao n ccap)), (7, .int .i64 ec), (2, .int .i64 ec)]) w) :
    (Code.region id ops true).wp Try.prog Q aZ w0 := by
  obtain ⟨E0, E1, E2, E3, E4, E5⟩ := E
  have hstay : ∀ (i : Nat) (v : Value) (w w1 : World), Mod (fun _ => False) w w1 → (p_rcd g rs rr mm hp tw ec cao n ccap) i v w → (p_rcd g rs rr mm hp tw ec cao n ccap) i v w1 := fun _ _ _ _ _ h => h
  have s0 : ∀ o, ops[0]? = some o → StepI Try.prog ops (p_rcd g rs rr mm hp tw ec cao n ccap) (fun (_ : Array Bool) (_ : Act) (w : World) => Mod (fun _ => False) w0 w) aZ Q 0 o := by
    refine E0.stepI fun o hd ho hg hw => ?_
    intro y w listed hsz hls hun hwt hdown D' hRR hinv K hK
    have f1 : y.eval (Operand.tmp 1) = .pointer (some ⟨g, 0, none⟩)   := (hRR 1 (not_of (by rw [hds]; decide))).trans bS1
    have h0 := hinv.cell k_g_0 (fun h => h)
    have h1 := hinv.cell k_g_1 (fun h => h)
    have h2 := hinv.cell k_g_2 (fun h => h)
    have h3 := hinv.cell k_g_3 (fun h => h)
    have h4 := hinv.cell k_g_4 (fun h => h)
    exact .inl ⟨wanted_none hg, wp_value (ox_load (v := .agg #[.int .i64 rs, .int .i64 rr, .int .i64 mm, .int .i64 hp, .slice cao n ccap]) ho f1 (by simp [go_sem, h0, h1, h2, h3, h4])) (hK _ _ (fun _ _ _ _ _ _ h => h) rfl hinv)⟩
  have s1 : ∀ o, ops[1]? = some o → StepI Try.prog ops (p_rcd g rs rr mm hp tw ec cao n ccap) (fun (_ : Array Bool) (_ : Act) (w : World) => Mod (fun _ => False) w0 w) aZ Q 1 o := by
    refine E1.stepI fun o hd ho hg hw => ?_
    intro y w listed hsz hls hun hwt hdown D' hRR hinv K hK
    have f3 : y.eval (Operand.tmp 3) = .agg #[.int .i64 rs, .int .i64 rr, .int .i64 mm, .int .i64 hp, .slice cao n ccap] := E0.postI (Post := (p_rcd g rs rr mm hp tw ec cao n ccap)) (a := y) (w := w) D' (hwt 0 (hw 0 (by simp)))
    refine .inl ⟨wanted_none hg, wp_enter (f := 35) (args := #[.agg #[.int .i64 rs, .int .i64 rr, .int .i64 mm, .int .i64 hp, .slice cao n ccap]]) ?_ (H1 w  hinv ) ?_⟩
    · have h := exec_call1 y.eval (fun args w => by simp [go_sem]) rfl ho (w := w)
      rw [f3] at h
      exact h
    · rintro e w' ⟨rfl, hm⟩
      exact ⟨_, rfl, hK _ _ (fun j oj d _ _ _ h => hstay _ _ _ _ hm h) rfl (hinv.and hm)⟩
  have s2 : ∀ o, ops[2]? = some o → StepI Try.prog ops (p_rcd g rs rr mm hp tw ec cao n ccap) (fun (_ : Array Bool) (_ : Act) (w : World) => Mod (fun _ => False) w0 w) aZ Q 2 o := by
    refine E2.stepI fun o hd ho hg hw => ?_
    intro y w listed hsz hls hun hwt hdown D' hRR hinv K hK
    have f1 : y.eval (Operand.tmp 1) = .pointer (some ⟨g, 0, none⟩)   := (hRR 1 (not_of (by rw [hds]; decide))).trans bS1
    have h0 := hinv.cell k_g_0 (fun h => h)
    have h1 := hinv.cell k_g_1 (fun h => h)
    have h2 := hinv.cell k_g_2 (fun h => h)
    have h3 := hinv.cell k_g_3 (fun h => h)
    have h4 := hinv.cell k_g_4 (fun h => h)
    exact .inl ⟨wanted_none hg, wp_value (ox_load (v := .agg #[.int .i64 rs, .int .i64 rr, .int .i64 mm, .int .i64 hp, .slice cao n ccap]) ho f1 (by simp [go_sem, h0, h1, h2, h3, h4])) (hK _ _ (fun _ _ _ _ _ _ h => h) rfl hinv)⟩
  have s3 : ∀ o, ops[3]? = some o → StepI Try.prog ops (p_rcd g rs rr mm hp tw ec cao n ccap) (fun (_ : Array Bool) (_ : Act) (w : World) => Mod (fun _ => False) w0 w) aZ Q 3 o := by
    refine E3.stepI fun o hd ho hg hw => ?_
    intro y w listed hsz hls hun hwt hdown D' hRR hinv K hK
    have f4 : y.eval (Operand.tmp 4) = .int .i64 tw := E1.postI (Post := (p_rcd g rs rr mm hp tw ec cao n ccap)) (a := y) (w := w) D' (hwt 1 (hw 1 (by simp)))
    have f5 : y.eval (Operand.tmp 5) = .agg #[.int .i64 rs, .int .i64 rr, .int .i64 mm, .int .i64 hp, .slice cao n ccap] := E2.postI (Post := (p_rcd g rs rr mm hp tw ec cao n ccap)) (a := y) (w := w) D' (hwt 2 (hw 2 (by simp)))
    exact .inl ⟨wanted_none hg, wp_value (bdQ ho (fun _ => rfl) f4 f5) (hK _ _ (fun _ _ _ _ _ _ h => h) rfl hinv)⟩
  have s4 : ∀ o, ops[4]? = some o → StepI Try.prog ops (p_rcd g rs rr mm hp tw ec cao n ccap) (fun (_ : Array Bool) (_ : Act) (w : World) => Mod (fun _ => False) w0 w) aZ Q 4 o := by
    refine E4.stepI fun o hd ho hg hw => ?_
    intro y w listed hsz hls hun hwt hdown D' hRR hinv K hK
    have f6 : y.eval (Operand.tmp 6) = .agg (pxC tw rs rr mm hp cao n ccap) := E3.postI (Post := (p_rcd g rs rr mm hp tw ec cao n ccap)) (a := y) (w := w) D' (hwt 3 (hw 3 (by simp)))
    refine .inl ⟨wanted_none hg, wp_enter (f := 41) (args := #[.agg (pxC tw rs rr mm hp cao n ccap)]) ?_ (H4 w  hinv ) ?_⟩
    · have h := exec_call1 y.eval (fun args w => by simp [go_sem]) rfl ho (w := w)
      rw [f6] at h
      exact h
    · rintro e w' ⟨rfl, hm⟩
      exact ⟨_, rfl, hK _ _ (fun j oj d _ _ _ h => hstay _ _ _ _ hm h) rfl (hinv.and hm)⟩
  have s5 : ∀ o, ops[5]? = some o → StepI Try.prog ops (p_rcd g rs rr mm hp tw ec cao n ccap) (fun (_ : Array Bool) (_ : Act) (w : World) => Mod (fun _ => False) w0 w) aZ Q 5 o := by
    refine E5.stepI fun o hd ho hg hw => ?_
    intro y w listed hsz hls hun hwt hdown D' hRR hinv K hK
    have f7 : y.eval (Operand.tmp 7) = .int .i64 ec := E4.postI (Post := (p_rcd g rs rr mm hp tw ec cao n ccap)) (a := y) (w := w) D' (hwt 4 (hw 4 (by simp)))
    exact .inl ⟨wanted_none hg, wp_value (rx_assign ho f7) (hK _ _ (fun _ _ _ _ _ _ h => h) rfl hinv)⟩
  refine region_freeI (Post := (p_rcd g rs rr mm hp tw ec cao n ccap)) (Inv := (fun (_ : Array Bool) (_ : Act) (w : World) => Mod (fun _ => False) w0 w)) mixed (low_of hlow) (fun i o ho => by rw [ha0]; exact dst_of (by rw [hds]; decide) i o ho) (inj_of hnd) (Mod.refl _ _).drew ?_ ?_
  · intro i o ho
    have hi : i < 6 := by
      rw [← hN]
      rcases Nat.lt_or_ge i ops.size with h | h
      · exact h
      · rw [Array.getElem?_eq_none h] at ho; cases ho
    clear hend
    by_cases e0 : i = 0
    · subst e0; exact s0 o ho
    by_cases e1 : i = 1
    · subst e1; exact s1 o ho
    by_cases e2 : i = 2
    · subst e2; exact s2 o ho
    by_cases e3 : i = 3
    · subst e3; exact s3 o ho
    by_cases e4 : i = 4
    · subst e4; exact s4 o ho
    by_cases e5 : i = 5
    · subst e5; exact s5 o ho
    omega
  · intro y w listed hsz hdf hls hall hinv hPO hRE
    have e : y = puts aZ [(3, .agg #[.int .i64 rs, .int .i64 rr, .int .i64 mm, .int .i64 hp, .slice cao n ccap]), (4, .int .i64 tw), (5, .agg #[.int .i64 rs, .int .i64 rr, .int .i64 mm, .int .i64 hp, .slice cao n ccap]), (6, .agg (pxC tw rs rr mm hp cao n ccap)), (7, .int .i64 ec), (2, .int .i64 ec)] := by
      refine eq_puts hsz hdf (nodup_of (D := [some 3, some 4, some 5, some 6, some 7, some 2]) rfl (by decide)) (by rw [ha0]; simp) ?_ ?_
      · intro q hq
        simp only [List.mem_cons, List.not_mem_nil, or_false] at hq
        rcases hq with rfl | rfl | rfl | rfl | rfl | rfl
        · obtain ⟨o, h1, h2, _⟩ := E0.ex
          exact hPO 0 o _ h1 h2
        · obtain ⟨o, h1, h2, _⟩ := E1.ex
          exact hPO 1 o _ h1 h2
        · obtain ⟨o, h1, h2, _⟩ := E2.ex
          exact hPO 2 o _ h1 h2
        · obtain ⟨o, h1, h2, _⟩ := E3.ex
          exact hPO 3 o _ h1 h2
        · obtain ⟨o, h1, h2, _⟩ := E4.ex
          exact hPO 4 o _ h1 h2
        · obtain ⟨o, h1, h2, _⟩ := E5.ex
          exact hPO 5 o _ h1 h2
      · intro t ht
        exact hRE t (not_of (by rw [hds]; exact not_cont rfl ht))
    rw [e]
    exact hend (fun d => y.tmps.getD d undef) w hinv
set_option maxRecDepth 100000 in
set_option maxHeartbeats 8000000 in
theorem dCheck19 (rs rr mm hp : Int) (cao : Option Addr) (ccap : Nat) (ce : List Ey) (w : World) (hs : SlE w (.slice cao ce.length ccap) ce) (hhp : I64 hp) : Calls Try.prog 17 #[.agg #[.int .i64 rs, .int .i64 rr, .int .i64 mm, .int .i64 hp, .slice cao ce.length ccap]] w fun e w' => e = .returned (.int .i64 (ckC ⟨rs, rr, mm, hp, ce⟩)) ∧ Mod (fun _ => False) w w' := by
  have hM := ((Mod.refl (fun _ => False) w).alloc (.cells #[.int .i64 rs, .int .i64 rr, .int .i64 mm, .int .i64 hp, .slice cao ce.length ccap] 26))
  have hb1 := Bk.new w #[.int .i64 rs, .int .i64 rr, .int .i64 mm, .int .i64 hp, .slice cao ce.length ccap] 26
  have hs1 := hs.keep hM
  have HT := fun W => dTo rs rr mm hp cao ccap ce W hhp
  have HD := fun W h => dCheck4 (toC ⟨rs, rr, mm, hp, ce⟩) rs rr mm hp cao ccap ce W h hhp
  rw [dC_to] at HD
  generalize toC ⟨rs, rr, mm, hp, ce⟩ = tw at HT HD
  have hck : ckC ⟨rs, rr, mm, hp, ce⟩ = if okC ⟨rs, rr, mm, hp, ce⟩ = true then 0 else 2 := rfl
  rw [← hck] at HD
  generalize ckC ⟨rs, rr, mm, hp, ce⟩ = ec at HD ⊢
  clear hck hs
  go_enter Try.func17, Try.ntmps17
  go_upto_region 1 with fail
  obtain ⟨W1, hW⟩ : ∃ W1, W1 = w.alloc (.cells #[.int .i64 rs, .int .i64 rr, .int .i64 mm, .int .i64 hp, .slice cao ce.length ccap] 26) := ⟨_, rfl⟩
  rw [← hW] at hM hb1 hs1 ⊢
  clear hW
  refine rcd w.heap.size rs rr mm hp tw ec cao ce.length ccap ⟨⟨⟨_, rfl, rfl, rfl, rfl, by decide +kernel⟩⟩, ⟨⟨_, rfl, rfl, rfl, rfl, by decide +kernel⟩⟩, ⟨⟨_, rfl, rfl, rfl, rfl, by decide +kernel⟩⟩, ⟨⟨_, rfl, rfl, rfl, rfl, by decide +kernel⟩⟩, ⟨⟨_, rfl, rfl, rfl, rfl, by decide +kernel⟩⟩, ⟨⟨_, rfl, rfl, rfl, rfl, by decide +kernel⟩⟩⟩ rfl (by decide +kernel) rfl (by decide +kernel) rfl rfl (hb1.cellv rfl) (hb1.cellv rfl) (hb1.cellv rfl) (hb1.cellv rfl) (hb1.cellv rfl) (fun W _ => HT W) (fun W hW => HD W (hs1.keep hW)) ?_
  intro f w2 hm2
  simp only [puts, Act.put, List.setIfInBounds_toArray, List.set_cons_succ, List.set_cons_zero]
  replace hM := hM.and hm2
  clear hm2 HT HD hb1 hs1
  go_wp2
  go_ret
  exact ⟨rfl, hM⟩
end Go.Proofs.Ytlekmgjjjniomaa
