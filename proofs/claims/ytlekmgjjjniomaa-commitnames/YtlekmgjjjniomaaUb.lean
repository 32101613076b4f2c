/- Entries in memory; contracts of commit's isEntry and areOf. Conditions: sizes that a slice has. -/
import Derived.Test.YtlekmgjjjniomaaUa
import Derived.Test.YtlekmgjjjniomaaRgc
import Derived.Deep.Cut
namespace Go.Proofs.Ytlekmgjjjniomaa
open Go.RowKit
structure Ey where
  nd : Int
  os : Int
  od : Int
  aru : Int
  high : Int
  ck : Int
structure Cm where
  rs : Int
  rr : Int
  mem : Int
  hop : Int
  es : List Ey
def Cm.zero : Cm := ⟨0, 0, 0, 0, []⟩
def okE (e : Ey) (n : Int) : Bool := decide (e.nd = n) && isr e.os e.od && nm e.high && win e.aru 0 e.high && nm e.ck
def mbs : List Ey → List Int → Bool
  | [], _ => true
  | e :: r, l => okE e (l.getD 0 0) && mbs r (l.drop 1)
def okC (c : Cm) : Bool := (Cr.chk c.mem == 0) && decide (0 < Cr.cn (Cr.lo c.mem)) && isr c.rs c.rr && decide (c.rr = Cr.ab (Cr.lo c.mem) 0) && win c.hop 1 (2 * (Cr.cn (Cr.lo c.mem) : Int)) && decide ((c.es.length : Int) = min c.hop (Cr.cn (Cr.lo c.mem))) && mbs c.es (Cr.ls (Cr.lo c.mem))
def rcv (c : Cm) : Int := (Cr.ls (Cr.lo c.mem)).getD (c.hop.toNat % (Cr.ls (Cr.lo c.mem)).length) 0
/-- A slice of entries. -/
structure SlE (w : World) (v : Value) (l : List Ey) : Prop where
  form : ∃ ao cap, v = .slice ao l.length cap ∧ l.length ≤ cap ∧ cap ≤ maxLen ∧ (ao = none → cap = 0) ∧
    (l ≠ [] → ∃ b off, ao = some ⟨b, off, none⟩ ∧ ∀ j e, l[j]? = some e → w.cell? ⟨b, off + j * 6, none⟩ = some (.int .i64 e.nd) ∧ w.cell? ⟨b, off + j * 6 + 1, none⟩ = some (.int .i64 e.os) ∧ w.cell? ⟨b, off + j * 6 + 2, none⟩ = some (.int .i64 e.od) ∧ w.cell? ⟨b, off + j * 6 + 3, none⟩ = some (.int .i64 e.aru) ∧ w.cell? ⟨b, off + j * 6 + 4, none⟩ = some (.int .i64 e.high) ∧ w.cell? ⟨b, off + j * 6 + 5, none⟩ = some (.int .i64 e.ck))
theorem SlE.mod {S : Nat → Prop} {w w' : World} {v : Value} {l : List Ey} (h : SlE w v l) (hm : Mod S w w') (hv : l ≠ [] → ∀ g, v.ownBlock = some g → ¬ S g) : SlE w' v l := by
  obtain ⟨ao, cap, rfl, h1, h2, h3, h4⟩ := h.form
  refine ⟨ao, cap, rfl, h1, h2, h3, fun hl => ?_⟩
  obtain ⟨b, off, rfl, hc⟩ := h4 hl
  refine ⟨b, off, rfl, fun j e he => ?_⟩
  obtain ⟨c0, c1, c2, c3, c4, c5⟩ := hc j e he
  exact ⟨hm.cell c0 (hv hl b rfl), hm.cell c1 (hv hl b rfl), hm.cell c2 (hv hl b rfl), hm.cell c3 (hv hl b rfl), hm.cell c4 (hv hl b rfl), hm.cell c5 (hv hl b rfl)⟩
theorem mbs_drop {l : List Ey} {m : List Int} {k : Nat} {e : Ey} (h : l[k]? = some e) : mbs (l.drop k) (m.drop k) = (okE e (m.getD k 0) && mbs (l.drop (k + 1)) (m.drop (k + 1))) := by
  obtain ⟨hk, rfl⟩ := List.getElem?_eq_some_iff.1 h
  rw [List.drop_eq_getElem_cons hk]
  show (okE _ ((m.drop k).getD 0 0) && mbs _ ((m.drop k).drop 1)) = _
  rw [List.drop_drop]
  simp [List.getD_eq_getElem?_getD]
theorem SlE.lt {w : World} {v : Value} {l : List Ey} (h : SlE w v l) (hl : l ≠ []) : ∀ g, v.ownBlock = some g → g < w.heap.size := by
  obtain ⟨ao, cap, rfl, _, _, _, h4⟩ := h.form
  obtain ⟨b, off, rfl, hc⟩ := h4 hl
  intro g hg
  simp only [Value.ownBlock, Option.some.injEq] at hg
  subst hg
  obtain ⟨e, he⟩ : ∃ e, l[0]? = some e := by
    cases l with
    | nil => exact absurd rfl hl
    | cons a _ => exact ⟨a, rfl⟩
  exact World.block_lt_of_cell? w _ (hc 0 e he).1
theorem SlE.nil (w : World) : SlE w (.slice none 0 0) [] := ⟨none, 0, rfl, Nat.le_refl _, by simp [maxLen], fun _ => rfl, fun h => absurd rfl h⟩
theorem ls_cn : ∀ m : Fin 512, (Cr.ls m.val).length = Cr.cn m.val := by decide +kernel
theorem lo_cn (c : Int) : (Cr.ls (Cr.lo c)).length = Cr.cn (Cr.lo c) := ls_cn ⟨Cr.lo c, Cr.lo_lt c⟩
theorem cn_le (c : Int) : Cr.cn (Cr.lo c) ≤ 8 := by rw [← lo_cn]; exact Cr.ls_len ⟨Cr.lo c, Cr.lo_lt c⟩
/-- Whether an entry may be, but for its node. -/
def isE (e : Ey) : Bool := isr e.os e.od && (nm e.high && (win e.aru 0 e.high && nm e.ck))
theorem okE_isE (e : Ey) (n : Int) : okE e n = (decide (e.nd = n) && isE e) := by simp [okE, isE, Bool.and_assoc]
abbrev eyc (e : Ey) : Array Value := #[.int .i64 e.nd, .int .i64 e.os, .int .i64 e.od, .int .i64 e.aru, .int .i64 e.high, .int .i64 e.ck]
theorem SlE.at {w : World} {ao : Option Addr} {n cap : Nat} {l : List Ey} (h : SlE w (.slice ao n cap) l) {k : Nat} {e : Ey} (hk : l[k]? = some e) : ∃ b off, ao = some ⟨b, off, none⟩ ∧ ∀ w', Mod (fun _ => False) w w' → w'.cell? ⟨b, off + k * 6, none⟩ = some (.int .i64 e.nd) ∧ w'.cell? ⟨b, off + k * 6 + 1, none⟩ = some (.int .i64 e.os) ∧ w'.cell? ⟨b, off + k * 6 + 2, none⟩ = some (.int .i64 e.od) ∧ w'.cell? ⟨b, off + k * 6 + 3, none⟩ = some (.int .i64 e.aru) ∧ w'.cell? ⟨b, off + k * 6 + 4, none⟩ = some (.int .i64 e.high) ∧ w'.cell? ⟨b, off + k * 6 + 5, none⟩ = some (.int .i64 e.ck) := by
  obtain ⟨ao', cap', e1, h1, h2, h3, h4⟩ := h.form
  simp only [Value.slice.injEq] at e1
  obtain ⟨rfl, rfl, rfl⟩ := e1
  obtain ⟨b, off, rfl, hc⟩ := h4 (by rintro rfl; simp at hk)
  refine ⟨b, off, rfl, fun w' hm => ?_⟩
  obtain ⟨c0, c1, c2, c3, c4, c5⟩ := hc k e hk
  exact ⟨hm.cell c0 (fun h => h), hm.cell c1 (fun h => h), hm.cell c2 (fun h => h), hm.cell c3 (fun h => h), hm.cell c4 (fun h => h), hm.cell c5 (fun h => h)⟩
theorem SlE.shape {w : World} {v : Value} {l : List Ey} (h : SlE w v l) : ∃ ao cap, v = .slice ao l.length cap ∧ l.length ≤ 9223372036854775807 := by
  obtain ⟨ao, cap, rfl, h1, h2, _⟩ := h.form
  exact ⟨ao, cap, rfl, by unfold maxLen at h2; omega⟩
set_option maxRecDepth 100000 in
set_option maxHeartbeats 4000000 in
theorem isEntry_any (e : Ey) (w : World) : Calls Try.prog 52 #[.agg (eyc e)] w fun x w' => x = .returned (.bool (isE e)) ∧ Mod (fun _ => False) w w' := by
  obtain ⟨en, os, od, ar, hh, ck⟩ := e
  unfold isE
  simp only
  have H1 := pkRing os od
  have H2 := pkNumber hh
  have H3 := pkWithin ar 0 hh
  have H4 := pkNumber ck
  generalize isr os od = c1 at H1 ⊢
  generalize nm hh = c2 at H2 ⊢
  generalize win ar 0 hh = c3 at H3 ⊢
  generalize nm ck = c4 at H4 ⊢
  have hM := (Mod.refl (fun _ => False) w).alloc (.cells #[.int .i64 en, .int .i64 os, .int .i64 od, .int .i64 ar, .int .i64 hh, .int .i64 ck] 28)
  have hB := Bk.new w #[.int .i64 en, .int .i64 os, .int .i64 od, .int .i64 ar, .int .i64 hh, .int .i64 ck] 28
  go_enter Try.func52, Try.ntmps52
  go_wp2_with (fail)
  refine (H1 _).mono ?_
  rintro e w1 ⟨rfl, hm1⟩
  replace hM := hM.and hm1
  replace hB := hB.mod hm1 (fun h => h)
  clear hm1 H1
  have a3 := hB.cellv (j := 3) rfl
  have a4 := hB.cellv (j := 4) rfl
  have a5 := hB.cellv (j := 5) rfl
  clear hB
  cases c1
  · go_wp2
    go_ret
    exact ⟨rfl, hM⟩
  · go_wp2_with (fail)
    refine (H2 _).mono ?_
    rintro e w2 ⟨rfl, rfl⟩
    cases c2
    · go_wp2
      go_ret
      exact ⟨rfl, hM⟩
    · go_wp2_with (fail)
      refine (H3 _).mono ?_
      rintro e w2 ⟨rfl, rfl⟩
      cases c3
      · go_wp2
        go_ret
        exact ⟨rfl, hM⟩
      · go_wp2_with (fail)
        refine (H4 _).mono ?_
        rintro e w2 ⟨rfl, rfl⟩
        go_wp2
        go_ret
        exact ⟨rfl, hM⟩
/-- What is said of a slot. -/
def p_raf (g mb : Nat) (mo M mcap k : Nat) (en os od ar hh ck mk : Int) (c : Bool) (i : Nat) (v : Value) (_w : World) : Prop :=
  match i with
  | 0 => v = .pointer (some ⟨g, 0, none⟩)
  | 1 => v = .int .i64 en
  | 2 => v = .slice (some ⟨mb, mo, none⟩) M mcap
  | 3 => v = .int .i64 (k : Int)
  | 4 => v = .pointer (some ⟨mb, mo + k, none⟩)
  | 5 => v = .int .i64 mk
  | 6 => v = .bool (en != mk)
  | 7 => v = .bool (en != mk)
  | 8 => v = if (!(en != mk)) = true then .agg #[.int .i64 en, .int .i64 os, .int .i64 od, .int .i64 ar, .int .i64 hh, .int .i64 ck] else undef
  | 9 => v = if (!(en != mk)) = true then .bool c else undef
  | 10 => v = if (!(en != mk)) = true then .bool (!c) else undef
  | 11 => v = .bool ((en != mk) || (!c))
  | _ => True
/-- Its operations. -/
structure O_raf (ops : Array Oper) : Prop where
  e0 : Is ops 0 (some 14) (Op.fieldAddr 28 (Operand.tmp 6) 0) none []
  e1 : Is ops 1 (some 15) (Op.load 3 (Operand.tmp 14)) none [0]
  e2 : Is ops 2 (some 16) (Op.move (Operand.tmp 1)) none []
  e3 : Is ops 3 (some 17) (Op.move (Operand.tmp 5)) none []
  e4 : Is ops 4 (some 18) (Op.indexAddr 44 (Operand.tmp 16) (Operand.tmp 17)) none [2, 3]
  e5 : Is ops 5 (some 19) (Op.load 3 (Operand.tmp 18)) none [4]
  e6 : Is ops 6 (some 20) (Op.binOp BinOp.neq 3 (Operand.tmp 15) (Operand.tmp 19) 3) none [1, 5]
  e7 : Is ops 7 (some 21) (Op.move (Operand.tmp 20)) none [6]
  e8 : Is ops 8 (some 22) (Op.load 28 (Operand.tmp 6)) (some (7, false)) [7]
  e9 : Is ops 9 (some 23) (Op.call { callee := Callee.value (Operand.func 52), args := #[Operand.tmp 22], argTypes := #[28] }) (some (7, false)) [7, 8]
  e10 : Is ops 10 (some 24) (Op.unOp UnOp.not 4 (Operand.tmp 23)) (some (7, false)) [7, 9]
  e11 : Is ops 11 (some 25) (Op.pick (Operand.tmp 21) (Operand.const (Value.bool true)) (Operand.tmp 24)) none [7, 10]
set_option maxRecDepth 100000 in
set_option maxHeartbeats 4000000 in
theorem raf {ops : Array Oper} {id : Nat} {a0 : Act} {w0 : World} {Q : Exit → Act → World → Prop} (g mb : Nat) (mo M mcap k : Nat) (en os od ar hh ck mk : Int) (c : Bool)
    (E : O_raf ops) (hN : ops.size = 12) (hlow : lowB ops = true) (hds : dsts ops = [some 14, some 15, some 16, some 17, some 18, some 19, some 20, some 21, some 22, some 23, some 24, some 25]) (hnd : injB ops = true) (ha0 : a0.tmps.size = 27)
    (b1 : a0.tmps.getD 1 undef = .slice (some ⟨mb, mo, none⟩) M mcap)
    (b5 : a0.tmps.getD 5 undef = .int .i64 (k : Int))
    (b6 : a0.tmps.getD 6 undef = .pointer (some ⟨g, 0, none⟩))
    (k_g_0 : w0.cell? ⟨g, 0, none⟩ = some (.int .i64 en))
    (k_g_1 : w0.cell? ⟨g, 1, none⟩ = some (.int .i64 os))
    (k_g_2 : w0.cell? ⟨g, 2, none⟩ = some (.int .i64 od))
    (k_g_3 : w0.cell? ⟨g, 3, none⟩ = some (.int .i64 ar))
    (k_g_4 : w0.cell? ⟨g, 4, none⟩ = some (.int .i64 hh))
    (k_g_5 : w0.cell? ⟨g, 5, none⟩ = some (.int .i64 ck))
    (k_mb_mo_k : w0.cell? ⟨mb, mo + k, none⟩ = some (.int .i64 mk))
    (hk : (k : Int) < (M : Int))
    (H9 : ∀ (W : World), Mod (fun _ => False) w0 W → Calls Try.prog 52 #[.agg #[.int .i64 en, .int .i64 os, .int .i64 od, .int .i64 ar, .int .i64 hh, .int .i64 ck]] W fun e w' => e = .returned (.bool c) ∧ Mod (fun _ => False) W w')
    (hend : ∀ (f : Nat → Value) (w : World), Mod (fun _ => False) w0 w → Q .normal (puts a0 [(14, .pointer (some ⟨g, 0, none⟩)), (15, .int .i64 en), (16, .slice (some ⟨mb, mo, none⟩) M mcap), (17, .int .i64 (k : Int)), (18, .pointer (some ⟨mb, mo + k, none⟩)), (19, .int .i64 mk), (20, .bool (en != mk)), (21, .bool (en != mk)), (22, f 22), (23, f 23), (24, f 24), (25, .bool ((en != mk) || (!c)))]) w) :
    (Code.region id ops true).wp Try.prog Q a0 w0 := by
  obtain ⟨E0, E1, E2, E3, E4, E5, E6, E7, E8, E9, E10, E11⟩ := E
  have hstay : ∀ (i : Nat) (v : Value) (w w1 : World), Mod (fun _ => False) w w1 → (p_raf g mb mo M mcap k en os od ar hh ck mk c) i v w → (p_raf g mb mo M mcap k en os od ar hh ck mk c) i v w1 := fun _ _ _ _ _ h => h
  have s0 : ∀ o, ops[0]? = some o → StepI Try.prog ops (p_raf g mb mo M mcap k en os od ar hh ck mk c) (fun (_ : Array Bool) (_ : Act) (w : World) => Mod (fun _ => False) w0 w) a0 Q 0 o := by
    refine E0.stepI fun o hd ho hg hw => ?_
    intro y w listed hsz hls hun hwt hdown D' hRR hinv K hK
    have f6 : y.eval (Operand.tmp 6) = .pointer (some ⟨g, 0, none⟩)   := (hRR 6 (not_of (by rw [hds]; decide))).trans b6
    exact .inl ⟨wanted_none hg, wp_value (ox_field (v := .pointer (some ⟨g, 0, none⟩)) ho f6 (by simp [go_sem])) (hK _ _ (fun _ _ _ _ _ _ h => h) rfl hinv)⟩
  have s1 : ∀ o, ops[1]? = some o → StepI Try.prog ops (p_raf g mb mo M mcap k en os od ar hh ck mk c) (fun (_ : Array Bool) (_ : Act) (w : World) => Mod (fun _ => False) w0 w) a0 Q 1 o := by
    refine E1.stepI fun o hd ho hg hw => ?_
    intro y w listed hsz hls hun hwt hdown D' hRR hinv K hK
    have f14 : y.eval (Operand.tmp 14) = .pointer (some ⟨g, 0, none⟩) := E0.postI (Post := (p_raf g mb mo M mcap k en os od ar hh ck mk c)) (a := y) (w := w) D' (hwt 0 (hw 0 (by simp)))
    have h0 := hinv.cell k_g_0 (fun h => h)
    exact .inl ⟨wanted_none hg, wp_value (ox_load (v := .int .i64 en) ho f14 (by simp [go_sem, h0])) (hK _ _ (fun _ _ _ _ _ _ h => h) rfl hinv)⟩
  have s2 : ∀ o, ops[2]? = some o → StepI Try.prog ops (p_raf g mb mo M mcap k en os od ar hh ck mk c) (fun (_ : Array Bool) (_ : Act) (w : World) => Mod (fun _ => False) w0 w) a0 Q 2 o := by
    refine E2.stepI fun o hd ho hg hw => ?_
    intro y w listed hsz hls hun hwt hdown D' hRR hinv K hK
    have f1 : y.eval (Operand.tmp 1) = .slice (some ⟨mb, mo, none⟩) M mcap   := (hRR 1 (not_of (by rw [hds]; decide))).trans b1
    exact .inl ⟨wanted_none hg, wp_value (ox_move ho f1) (hK _ _ (fun _ _ _ _ _ _ h => h) rfl hinv)⟩
  have s3 : ∀ o, ops[3]? = some o → StepI Try.prog ops (p_raf g mb mo M mcap k en os od ar hh ck mk c) (fun (_ : Array Bool) (_ : Act) (w : World) => Mod (fun _ => False) w0 w) a0 Q 3 o := by
    refine E3.stepI fun o hd ho hg hw => ?_
    intro y w listed hsz hls hun hwt hdown D' hRR hinv K hK
    have f5 : y.eval (Operand.tmp 5) = .int .i64 (k : Int)   := (hRR 5 (not_of (by rw [hds]; decide))).trans b5
    exact .inl ⟨wanted_none hg, wp_value (ox_move ho f5) (hK _ _ (fun _ _ _ _ _ _ h => h) rfl hinv)⟩
  have s4 : ∀ o, ops[4]? = some o → StepI Try.prog ops (p_raf g mb mo M mcap k en os od ar hh ck mk c) (fun (_ : Array Bool) (_ : Act) (w : World) => Mod (fun _ => False) w0 w) a0 Q 4 o := by
    refine E4.stepI fun o hd ho hg hw => ?_
    intro y w listed hsz hls hun hwt hdown D' hRR hinv K hK
    have f16 : y.eval (Operand.tmp 16) = .slice (some ⟨mb, mo, none⟩) M mcap := E2.postI (Post := (p_raf g mb mo M mcap k en os od ar hh ck mk c)) (a := y) (w := w) D' (hwt 2 (hw 2 (by simp)))
    have f17 : y.eval (Operand.tmp 17) = .int .i64 (k : Int) := E3.postI (Post := (p_raf g mb mo M mcap k en os od ar hh ck mk c)) (a := y) (w := w) D' (hwt 3 (hw 3 (by simp)))
    exact .inl ⟨wanted_none hg, wp_value (ox_index (v := .pointer (some ⟨mb, mo + k, none⟩)) ho f16 f17 (by simp [go_sem, hk])) (hK _ _ (fun _ _ _ _ _ _ h => h) rfl hinv)⟩
  have s5 : ∀ o, ops[5]? = some o → StepI Try.prog ops (p_raf g mb mo M mcap k en os od ar hh ck mk c) (fun (_ : Array Bool) (_ : Act) (w : World) => Mod (fun _ => False) w0 w) a0 Q 5 o := by
    refine E5.stepI fun o hd ho hg hw => ?_
    intro y w listed hsz hls hun hwt hdown D' hRR hinv K hK
    have f18 : y.eval (Operand.tmp 18) = .pointer (some ⟨mb, mo + k, none⟩) := E4.postI (Post := (p_raf g mb mo M mcap k en os od ar hh ck mk c)) (a := y) (w := w) D' (hwt 4 (hw 4 (by simp)))
    have h0 := hinv.cell k_mb_mo_k (fun h => h)
    exact .inl ⟨wanted_none hg, wp_value (ox_load (v := .int .i64 mk) ho f18 (by simp [go_sem, h0])) (hK _ _ (fun _ _ _ _ _ _ h => h) rfl hinv)⟩
  have s6 : ∀ o, ops[6]? = some o → StepI Try.prog ops (p_raf g mb mo M mcap k en os od ar hh ck mk c) (fun (_ : Array Bool) (_ : Act) (w : World) => Mod (fun _ => False) w0 w) a0 Q 6 o := by
    refine E6.stepI fun o hd ho hg hw => ?_
    intro y w listed hsz hls hun hwt hdown D' hRR hinv K hK
    have f15 : y.eval (Operand.tmp 15) = .int .i64 en := E1.postI (Post := (p_raf g mb mo M mcap k en os od ar hh ck mk c)) (a := y) (w := w) D' (hwt 1 (hw 1 (by simp)))
    have f19 : y.eval (Operand.tmp 19) = .int .i64 mk := E5.postI (Post := (p_raf g mb mo M mcap k en os od ar hh ck mk c)) (a := y) (w := w) D' (hwt 5 (hw 5 (by simp)))
    exact .inl ⟨wanted_none hg, wp_value (rx_neq ho f15 f19) (hK _ _ (fun _ _ _ _ _ _ h => h) rfl hinv)⟩
  have s7 : ∀ o, ops[7]? = some o → StepI Try.prog ops (p_raf g mb mo M mcap k en os od ar hh ck mk c) (fun (_ : Array Bool) (_ : Act) (w : World) => Mod (fun _ => False) w0 w) a0 Q 7 o := by
    refine E7.stepI fun o hd ho hg hw => ?_
    intro y w listed hsz hls hun hwt hdown D' hRR hinv K hK
    have f20 : y.eval (Operand.tmp 20) = .bool (en != mk) := E6.postI (Post := (p_raf g mb mo M mcap k en os od ar hh ck mk c)) (a := y) (w := w) D' (hwt 6 (hw 6 (by simp)))
    exact .inl ⟨wanted_none hg, wp_value (ox_move ho f20) (hK _ _ (fun _ _ _ _ _ _ h => h) rfl hinv)⟩
  have s8 : ∀ o, ops[8]? = some o → StepI Try.prog ops (p_raf g mb mo M mcap k en os od ar hh ck mk c) (fun (_ : Array Bool) (_ : Act) (w : World) => Mod (fun _ => False) w0 w) a0 Q 8 o := by
    refine E8.stepI fun o hd ho hg hw => ?_
    intro y w listed hsz hls hun hwt hdown D' hRR hinv K hK
    have gv : y.tmps.getD 21 undef = .bool (en != mk) := E7.postI (Post := (p_raf g mb mo M mcap k en os od ar hh ck mk c)) (a := y) (w := w) D' (hwt 7 (hw 7 (by simp)))
    have wt : Region.wanted o (yielded ops y.tmps) = (!(en != mk)) := by
      rw [wanted_b E7 hg (by rw [hsz, ha0]; decide) gv]
      cases (en != mk) <;> rfl
    cases hc : (!(en != mk))
    · exact .inr ⟨wt.trans hc, hK _ _ (fun _ _ _ _ _ _ h => h) (by show undef = if (!(en != mk)) = true then .agg #[.int .i64 en, .int .i64 os, .int .i64 od, .int .i64 ar, .int .i64 hh, .int .i64 ck] else undef; rw [hc]; rfl) hinv⟩
    · have f6 : y.eval (Operand.tmp 6) = .pointer (some ⟨g, 0, none⟩)   := (hRR 6 (not_of (by rw [hds]; decide))).trans b6
      have h0 := hinv.cell k_g_0 (fun h => h)
      have h1 := hinv.cell k_g_1 (fun h => h)
      have h2 := hinv.cell k_g_2 (fun h => h)
      have h3 := hinv.cell k_g_3 (fun h => h)
      have h4 := hinv.cell k_g_4 (fun h => h)
      have h5 := hinv.cell k_g_5 (fun h => h)
      exact .inl ⟨wt.trans hc, wp_value (ox_load (v := .agg #[.int .i64 en, .int .i64 os, .int .i64 od, .int .i64 ar, .int .i64 hh, .int .i64 ck]) ho f6 (by simp [go_sem, h0, h1, h2, h3, h4, h5])) (hK _ _ (fun _ _ _ _ _ _ h => h) (by show _ = if (!(en != mk)) = true then .agg #[.int .i64 en, .int .i64 os, .int .i64 od, .int .i64 ar, .int .i64 hh, .int .i64 ck] else undef; rw [hc]; rfl) hinv)⟩
  have s9 : ∀ o, ops[9]? = some o → StepI Try.prog ops (p_raf g mb mo M mcap k en os od ar hh ck mk c) (fun (_ : Array Bool) (_ : Act) (w : World) => Mod (fun _ => False) w0 w) a0 Q 9 o := by
    refine E9.stepI fun o hd ho hg hw => ?_
    intro y w listed hsz hls hun hwt hdown D' hRR hinv K hK
    have gv : y.tmps.getD 21 undef = .bool (en != mk) := E7.postI (Post := (p_raf g mb mo M mcap k en os od ar hh ck mk c)) (a := y) (w := w) D' (hwt 7 (hw 7 (by simp)))
    have wt : Region.wanted o (yielded ops y.tmps) = (!(en != mk)) := by
      rw [wanted_b E7 hg (by rw [hsz, ha0]; decide) gv]
      cases (en != mk) <;> rfl
    cases hc : (!(en != mk))
    · exact .inr ⟨wt.trans hc, hK _ _ (fun _ _ _ _ _ _ h => h) (by show undef = if (!(en != mk)) = true then .bool c else undef; rw [hc]; rfl) hinv⟩
    · have f22 : y.eval (Operand.tmp 22) = .agg #[.int .i64 en, .int .i64 os, .int .i64 od, .int .i64 ar, .int .i64 hh, .int .i64 ck] := (show y.eval (Operand.tmp 22) = (if (!(en != mk)) = true then .agg #[.int .i64 en, .int .i64 os, .int .i64 od, .int .i64 ar, .int .i64 hh, .int .i64 ck] else undef) from E8.postI (Post := (p_raf g mb mo M mcap k en os od ar hh ck mk c)) (a := y) (w := w) D' (hwt 8 (hw 8 (by simp)))).trans (if_pos hc)
      refine .inl ⟨wt.trans hc, wp_enter (f := 52) (args := #[.agg #[.int .i64 en, .int .i64 os, .int .i64 od, .int .i64 ar, .int .i64 hh, .int .i64 ck]]) ?_ (H9 w  hinv ) ?_⟩
      · have h := exec_call1 y.eval (fun args w => by simp [go_sem]) rfl ho (w := w)
        rw [f22] at h
        exact h
      · rintro e w' ⟨rfl, hm⟩
        exact ⟨_, rfl, hK _ _ (fun j oj d _ _ _ h => hstay _ _ _ _ hm h) (by show _ = if (!(en != mk)) = true then .bool c else undef; rw [hc]; rfl) (hinv.and hm)⟩
  have s10 : ∀ o, ops[10]? = some o → StepI Try.prog ops (p_raf g mb mo M mcap k en os od ar hh ck mk c) (fun (_ : Array Bool) (_ : Act) (w : World) => Mod (fun _ => False) w0 w) a0 Q 10 o := by
    refine E10.stepI fun o hd ho hg hw => ?_
    intro y w listed hsz hls hun hwt hdown D' hRR hinv K hK
    have gv : y.tmps.getD 21 undef = .bool (en != mk) := E7.postI (Post := (p_raf g mb mo M mcap k en os od ar hh ck mk c)) (a := y) (w := w) D' (hwt 7 (hw 7 (by simp)))
    have wt : Region.wanted o (yielded ops y.tmps) = (!(en != mk)) := by
      rw [wanted_b E7 hg (by rw [hsz, ha0]; decide) gv]
      cases (en != mk) <;> rfl
    cases hc : (!(en != mk))
    · exact .inr ⟨wt.trans hc, hK _ _ (fun _ _ _ _ _ _ h => h) (by show undef = if (!(en != mk)) = true then .bool (!c) else undef; rw [hc]; rfl) hinv⟩
    · have f23 : y.eval (Operand.tmp 23) = .bool c := (show y.eval (Operand.tmp 23) = (if (!(en != mk)) = true then .bool c else undef) from E9.postI (Post := (p_raf g mb mo M mcap k en os od ar hh ck mk c)) (a := y) (w := w) D' (hwt 9 (hw 9 (by simp)))).trans (if_pos hc)
      exact .inl ⟨wt.trans hc, wp_value (ox_not ho f23) (hK _ _ (fun _ _ _ _ _ _ h => h) (by show _ = if (!(en != mk)) = true then .bool (!c) else undef; rw [hc]; rfl) hinv)⟩
  have s11 : ∀ o, ops[11]? = some o → StepI Try.prog ops (p_raf g mb mo M mcap k en os od ar hh ck mk c) (fun (_ : Array Bool) (_ : Act) (w : World) => Mod (fun _ => False) w0 w) a0 Q 11 o := by
    refine E11.stepI fun o hd ho hg hw => ?_
    intro y w listed hsz hls hun hwt hdown D' hRR hinv K hK
    have f21 : y.eval (Operand.tmp 21) = .bool (en != mk) := E7.postI (Post := (p_raf g mb mo M mcap k en os od ar hh ck mk c)) (a := y) (w := w) D' (hwt 7 (hw 7 (by simp)))
    have f24 : y.eval (Operand.tmp 24) = if (!(en != mk)) = true then .bool (!c) else undef := E10.postI (Post := (p_raf g mb mo M mcap k en os od ar hh ck mk c)) (a := y) (w := w) D' (hwt 10 (hw 10 (by simp)))
    exact .inl ⟨wanted_none hg, wp_value (ox_pick ho f21 (by rw [f24]; cases (en != mk) <;> rfl)) (hK _ _ (fun _ _ _ _ _ _ h => h) rfl hinv)⟩
  refine region_freeI (Post := (p_raf g mb mo M mcap k en os od ar hh ck mk c)) (Inv := (fun (_ : Array Bool) (_ : Act) (w : World) => Mod (fun _ => False) w0 w)) mixed (low_of hlow) (fun i o ho => by rw [ha0]; exact dst_of (by rw [hds]; decide) i o ho) (inj_of hnd) (Mod.refl _ _).drew ?_ ?_
  · intro i o ho
    have hi : i < 12 := by
      rw [← hN]
      rcases Nat.lt_or_ge i ops.size with h | h
      · exact h
      · rw [Array.getElem?_eq_none h] at ho; cases ho
    clear hend
    by_cases e0 : i = 0
    · subst e0; exact s0 o ho
    by_cases e1 : i = 1
    · subst e1; exact s1 o ho
    by_cases e2 : i = 2
    · subst e2; exact s2 o ho
    by_cases e3 : i = 3
    · subst e3; exact s3 o ho
    by_cases e4 : i = 4
    · subst e4; exact s4 o ho
    by_cases e5 : i = 5
    · subst e5; exact s5 o ho
    by_cases e6 : i = 6
    · subst e6; exact s6 o ho
    by_cases e7 : i = 7
    · subst e7; exact s7 o ho
    by_cases e8 : i = 8
    · subst e8; exact s8 o ho
    by_cases e9 : i = 9
    · subst e9; exact s9 o ho
    by_cases e10 : i = 10
    · subst e10; exact s10 o ho
    by_cases e11 : i = 11
    · subst e11; exact s11 o ho
    omega
  · intro y w listed hsz hdf hls hall hinv hPO hRE
    have e : y = puts a0 [(14, .pointer (some ⟨g, 0, none⟩)), (15, .int .i64 en), (16, .slice (some ⟨mb, mo, none⟩) M mcap), (17, .int .i64 (k : Int)), (18, .pointer (some ⟨mb, mo + k, none⟩)), (19, .int .i64 mk), (20, .bool (en != mk)), (21, .bool (en != mk)), (22, y.tmps.getD 22 undef), (23, y.tmps.getD 23 undef), (24, y.tmps.getD 24 undef), (25, .bool ((en != mk) || (!c)))] := by
      refine eq_puts hsz hdf (nodup_of (D := [some 14, some 15, some 16, some 17, some 18, some 19, some 20, some 21, some 22, some 23, some 24, some 25]) rfl (by decide)) (by rw [ha0]; simp) ?_ ?_
      · intro q hq
        simp only [List.mem_cons, List.not_mem_nil, or_false] at hq
        rcases hq with rfl | rfl | rfl | rfl | rfl | rfl | rfl | rfl | rfl | rfl | rfl | rfl
        · obtain ⟨o, h1, h2, _⟩ := E0.ex
          exact hPO 0 o _ h1 h2
        · obtain ⟨o, h1, h2, _⟩ := E1.ex
          exact hPO 1 o _ h1 h2
        · obtain ⟨o, h1, h2, _⟩ := E2.ex
          exact hPO 2 o _ h1 h2
        · obtain ⟨o, h1, h2, _⟩ := E3.ex
          exact hPO 3 o _ h1 h2
        · obtain ⟨o, h1, h2, _⟩ := E4.ex
          exact hPO 4 o _ h1 h2
        · obtain ⟨o, h1, h2, _⟩ := E5.ex
          exact hPO 5 o _ h1 h2
        · obtain ⟨o, h1, h2, _⟩ := E6.ex
          exact hPO 6 o _ h1 h2
        · obtain ⟨o, h1, h2, _⟩ := E7.ex
          exact hPO 7 o _ h1 h2
        · rfl
        · rfl
        · rfl
        · obtain ⟨o, h1, h2, _⟩ := E11.ex
          exact hPO 11 o _ h1 h2
      · intro t ht
        refine hRE t (not_of ?_)
        rw [hds]
        simp only [List.mem_cons, List.not_mem_nil, or_false, forall_eq_or_imp, forall_eq] at ht
        simp only [List.contains_cons, List.contains_nil, Bool.or_eq_false_iff, beq_eq_false_iff_ne, ne_eq, Option.some.injEq, Bool.or_false]
        simp only [eq_comm (a := t)]
        simp [ht]
    rw [e]
    exact hend (fun d => y.tmps.getD d undef) w hinv
set_option maxRecDepth 100000 in
set_option maxHeartbeats 8000000 in
theorem areOf_any (v mv : Value) (l : List Ey) (m : List Int) (w : World) (hs : SlE w v l) (hm : Cr.Sl w mv m) (hlen : l.length ≤ m.length) : Calls Try.prog 40 #[v, mv] w fun e w' => e = .returned (.bool (mbs l m)) ∧ Mod (fun _ => False) w w' := by
  obtain ⟨ao, cap, rfl, h1, h2, h3, h4⟩ := hs.form
  obtain ⟨mo', mcap, rfl, q1, q2, q3, q4⟩ := hm
  unfold maxLen at h2 q2
  have hR : Hid (mbs l m = mbs (l.drop 0) (m.drop 0)) := rfl
  generalize mbs l m = R at hR ⊢
  clear hs
  go_enter Try.func40, Try.ntmps40
  go_wp2
  go_loopw [9] (fun i wr => ∃ k : Nat, i = .int .i64 k ∧ k ≤ l.length ∧ Hid (R = mbs (l.drop k) (m.drop k)) ∧ Hid (Mod (fun _ => False) w wr)) (fun i _ => l.length - (intOf i).toNat)
  case atStart => exact ⟨0, rfl, by omega, hR, Mod.refl _ _⟩
  case round =>
    obtain ⟨k, rfl, hk, hR', hMw⟩ := hrel
    clear hR
    by_cases hlt : k < l.length
    · obtain ⟨e, he⟩ : ∃ e, l[k]? = some e := ⟨_, List.getElem?_eq_getElem hlt⟩
      have hne : l ≠ [] := by rintro rfl; simp at hlt
      have hmne : m ≠ [] := by rintro rfl; simp at hlen; exact hne hlen
      obtain ⟨b, off, rfl, hc⟩ := h4 hne
      obtain ⟨mb, mo, rfl, hmc⟩ := q4 hmne
      obtain ⟨c0, c1, c2, c3, c4, c5⟩ := hc k e he
      replace c0 := hMw.out.cell c0 (fun h => h)
      replace c1 := hMw.out.cell c1 (fun h => h)
      replace c2 := hMw.out.cell c2 (fun h => h)
      replace c3 := hMw.out.cell c3 (fun h => h)
      replace c4 := hMw.out.cell c4 (fun h => h)
      replace c5 := hMw.out.cell c5 (fun h => h)
      have cm := hMw.out.cell (hmc k (by omega)) (fun h => h)
      have hd := mbs_drop (m := m) he
      rw [hd, okE_isE] at hR'
      have HE := isEntry_any e
      generalize isE e = ce at HE hR'
      obtain ⟨en, os, od, ar, hh, ck⟩ := e
      simp only [eyc] at c0 c1 c2 c3 c4 c5 HE hR'
      obtain ⟨mk, hmk⟩ : ∃ mk, m.getD k 0 = mk := ⟨_, rfl⟩
      rw [hmk] at hR' cm
      have hki : (k : Int) < l.length := by omega
      have hkm : (k : Int) < m.length := by omega
      clear hd hmk he hc hmc h4 q4
      have hM : Mod (fun _ => False) w (wr.alloc (.cells #[.int .i64 en, .int .i64 os, .int .i64 od, .int .i64 ar, .int .i64 hh, .int .i64 ck] 28)) := hMw.out.alloc _
      have hB0 := Bk.new wr #[.int .i64 en, .int .i64 os, .int .i64 od, .int .i64 ar, .int .i64 hh, .int .i64 ck] 28
      have am : (wr.alloc (.cells #[.int .i64 en, .int .i64 os, .int .i64 od, .int .i64 ar, .int .i64 hh, .int .i64 ck] 28)).cell? ⟨mb, mo + k, none⟩ = some (.int .i64 mk) := ((Mod.refl (fun _ => False) wr).alloc (.cells #[.int .i64 en, .int .i64 os, .int .i64 od, .int .i64 ar, .int .i64 hh, .int .i64 ck] 28)).cell cm (fun h => h)
      go_upto_region 4 with fail
      refine raf wr.heap.size mb mo m.length mcap k en os od ar hh ck mk ce ⟨⟨⟨_, rfl, rfl, rfl, rfl, by decide +kernel⟩⟩, ⟨⟨_, rfl, rfl, rfl, rfl, by decide +kernel⟩⟩, ⟨⟨_, rfl, rfl, rfl, rfl, by decide +kernel⟩⟩, ⟨⟨_, rfl, rfl, rfl, rfl, by decide +kernel⟩⟩, ⟨⟨_, rfl, rfl, rfl, rfl, by decide +kernel⟩⟩, ⟨⟨_, rfl, rfl, rfl, rfl, by decide +kernel⟩⟩, ⟨⟨_, rfl, rfl, rfl, rfl, by decide +kernel⟩⟩, ⟨⟨_, rfl, rfl, rfl, rfl, by decide +kernel⟩⟩, ⟨⟨_, rfl, rfl, rfl, rfl, by decide +kernel⟩⟩, ⟨⟨_, rfl, rfl, rfl, rfl, by decide +kernel⟩⟩, ⟨⟨_, rfl, rfl, rfl, rfl, by decide +kernel⟩⟩, ⟨⟨_, rfl, rfl, rfl, rfl, by decide +kernel⟩⟩⟩ rfl (by decide +kernel) rfl (by decide +kernel) rfl rfl rfl rfl (hB0.cellv rfl) (hB0.cellv rfl) (hB0.cellv rfl) (hB0.cellv rfl) (hB0.cellv rfl) (hB0.cellv rfl) am hkm (fun W _ => HE W) ?_
      intro f w1 hm1
      simp only [puts, Act.put, List.setIfInBounds_toArray, List.set_cons_succ, List.set_cons_zero]
      replace hM := hM.and hm1
      clear c0 c1 c2 c3 c4 c5 cm am hB0 HE
      cases hb : (en != mk || !ce)
      · have HR : Hid (R = mbs (l.drop (k + 1)) (m.drop (k + 1))) := by
          show _ = _
          rw [hR'.out]
          simp only [Bool.or_eq_false_iff, Bool.not_eq_false', bne_eq_false_iff_eq] at hb
          simp [hb]
        clear hR' hb
        go_wp2
        go_roundw
        case rel => exact ⟨k + 1, by go_num, by omega, HR, hM⟩
        case measure => simp [intOf]; omega
      · have HR : Hid (R = false) := by
          show _ = _
          rw [hR'.out]
          simp only [Bool.or_eq_true, Bool.not_eq_true', bne_iff_ne] at hb
          rcases hb with hb | hb <;> simp [hb]
        clear hR' hb
        go_wp2
        have hRT := HR.out
        subst hRT
        go_ret
        exact ⟨rfl, hM⟩
    · have HR : Hid (R = true) := by show _ = _; have := hR'.out; rw [List.drop_eq_nil_of_le (by omega)] at this; exact this
      clear hR' h4 q4
      go_wp2
      have hRT := HR.out
      subst hRT
      go_ret
      exact ⟨rfl, hMw.out⟩
end Go.Proofs.Ytlekmgjjjniomaa
