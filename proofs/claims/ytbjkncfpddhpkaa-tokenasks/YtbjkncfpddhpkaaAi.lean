/- A token in a block of its own, beside arrays; Visit and Safe on it. Conditions: tokens that may be. -/
import Derived.Test.YtbjkncfpddhpkaaAh
import Derived.Test.YtbjkncfpddhpkaaFrx
import Derived.Deep.RegionLaw
import Derived.Deep.DeepCutAuto
import Derived.Deep.CutBlock
namespace Go.Proofs.Ytbjkncfpddhpkaa
open Go.RowKit
def tcl (t : Tk) (v : Value) : Array Value := #[.int .i64 t.rs, .int .i64 t.rr, .int .i64 t.hop, .int .i64 t.sq, .int .i64 t.aru, .int .i64 t.low, .int .i64 t.st, .int .i64 t.idle, v]
/-- A token in the block bt; Z: blocks that are turned, new since w0. -/
structure Tz (w0 w : World) (Z : Nat → Prop) (bt : Nat) (t : Tk) : Prop where
  tok : ∃ ao cap, Bk w bt 26 (tcl t (.slice ao t.ask.length cap)) ∧ Cr.Sl w (.slice ao t.ask.length cap) t.ask ∧ (t.ask ≠ [] → ∀ g, (Value.slice ao t.ask.length cap).ownBlock = some g → ¬ Z g)
  zl : ∀ i, Z i → i < w.heap.size ∧ w0.heap.size ≤ i
  zt : Z bt
  mod : Mod (fun _ => False) w0 w
theorem Tz.turn {S : Nat → Prop} {w0 w w' : World} {Z : Nat → Prop} {bt : Nat} {t : Tk} (h : Tz w0 w Z bt t) (hm : Mod S w w') (hS : ∀ i, S i → Z i) (hb : ¬ S bt) : Tz w0 w' Z bt t := by
  obtain ⟨ao, cap, h1, h2, h3⟩ := h.tok
  exact ⟨⟨ao, cap, h1.mod hm hb, h2.mod2 hm (fun hl g hg e => h3 hl g hg (hS g e)), h3⟩, fun i hi => ⟨Nat.lt_of_lt_of_le (h.zl i hi).1 hm.size, (h.zl i hi).2⟩, h.zt, h.mod.trans hm (fun _ _ h => h) (fun i hi e => by have := (h.zl i (hS i e)).2; omega)⟩
theorem Tz.keep {w0 w w' : World} {Z : Nat → Prop} {bt : Nat} {t : Tk} (h : Tz w0 w Z bt t) (hm : Mod (fun _ => False) w w') : Tz w0 w' Z bt t := h.turn hm (fun _ h => h.elim) (fun h => h)
/-- The token is turned. -/
theorem Tz.tset {w0 w w' : World} {Z : Nat → Prop} {bt : Nat} {t t' : Tk} {ao : Option Addr} {cap : Nat} (h : Tz w0 w Z bt t) (hm : Mod (fun i => i = bt) w w') (hB : Bk w' bt 26 (tcl t' (.slice ao t'.ask.length cap))) (hs : Cr.Sl w (.slice ao t'.ask.length cap) t'.ask) (hz : t'.ask ≠ [] → ∀ g, (Value.slice ao t'.ask.length cap).ownBlock = some g → ¬ Z g) : Tz w0 w' Z bt t' :=
  ⟨⟨ao, cap, hB, hs.mod2 hm (fun hl g hg e => hz hl g hg (e ▸ h.zt)), hz⟩, fun i hi => ⟨Nat.lt_of_lt_of_le (h.zl i hi).1 hm.size, (h.zl i hi).2⟩, h.zt, h.mod.trans hm (fun _ _ h => h) (fun i hi e => by have := (h.zl bt h.zt).2; omega)⟩
/-- An element of an array is set. -/
theorem Tz.put {w0 w : World} {Z : Nat → Prop} {bt b : Nat} {t : Tk} (h : Tz w0 w Z bt t) (k : Nat) (v : Value) (hb : Z b) (hne : bt ≠ b) : Tz w0 (w.setCell ⟨b, k, none⟩ v) Z bt t :=
  h.turn ((Mod.refl (fun i => i = b) w).setCell ⟨b, k, none⟩ v (.inl rfl)) (fun _ e => e ▸ hb) hne
/-- The token behind a visit. -/
def vT (t : Tk) (n a : Int) : Tk := ⟨t.rs, t.rr, t.hop + 1, t.sq, vA a n t.sq t.aru t.low, vL a n t.sq t.aru t.low, t.st, t.idle, t.ask⟩
theorem okT_parts {t : Tk} (h : okT t = true) : 1 ≤ t.hop ∧ t.hop ≤ 9007199254740991 ∧ 0 ≤ t.sq ∧ t.sq ≤ 9007199254740991 ∧ 0 ≤ t.aru ∧ t.aru ≤ t.sq ∧ 0 ≤ t.low ∧ t.low ≤ 8 := by
  obtain ⟨rs, rr, hp, sq, ar, lw, st, ix, l⟩ := t
  rw [okT_eq] at h
  simp only [Bool.and_eq_true, Bool.or_eq_true, win, nm, nd, decide_eq_true_eq] at h
  obtain ⟨_, h2, h3, h4, h5, _⟩ := h
  show 1 ≤ hp ∧ hp ≤ 9007199254740991 ∧ 0 ≤ sq ∧ sq ≤ 9007199254740991 ∧ 0 ≤ ar ∧ ar ≤ sq ∧ 0 ≤ lw ∧ lw ≤ 8
  omega
theorem okT_visit {t : Tk} {n a : Int} (h : okT t = true) (hh : t.hop ≠ 9007199254740991) (hn : nd n = true) (ha : 0 ≤ a) : okT (vT t n a) = true := by
  obtain ⟨rs, rr, hp, sq, ar, lw, st, ix, l⟩ := t
  unfold vT
  rw [okT_eq] at h ⊢
  simp only [Bool.and_eq_true, Bool.or_eq_true, win, nm, nd, decide_eq_true_eq] at h hn ⊢
  dsimp only at hh
  obtain ⟨h1, h2, h3, h4, h5, h6⟩ := h
  refine ⟨h1, by omega, h3, ?_, ?_, h6⟩
  · unfold vA
    split <;> omega
  · unfold vL
    split
    · split <;> omega
    · exact h5
theorem okT_seq {t : Tk} {s : Int} (h : okT t = true) (h1 : t.sq ≤ s) (h2 : s ≤ 9007199254740991) : okT { t with sq := s } = true := by
  obtain ⟨rs, rr, hp, sq, ar, lw, st, ix, l⟩ := t
  rw [okT_eq] at h ⊢
  simp only [Bool.and_eq_true, Bool.or_eq_true, win, nm, nd, decide_eq_true_eq, cask] at h ⊢
  dsimp only at h1
  obtain ⟨a1, a2, a3, a4, a5, a6, a7, a8, a9⟩ := h
  refine ⟨a1, a2, by omega, by omega, a5, a6, a7, a8, ?_⟩
  have : ∀ (l : List Int) (z : Int), asc sq z l = true → asc s z l = true := by
    intro l
    induction l with
    | nil => intro z _; rfl
    | cons x r ih =>
      intro z hz
      simp only [asc, win, Bool.and_eq_true, decide_eq_true_eq] at hz ⊢
      exact ⟨⟨hz.1.1, by omega⟩, ih _ hz.2⟩
  exact this l 1 a9
theorem tvisit {w0 w : World} {Z : Nat → Prop} {bt : Nat} {t : Tk} {ao : Option Addr} {cap : Nat} (h : Tz w0 w Z bt t) (hs : Cr.Sl w (.slice ao t.ask.length cap) t.ask) (n a : Int) (hok : okT t = true) (hh : t.hop ≠ 9007199254740991) (hn : nd n = true) (ha : 0 ≤ a) :
    Calls Try.prog 9 #[.agg (tcl t (.slice ao t.ask.length cap)), .int .i64 n, .int .i64 a, .slice none 0 0] w fun e w' => ∃ ao2 cap2, e = .returned (.agg (tcl (vT t n a) (.slice ao2 t.ask.length cap2))) ∧ Tz w0 w' Z bt t ∧ Mod (fun _ => False) w w' ∧ Hid (∀ w'', Mod (fun i => i = bt) w' w'' → Bk w'' bt 26 (tcl (vT t n a) (.slice ao2 t.ask.length cap2)) → Tz w0 w'' Z bt (vT t n a)) := by
  obtain ⟨rs, rr, hp, sq, ar, lw, st, ix, l⟩ := t
  refine (visit_ok rs rr hp sq ar lw st ix n a ao cap l (.slice none 0 0) [] w hs (nilSl w) hok hh hn ha).mono ?_
  rintro e w' ⟨ao2, cap2, rfl, h1, h2, h3⟩
  refine ⟨ao2, cap2, rfl, h.keep h2, h2, fun w'' hm hB => ?_⟩
  have h4 : Cr.Sl w' (.slice ao2 l.length cap2) l := h1.sl
  exact (h.keep h2).tset hm hB h4 (fun _ g hg hz => by have := h3 g hg; have := (h.zl g hz).1; omega)
theorem exec_call3 {o : Oper} {w : World} (ρ : Operand → Value) {f : FuncId} (hcf : ∀ args w, (callFunc f args).run Try.prog w = .ok (.enter f args) w) (hf : ρ (.func f) = .func (.func f) #[] #[]) {x y z : Operand} {ts : Array TypeId} (ho : o.op = .call { callee := .value (.func f), args := #[x, y, z], argTypes := ts }) : (execOp ρ o).run Try.prog w = .ok (.enter f #[ρ x, ρ y, ρ z]) w := by
  simp [execOp, ho, resolve, invoke, hf, go_sem, hcf]
theorem step_c3 {ops : Array Oper} {o : Oper} {a : Act} {w : World} {K : Act → World → Prop} {Q : Exit → Act → World → Prop} {E : Prop} {f : FuncId} {ts : Array TypeId} (hcf : ∀ args w, (callFunc f args).run Try.prog w = .ok (.enter f args) w) (hw : Region.wanted o (yielded ops a.tmps) = true) (x y z : Operand)
    (ho : o.op = .call { callee := .value (.func f), args := #[x, y, z], argTypes := ts }) (hf : a.eval (.func f) = .func (.func f) #[] #[]) (v u s : Value) (hx : a.eval x = v) (hy : a.eval y = u) (hz : a.eval z = s) (R : Value → World → Prop)
    (HB : Calls Try.prog f #[v, u, s] w fun e w' => ∃ r, e = .returned r ∧ R r w') (h : ∀ r w', R r w' → K (a.put o.dst r) w') :
    if Region.wanted o (yielded ops a.tmps) = true then Oper.wp Try.prog o a w K Q else E := by
  rw [if_pos hw]
  refine wp_enter (by rw [exec_call3 a.eval hcf hf ho, hx, hy, hz]) HB ?_
  rintro e w' ⟨r, rfl, hr⟩
  exact ⟨_, rfl, h r w' hr⟩
theorem safe_st (a b c : Int) (w : World) : Calls Try.prog 18 #[.int .i64 a, .int .i64 b, .int .i64 c] w fun e w' => ∃ r, e = .returned r ∧ r = .int .i64 (max a (min b c)) ∧ w' = w := by
  refine (tSafe a b c w).mono ?_
  rintro e w' ⟨rfl, rfl⟩
  exact ⟨_, rfl, rfl, rfl⟩
end Go.Proofs.Ytbjkncfpddhpkaa
