/- Contracts of a window's Get and Put, of all data. Conditions: numbers of an int; sizes that a slice of bytes has; as many data as a map can have. -/
import Derived.Test.YthiijonmnebjgaaGreatRol
import Derived.Test.YthiijonmnebjgaaGreatRsd
import Derived.Test.YthiijonmnebjgaaGreatWi
import Derived.Test.YthiijonmnebjgaaGreatGw
import Derived.Deep.RegionHeld3
import Derived.Deep.DeepCutAuto
import Derived.Deep.Light
import Derived.Test.YthiijonmnebjgaaGreatYs
import Derived.Deep.QuietTactic
import Derived.BigQuiet
import Derived.Maps.OwnSet
import Derived.Maps.RangeWalk
import Derived.DeepKeys4
import Derived.MapViews
import Derived.Deep.RegionLaw
import Derived.Test.YthiijonmnebjgaaGreatFrx
namespace Go.Proofs.YthiijonmnebjgaaGreat
open Go.RowKit
/-- A struct as a result through a cell. -/
theorem resT {t t' : TypeId} {n : Nat} {d : TypeDesc} (hi : (Tryz.prog.info? t).map (·.size) = some n) (hu : Tryz.prog.underlying t = some d) (hd : d.isRow = true) {fn : Func} {pp : Tmp} (h : fn.results = #[.cell pp t]) {tmps : Array Value} {w : World} {b : Nat} {xs : Array Value} (hp : tmps.getD pp undef = .pointer (some ⟨b, 0, none⟩)) (hb : Bk w b t' xs) (hs : xs.size = n) :
    (results fn tmps).run Tryz.prog w = .ok (.agg xs) w := by
  rw [results_cell1 h, hp]
  have hl := run_loadVar_mid (P := Tryz.prog) w b 0 t xs.toList _ hb.row hu hd (by rw [hi]; simp [hs])
  simp only [asAddr, Sem.run_pure, Result.andThen]
  rw [hl]
/-- .. and a number behind it. -/
theorem resT2 {t t' : TypeId} {n : Nat} {d : TypeDesc} (hi : (Tryz.prog.info? t).map (·.size) = some n) (hu : Tryz.prog.underlying t = some d) (hd : d.isRow = true) {fn : Func} {pp u : Tmp} (h : fn.results = #[.cell pp t, .tmp u]) {tmps : Array Value} {w : World} {b : Nat} {xs : Array Value} {v : Value} (hp : tmps.getD pp undef = .pointer (some ⟨b, 0, none⟩)) (hv : tmps.getD u undef = v) (hb : Bk w b t' xs) (hs : xs.size = n) :
    (results fn tmps).run Tryz.prog w = .ok (.tuple #[.agg xs, v]) w := by
  rw [results_cell_tmp h, hp, hv]
  have hl := run_loadVar_mid (P := Tryz.prog) w b 0 t xs.toList _ hb.row hu hd (by rw [hi]; simp [hs])
  simp only [asAddr, Sem.run_pure, Result.andThen]
  rw [hl]
theorem Mod.none {S : Nat → Prop} {a b : World} (h : Mod (fun _ => False) a b) : Mod S a b := h.mono fun _ _ h => h.elim
theorem Mod.and {a b c : World} (h : Mod (fun _ => False) a b) (k : Mod (fun _ => False) b c) : Mod (fun _ => False) a c := h.trans k (fun _ _ h => h) (fun _ _ h => h)
/-- Data: the ring's Seq and Rep, Seq, Sender, Stamp, the message. -/
structure Dt where
  q : Int
  r : Int
  n : Int
  s : Int
  t : Int
  m : Ms
def dcl (d : Dt) (v : Value) : List Value := [.int .i64 d.q, .int .i64 d.r, .int .i64 d.n, .int .i64 d.s, .int .i64 d.t, .int .i64 d.m.kind, .int .i64 d.m.origin, .int .i64 d.m.life, .int .i64 d.m.id, .int .i64 d.m.part, .int .i64 d.m.parts, .int .i64 d.m.groups, .bool d.m.safe, .int .i64 d.m.st, .int .i64 d.m.rs, .int .i64 d.m.rr, .int .i64 d.m.sq, v]
def dv (d : Dt) (v : Value) : Value := .agg #[.int .i64 d.q, .int .i64 d.r, .int .i64 d.n, .int .i64 d.s, .int .i64 d.t, .int .i64 d.m.kind, .int .i64 d.m.origin, .int .i64 d.m.life, .int .i64 d.m.id, .int .i64 d.m.part, .int .i64 d.m.parts, .int .i64 d.m.groups, .bool d.m.safe, .int .i64 d.m.st, .int .i64 d.m.rs, .int .i64 d.m.rr, .int .i64 d.m.sq, v]
theorem dcl_len (d : Dt) (v : Value) : (dcl d v).length = 18 := rfl
/-- None. -/
def d0 : Dt := ⟨0, 0, 0, 0, 0, ⟨0, 0, 0, 0, 0, 0, 0, false, 0, 0, 0, 0, []⟩⟩
theorem Sl.shape {w : World} {v : Value} {l : List Int} (h : Sl w v l) : ∃ ao cap, v = .slice ao l.length cap := by
  obtain ⟨ao, cap, e, _⟩ := h.form
  exact ⟨ao, cap, e⟩
set_option maxRecDepth 100000 in
set_option maxHeartbeats 4000000 in
theorem clone_dt (d : Dt) (v : Value) (w : World) (hs : Sl w v d.m.body) (hb : d.m.body.length ≤ 140737488355328) :
    Calls Tryz.prog 40 #[dv d v] w fun e w' => ∃ v', e = .returned (dv d v') ∧ Own w' v' d.m.body ∧ Mod (fun _ => False) w w' ∧ (∀ g, v'.ownBlock = some g → w.heap.size ≤ g) := by
  obtain ⟨ao, cap, rfl⟩ := hs.shape
  unfold dv
  have hA := ((Mod.refl (fun _ => False) w).alloc (.cells #[.int .i64 d.q, .int .i64 d.r, .int .i64 d.n, .int .i64 d.s, .int .i64 d.t, .int .i64 d.m.kind, .int .i64 d.m.origin, .int .i64 d.m.life, .int .i64 d.m.id, .int .i64 d.m.part, .int .i64 d.m.parts, .int .i64 d.m.groups, .bool d.m.safe, .int .i64 d.m.st, .int .i64 d.m.rs, .int .i64 d.m.rr, .int .i64 d.m.sq, .slice ao d.m.body.length cap] 45)).alloc (.cells #[.int .i64 0, .int .i64 0, .int .i64 0, .int .i64 0, .int .i64 0, .int .i64 0, .int .i64 0, .int .i64 0, .int .i64 0, .int .i64 0, .int .i64 0, .int .i64 0, .bool false, .int .i64 0, .int .i64 0, .int .i64 0, .int .i64 0, .slice none 0 0] 45)
  have hZ := Bk.new (w.alloc (.cells #[.int .i64 d.q, .int .i64 d.r, .int .i64 d.n, .int .i64 d.s, .int .i64 d.t, .int .i64 d.m.kind, .int .i64 d.m.origin, .int .i64 d.m.life, .int .i64 d.m.id, .int .i64 d.m.part, .int .i64 d.m.parts, .int .i64 d.m.groups, .bool d.m.safe, .int .i64 d.m.st, .int .i64 d.m.rs, .int .i64 d.m.rr, .int .i64 d.m.sq, .slice ao d.m.body.length cap] 45)) #[.int .i64 0, .int .i64 0, .int .i64 0, .int .i64 0, .int .i64 0, .int .i64 0, .int .i64 0, .int .i64 0, .int .i64 0, .int .i64 0, .int .i64 0, .int .i64 0, .bool false, .int .i64 0, .int .i64 0, .int .i64 0, .int .i64 0, .slice none 0 0] 45
  have hO := (Bk.new w #[.int .i64 d.q, .int .i64 d.r, .int .i64 d.n, .int .i64 d.s, .int .i64 d.t, .int .i64 d.m.kind, .int .i64 d.m.origin, .int .i64 d.m.life, .int .i64 d.m.id, .int .i64 d.m.part, .int .i64 d.m.parts, .int .i64 d.m.groups, .bool d.m.safe, .int .i64 d.m.st, .int .i64 d.m.rs, .int .i64 d.m.rr, .int .i64 d.m.sq, .slice ao d.m.body.length cap] 45).mod ((Mod.refl (fun _ => False) _).alloc (.cells #[.int .i64 0, .int .i64 0, .int .i64 0, .int .i64 0, .int .i64 0, .int .i64 0, .int .i64 0, .int .i64 0, .int .i64 0, .int .i64 0, .int .i64 0, .int .i64 0, .bool false, .int .i64 0, .int .i64 0, .int .i64 0, .int .i64 0, .slice none 0 0] 45)) (fun h => h)
  have e1 : (w.alloc (.cells #[.int .i64 d.q, .int .i64 d.r, .int .i64 d.n, .int .i64 d.s, .int .i64 d.t, .int .i64 d.m.kind, .int .i64 d.m.origin, .int .i64 d.m.life, .int .i64 d.m.id, .int .i64 d.m.part, .int .i64 d.m.parts, .int .i64 d.m.groups, .bool d.m.safe, .int .i64 d.m.st, .int .i64 d.m.rs, .int .i64 d.m.rr, .int .i64 d.m.sq, .slice ao d.m.body.length cap] 45)).heap.size = w.heap.size + 1 := by simp
  have e3 : ((w.alloc (.cells #[.int .i64 d.q, .int .i64 d.r, .int .i64 d.n, .int .i64 d.s, .int .i64 d.t, .int .i64 d.m.kind, .int .i64 d.m.origin, .int .i64 d.m.life, .int .i64 d.m.id, .int .i64 d.m.part, .int .i64 d.m.parts, .int .i64 d.m.groups, .bool d.m.safe, .int .i64 d.m.st, .int .i64 d.m.rs, .int .i64 d.m.rr, .int .i64 d.m.sq, .slice ao d.m.body.length cap] 45)).alloc (.cells #[.int .i64 0, .int .i64 0, .int .i64 0, .int .i64 0, .int .i64 0, .int .i64 0, .int .i64 0, .int .i64 0, .int .i64 0, .int .i64 0, .int .i64 0, .int .i64 0, .bool false, .int .i64 0, .int .i64 0, .int .i64 0, .int .i64 0, .slice none 0 0] 45)).heap.size = w.heap.size + 2 := by simp
  rw [e1] at hZ
  have HCp := clone_any (.slice ao d.m.body.length cap) d.m.body _ (hs.mod hA (fun _ _ h => h)) hb
  have HZ : Hid (Bk _ _ _ _) := hZ
  have HO : Hid (Bk _ _ _ _) := hO
  clear hZ hO e1
  go_enter Tryz.func40, Tryz.ntmps40
  go_wp2_with (fail)
  refine HCp.mono ?_
  rintro e w1 ⟨v1, rfl, ho1, hm1, hf1⟩
  have hm := hA.and hm1
  have hZ1 := HZ.out.mod hm1 (fun h => h)
  have hO1 := HO.out.mod hm1 (fun h => h)
  have c17 := hO1.cellv (j := 17) rfl
  have f17 := hO1.frz 17
  have hO2 := hO1.set 17 v1
  simp only [List.setIfInBounds_toArray, List.set_cons_succ, List.set_cons_zero] at hO2
  have hZ2 := hZ1.other ⟨w.heap.size, 17, none⟩ v1 (by simp)
  have hS := (Mod.refl (fun q => q = w.heap.size) w1).setCell ⟨w.heap.size, 17, none⟩ v1 (.inl rfl)
  have HM2 : Hid (Mod (fun _ => False) w _) := hm.trans hS (V := fun _ => False) (fun _ _ h => h) (fun q hq h => by omega)
  have HN2 : Hid (Own _ _ _) := ho1.mod hS (fun q hq e => by have := hf1 q hq; omega)
  have HO2 : Hid (Bk _ _ _ _) := hO2
  have HZ2 : Hid (Bk _ _ _ _) := hZ2
  have HF : Hid (∀ q, v1.ownBlock = some q → w.heap.size + 2 ≤ q) := fun q hq => by have := hf1 q hq; omega
  obtain ⟨a1, c1, rfl⟩ := ho1.shape
  clear hZ1 hO1 hO2 hZ2 hm hm1 ho1 hA HCp HZ HO hf1 e3 hS
  go_wp2_with (first | (refine wpList_load_row info18 Tryz.underlying45 rfl rfl _ rfl w.heap.size rfl HO2.out rfl ?_; simp only [Act.put, List.setIfInBounds_toArray, List.set_cons_succ, List.set_cons_zero]) | (refine wpList_store_row info18 rfl rfl _ _ rfl (w.heap.size + 1) #[.int .i64 d.q, .int .i64 d.r, .int .i64 d.n, .int .i64 d.s, .int .i64 d.t, .int .i64 d.m.kind, .int .i64 d.m.origin, .int .i64 d.m.life, .int .i64 d.m.id, .int .i64 d.m.part, .int .i64 d.m.parts, .int .i64 d.m.groups, .bool d.m.safe, .int .i64 d.m.st, .int .i64 d.m.rs, .int .i64 d.m.rr, .int .i64 d.m.sq, .slice a1 d.m.body.length c1] rfl rfl HZ2.out rfl rfl rfl ?_; intro wF hBF hMF))
  exact bodyPost_ret (resT info18 Tryz.underlying45 rfl rfl rfl hBF rfl) rfl ⟨_, rfl, HN2.out.mod hMF (fun q hq e => by have := HF.out q hq; omega), HM2.out.trans hMF (V := fun _ => False) (fun _ _ h => h) (fun q hq h => by omega), fun q hq => by have := HF.out q hq; omega⟩
end Go.Proofs.YthiijonmnebjgaaGreat
namespace Go.Proofs.YthiijonmnebjgaaGreat.Cr
open Go.RowKit
theorem info3 : (Tryz.prog.info? 3).map (fun i => (i.zero, i.size, i.bytes)) = some (some (.int .i64 0), 1, 8) := by kernel_rfl
theorem eq_take {a b : List Int} {k : Nat} (ha : k < a.length) (hb : k < b.length) (h : a.take k = b.take k) (hk : a.getD k 0 = b.getD k 0) : a.take (k + 1) = b.take (k + 1) := by
  rw [List.take_succ_eq_append_getElem ha, List.take_succ_eq_append_getElem hb, h]
  simp [ha, hb] at hk
  rw [hk]
end Go.Proofs.YthiijonmnebjgaaGreat.Cr
namespace Go.Proofs.YthiijonmnebjgaaGreat
open Go.RowKit
/-- x brought to 0 .. m - 1. -/
def br (x m : Int) : Int := if x.tmod m < 0 then x.tmod m + m else x.tmod m
theorem br_rng (x : Int) (m : Nat) (h0 : 0 < m) : 0 ≤ br x m ∧ br x m < m ∧ -(m : Int) < x.tmod m ∧ x.tmod m < m := by
  have q1 : ¬ ((m : Int) = 0) := by omega
  have hb : -(m : Int) < x.tmod (m : Int) ∧ x.tmod (m : Int) < (m : Int) := by
    rcases (show 0 ≤ x ∨ x < 0 by omega) with h | h
    · rw [Int.tmod_eq_emod_of_nonneg h]
      have a1 := Int.emod_nonneg x q1
      have a2 := Int.emod_lt_of_pos x (show (0 : Int) < m by omega)
      omega
    · have e := Int.neg_tmod (-x) (m : Int)
      rw [Int.neg_neg, Int.tmod_eq_emod_of_nonneg (by omega : 0 ≤ -x)] at e
      rw [e]
      have a1 := Int.emod_nonneg (-x) q1
      have a2 := Int.emod_lt_of_pos (-x) (show (0 : Int) < m by omega)
      omega
  unfold br
  split <;> omega
theorem Cr.Own.rng {w : World} {v : Value} {l : List Int} (h : Cr.Own w v l) : ∃ ao cap, v = .slice ao l.length cap ∧ l.length ≤ cap ∧ cap ≤ maxLen := by
  rcases h.2 with ⟨rfl, h0⟩ | ⟨g, cap, cur, rfl, _, _, hn, hc, _⟩
  · exact ⟨none, 0, by rw [h0], by omega, by simp [maxLen]⟩
  · exact ⟨_, cap, rfl, hn, hc⟩
theorem cell_one (w : World) (b : Nat) (u : Value) (h : w.cell? ⟨b, 0, none⟩ = some u) : ∀ j x, [u][j]? = some x → w.cell? ((⟨b, 0, none⟩ : Addr).add j) = some x := fun j x hj => by
  cases j with
  | zero => simp at hj; subst hj; simpa [Addr.add] using h
  | succ n => simp at hj
/-- append of one int. -/
theorem wpList_app1 {ops : Array Oper} {rest : List Oper} {o : Oper} {a : Act} {w : World} {Q : Exit → Act → World → Prop} (hgd : o.guard = none) (s x : Operand) (ho : o.op = .call { callee := .builtin .append, args := #[s, x], argTypes := #[83, 83] })
    (v : Value) (l : List Int) (y : Int) (b : Nat) (hs : a.eval s = v) (hx : a.eval x = .slice (some ⟨b, 0, none⟩) 1 1) (hv : Cr.Own w v l) (hb : w.cell? ⟨b, 0, none⟩ = some (.int .i64 y)) (hl : l.length + 1 ≤ 1000000000000)
    (h : ∀ v' w', Cr.Own w' v' (l ++ [y]) → Mod (fun k => v.ownBlock = some k) w w' → Fr w v v' → wpList Tryz.prog ops Q rest (a.put o.dst v') w') : wpList Tryz.prog ops Q (o :: rest) a w := by
  obtain ⟨i0, hi, hz0, hz1, hz2⟩ := info_parts Cr.info3
  refine wpList_append_own_at _ hgd _ _ 83 ho 0 3 i0 (.int .i64 0) 1 8 Tryz.underlying83 hi hz0 hz1 hz2 rfl (by decide) v l.length (Cr.U l) hs hv ⟨b, 0, none⟩ 1 1 [.int .i64 y] hx rfl (cell_one w b _ hb) (Cr.U_one [y]) (by simp only [maxLen]; omega) (by omega) (Nat.zero_le _) ?_
  intro v' w' hown hgrow hnil hat
  refine h v' w' ?_ ((Mod.refl _ w).grown hgrow (fun k hk _ => hk)) (fun g hg => ?_)
  · unfold Cr.Own
    rw [Cr.U_app, List.length_append]
    exact hown
  · rcases hat with h1 | h1
    · rw [h1] at hg; exact .inl hg
    · rw [h1] at hg; simp only [Option.some.injEq] at hg; exact .inr (by omega)
end Go.Proofs.YthiijonmnebjgaaGreat
namespace Go.Proofs.YthiijonmnebjgaaGreat
open Go.RowKit Go.Maps Go.WideShapes
theorem wf_of {n : Int} (h : I64 n) : (Lit.int .i64 n).wf = true := WalkArith.wf_i64 (by unfold I64 at h; omega)
theorem lawI : Keyed Tryz.prog 3 := int_keyed Tryz.underlying3
/-- What a number is in the map's datum. -/
def kl (k : Int) : Lit := .int .i64 k
theorem kl_of {k : Int} (h : I64 k) : keyOf Tryz.prog 3 (.int .i64 k) = some (kl k) := keyOf_int_mk Tryz.underlying3 (wf_of h)
theorem kl_inj {a b : Int} (h : kl a = kl b) : a = b := by simpa [kl] using h
theorem kl_key {a : Int} (ha : I64 a) : WideAt.IsKeyLit (kl a) := lawI.key (kl_of ha)
def hE (v : Value) : Option (DataW Value × List MemPlace) := some (.held v, [])
theorem zeroData (w : World) : (zeroValue 45).run Tryz.prog w = .ok (dv d0 (.slice none 0 0)) w := by kernel_rfl
def mv (o : Option Dt) (v : Value) : Value := match o with | none => dv d0 (.slice none 0 0) | some d => dv d v
theorem owns_mod {S : Nat → Prop} {w w' : World} {b n : Nat} {D : DataW Value} (h : w.ownsMap Tryz.prog 3 hE b n D) (hm : Mod S w w') (hb : ¬ S b) : w'.ownsMap Tryz.prog 3 hE b n D := by
  obtain ⟨es, clock, hk, r⟩ := h
  exact ⟨es, clock, hm.obj hk hb, r⟩
theorem Mod.turned {S : Nat → Prop} {a w w' : World} {b : Nat} (h : Mod S a w) (ht : w.mapTurned w' b) (hb : S b ∨ a.heap.size ≤ b) : Mod S a w' :=
  h.grown ht.grown (fun k hk hlt => by cases hk; rcases hb with h | h; exact h; omega)
/-- One put in. -/
def upd {α : Type} (J : Int → α) (k : Int) (z : α) : Int → α := fun i => if i = k then z else J i
theorem upd_same {α : Type} (J : Int → α) (k : Int) (z : α) : upd J k z k = z := by simp [upd]
theorem upd_other {α : Type} (J : Int → α) {k i : Int} (z : α) (h : i ≠ k) : upd J k z i = J i := by simp [upd, h]
/-- A map of N data; V: where their bodies lie. -/
structure Mn (w : World) (B : Nat) (J : Int → Option Dt) (V : Int → Value) (N : Nat) : Prop where
  own : ∃ D, w.ownsMap Tryz.prog 3 hE B N D ∧ Maps.size D = N ∧ (∀ k, I64 k → D.atKey (kl k) (.held (dv d0 (.slice none 0 0))) = .held (mv (J k) (V k)) ∧ Maps.has D (kl k) = (J k).isSome)
  i64 : ∀ k, (J k).isSome = true → I64 k
theorem Mn.mod {S : Nat → Prop} {w w' : World} {B : Nat} {J : Int → Option Dt} {V : Int → Value} {N : Nat} (h : Mn w B J V N) (hm : Mod S w w') (hp : ¬ S B) : Mn w' B J V N := by
  obtain ⟨D, h1, h2, h3⟩ := h.own
  exact ⟨⟨D, owns_mod h1 hm hp, h2, h3⟩, h.i64⟩
theorem Mn.new (w : World) : Mn (w.alloc (.map #[] 0)) w.heap.size (fun _ => none) (fun _ => .slice none 0 0) 0 :=
  ⟨⟨_, World.ownsMap_made w Tryz.prog 3 _, by simp [Maps.size], fun k _ => by simp [DataW.atKey, mv, Maps.has]⟩, by simp⟩
theorem Mn.kind {w : World} {B : Nat} {J : Int → Option Dt} {V : Int → Value} {N : Nat} (h : Mn w B J V N) : ∃ es clock, w.heap[B]? = some (.map es clock) := by
  obtain ⟨D, ⟨es, clock, hb, _⟩, _⟩ := h.own
  exact ⟨es, clock, hb⟩
theorem Mn.lt {w : World} {B : Nat} {J : Int → Option Dt} {V : Int → Value} {N : Nat} (h : Mn w B J V N) : B < w.heap.size := by
  obtain ⟨es, clock, hb⟩ := h.kind
  exact lt_of_block hb
theorem Mn.look {w : World} {B : Nat} {J : Int → Option Dt} {V : Int → Value} {N : Nat} (h : Mn w B J V N) {k : Int} (hk : I64 k) : (Instr.lookup 73 (.map (some B)) (.int .i64 k) false).run Tryz.prog w = .ok (mv (J k) (V k)) w := by
  obtain ⟨D, h1, _, h3⟩ := h.own
  obtain ⟨c, ps, hrun, hat⟩ := h1.lookup lawI Tryz.underlying73 (zeroData _) (zd := .held (dv d0 (.slice none 0 0))) (zp := []) rfl (kl_of hk)
  rw [(h3 k hk).1] at hat
  simp only [hE, Option.some.injEq, Prod.mk.injEq, DataW.held.injEq] at hat
  rw [hrun, hat.1]
theorem Mn.look2 {w : World} {B : Nat} {J : Int → Option Dt} {V : Int → Value} {N : Nat} (h : Mn w B J V N) {k : Int} (hk : I64 k) : (Instr.lookup 73 (.map (some B)) (.int .i64 k) true).run Tryz.prog w = .ok (.tuple #[mv (J k) (V k), .bool (J k).isSome]) w := by
  obtain ⟨D, h1, _, h3⟩ := h.own
  obtain ⟨c, ps, hrun, hat⟩ := h1.look_ok lawI Tryz.underlying73 (zeroData _) (zd := .held (dv d0 (.slice none 0 0))) (zp := []) rfl (kl_of hk)
  rw [(h3 k hk).1] at hat
  simp only [hE, Option.some.injEq, Prod.mk.injEq, DataW.held.injEq] at hat
  rw [hrun, hat.1, (h3 k hk).2]
theorem Mn.store {w : World} {B : Nat} {J : Int → Option Dt} {V : Int → Value} {N : Nat} (h : Mn w B J V N) {k : Int} (hk : I64 k) (hj : (J k).isSome = false) (hN : N < maxLen) (z : Dt) (v : Value) :
    ∃ w', (Instr.mapUpdate 73 (.map (some B)) (.int .i64 k) (dv z v)).run Tryz.prog w = .ok () w' ∧ Mn w' B (upd J k (some z)) (upd V k v) (N + 1) ∧ w.mapTurned w' B := by
  obtain ⟨D, h1, h2, h3⟩ := h.own
  obtain ⟨w', hrun, r1, r2⟩ := h1.store (d := .held (dv z v)) (ps := []) lawI Tryz.underlying73 hN (kl_of hk) (val := dv z v) (by rfl)
  have hs := size_put (h1.tidy lawI) (k := kl k) (.held (dv z v))
  rw [(h3 k hk).2, h2, hj] at hs
  refine ⟨w', hrun, ⟨⟨_, r1, by simpa using hs, fun i hi => ?_⟩, fun i hi => ?_⟩, r2⟩
  · by_cases e : i = k
    · subst e
      have hkk := kl_key hi
      rw [atKey_put_same h1.isMap hkk, has_put_same h1.isMap hkk, upd_same, upd_same]
      exact ⟨rfl, rfl⟩
    · rw [atKey_put_other (fun e' => e (kl_inj e')), has_put_other (fun e' => e (kl_inj e')), upd_other J _ e, upd_other V _ e]
      exact h3 i hi
  · by_cases e : i = k
    · rw [e]; exact hk
    · rw [upd_other J _ e] at hi
      exact h.i64 i hi
/-- Its blocks are old ones, or were not there yet. -/
def Gone (w : World) (X Y : Nat → Prop) : Prop := ∀ i, Y i → X i ∨ w.heap.size ≤ i
/-- What may be said of a window: data by their numbers, up to which all are there, the greatest seen. -/
structure Wp (J : Int → Option Dt) (a h : Int) : Prop where
  each : ∀ k d, J k = some d → d.n = k ∧ 1 ≤ k ∧ k ≤ 9007199254740991 ∧ (∀ c ∈ d.m.body, 0 ≤ c ∧ c ≤ 255) ∧ d.m.body.length ≤ 140737488355328
  aru : 0 ≤ a ∧ (∀ k, 1 ≤ k → k ≤ a → (J k).isSome = true) ∧ J (a + 1) = none
  high : 0 ≤ h ∧ h ≤ 9007199254740991 ∧ ∀ k, (J k).isSome = true → k ≤ h
/-- A window in memory; X: its blocks. -/
structure Wm (w : World) (p : Nat) (X : Nat → Prop) (J : Int → Option Dt) (a h : Int) (n : Nat) : Prop where
  blk : ∃ B V N, Bk w p 75 #[.map (some B), .int .i64 a, .int .i64 h] ∧ Mn w B J V N ∧ N ≤ n ∧ X B ∧ ∀ k d, J k = some d → Own w (V k) d.m.body ∧ ∀ g, (V k).ownBlock = some g → X g
  px : X p
  lt : ∀ i, X i → i < w.heap.size
structure Wn (w : World) (p : Nat) (X : Nat → Prop) (J : Int → Option Dt) (a h : Int) (n : Nat) : Prop where
  mem : Wm w p X J a h n
  wp : Wp J a h
theorem Wm.mod {S : Nat → Prop} {w w' : World} {p : Nat} {X : Nat → Prop} {J : Int → Option Dt} {a h : Int} {n : Nat} (hw : Wm w p X J a h n) (hm : Mod S w w') (hS : ∀ i, X i → ¬ S i) : Wm w' p X J a h n := by
  obtain ⟨B, V, N, h1, h2, h3, h4, h5⟩ := hw.blk
  refine ⟨⟨B, V, N, h1.mod hm (hS p hw.px), h2.mod hm (hS B h4), h3, h4, fun k d hd => ?_⟩, hw.px, fun i hi => Nat.lt_of_lt_of_le (hw.lt i hi) hm.size⟩
  obtain ⟨a1, a2⟩ := h5 k d hd
  exact ⟨a1.mod hm (fun g hg => hS g (a2 g hg)), a2⟩
theorem Wm.keep {w w' : World} {p : Nat} {X : Nat → Prop} {J : Int → Option Dt} {a h : Int} {n : Nat} (hw : Wm w p X J a h n) (hm : Mod (fun _ => False) w w') : Wm w' p X J a h n := hw.mod hm (fun _ _ h => h)
theorem Wn.mod {S : Nat → Prop} {w w' : World} {p : Nat} {X : Nat → Prop} {J : Int → Option Dt} {a h : Int} {n : Nat} (hw : Wn w p X J a h n) (hm : Mod S w w') (hS : ∀ i, X i → ¬ S i) : Wn w' p X J a h n := ⟨hw.mem.mod hm hS, hw.wp⟩
theorem Wn.keep {w w' : World} {p : Nat} {X : Nat → Prop} {J : Int → Option Dt} {a h : Int} {n : Nat} (hw : Wn w p X J a h n) (hm : Mod (fun _ => False) w w') : Wn w' p X J a h n := hw.mod hm (fun _ _ h => h)
theorem Wp.some_i {J : Int → Option Dt} {a h : Int} (hp : Wp J a h) {k : Int} (hk : (J k).isSome = true) : 1 ≤ k ∧ k ≤ 9007199254740991 := by
  obtain ⟨d, hd⟩ := Option.isSome_iff_exists.1 hk
  obtain ⟨_, h1, h2, _⟩ := hp.each k d hd
  exact ⟨h1, h2⟩
theorem Wp.a_le {J : Int → Option Dt} {a h : Int} (hp : Wp J a h) : 0 ≤ a ∧ a ≤ h := by
  obtain ⟨h0, h1, _⟩ := hp.aru
  refine ⟨h0, ?_⟩
  rcases Int.lt_or_le a 1 with h | h
  · have := hp.high.1; omega
  · exact hp.high.2.2 a (h1 a h (Int.le_refl _))
/-- There is one such number alone. -/
theorem Wp.aru_eq {J J' : Int → Option Dt} {a h a' h' : Int} (hp : Wp J a h) (hp' : Wp J' a' h') (he : ∀ k, (J k).isSome = (J' k).isSome) : a = a' := by
  obtain ⟨h0, h1, h2⟩ := hp.aru
  obtain ⟨k0, k1, k2⟩ := hp'.aru
  rcases Int.lt_trichotomy a a' with h | h | h
  · have := k1 (a + 1) (by omega) (by omega)
    rw [← he, h2] at this
    cases this
  · exact h
  · have := h1 (a' + 1) (by omega) (by omega)
    rw [he, k2] at this
    cases this
theorem Wp.empty : Wp (fun _ => none) 0 0 := ⟨by simp, ⟨by omega, by intro k h1 h2; omega, rfl⟩, by simp⟩
theorem Bk.new2 (w : World) (o : Obj) (xs : Array Value) (t : TypeId) : Bk ((w.alloc o).alloc (.cells xs t)) (w.heap.size + 1) t xs := by
  have := Bk.new (w.alloc o) xs t
  rwa [show (w.alloc o).heap.size = w.heap.size + 1 by simp] at this
theorem wNew (w : World) : Calls Tryz.prog 27 #[] w fun e w' => ∃ p X, e = .returned (.pointer (some ⟨p, 0, none⟩)) ∧ Wn w' p X (fun _ => none) 0 0 0 ∧ (∀ i, X i → w.heap.size ≤ i) ∧ Mod (fun _ => False) w w' := by
  have hmm := @run_makeMap Tryz.prog
  go_enter Tryz.func27, Tryz.ntmps27
  go_wp2
  go_ret
  refine ⟨w.heap.size + 1, fun i => i = w.heap.size ∨ i = w.heap.size + 1, rfl, ⟨⟨⟨w.heap.size, _, 0, Bk.new2 w _ _ _, (Mn.new w).mod ((Mod.refl (fun _ => False) _).alloc _) (fun h => h), Nat.le_refl _, .inl rfl, by simp⟩, .inr rfl, fun i hi => by simp; omega⟩, Wp.empty⟩, fun i hi => by omega, ((Mod.refl _ w).alloc _).alloc _⟩
theorem eqMap1 (B : Nat) (w : World) : (binOp .eql 73 (.map (some B)) (.map none)).run Tryz.prog w = .ok (.bool false) w := by kernel_rfl
theorem eqMap0 (w : World) : (binOp .eql 73 (.map none) (.map none)).run Tryz.prog w = .ok (.bool true) w := by kernel_rfl
theorem isNone_w {w : World} {p B : Nat} (h : w.cell? ⟨p, 0, none⟩ = some (.map (some B))) : Calls Tryz.prog 37 #[.pointer (some ⟨p, 0, none⟩)] w fun e w' => e = .returned (.bool false) ∧ w' = w := by
  have hq := eqMap1 B
  go_enter Tryz.func37, Tryz.ntmps37
  go_wp2
  go_ret
  exact ⟨rfl, rfl⟩
theorem isNone_nil (w : World) : Calls Tryz.prog 37 #[.pointer none] w fun e w' => e = .returned (.bool true) ∧ w' = w := by
  go_enter Tryz.func37, Tryz.ntmps37
  go_wp2
  go_ret
  exact ⟨rfl, rfl⟩
theorem isNone_zero {w : World} {p : Nat} (h : w.cell? ⟨p, 0, none⟩ = some (.map none)) : Calls Tryz.prog 37 #[.pointer (some ⟨p, 0, none⟩)] w fun e w' => e = .returned (.bool true) ∧ w' = w := by
  have hq := eqMap0
  go_enter Tryz.func37, Tryz.ntmps37
  go_wp2
  go_ret
  exact ⟨rfl, rfl⟩
theorem mv_at {w : World} {X : Nat → Prop} {J : Int → Option Dt} {V : Int → Value} (h5 : ∀ k d, J k = some d → Own w (V k) d.m.body ∧ ∀ g, (V k).ownBlock = some g → X g) (k : Int) : ∃ ao cap, mv (J k) (V k) = dv ((J k).getD d0) (.slice ao ((J k).getD d0).m.body.length cap) ∧ Own w (.slice ao ((J k).getD d0).m.body.length cap) ((J k).getD d0).m.body := by
  cases hJ : J k with
  | none => exact ⟨none, 0, rfl, Own.nil w⟩
  | some d =>
    obtain ⟨a1, _⟩ := h5 k d hJ
    obtain ⟨ao, cap, e⟩ := a1.shape
    exact ⟨ao, cap, by show dv d (V k) = _; rw [e]; rfl, e ▸ a1⟩
set_option maxRecDepth 100000 in
set_option maxHeartbeats 2000000 in
theorem has_w {w : World} {p : Nat} {X : Nat → Prop} {J : Int → Option Dt} {a h : Int} {n : Nat} (hw : Wm w p X J a h n) (k : Int) (hk : I64 k) : Calls Tryz.prog 39 #[.pointer (some ⟨p, 0, none⟩), .int .i64 k] w fun e w' => e = .returned (.bool (J k).isSome) ∧ Mod (fun _ => False) w w' := by
  obtain ⟨B, V, N, h1, h2, _, _, h5⟩ := hw.blk
  have c0 : w.cell? ⟨p, 0, none⟩ = some (.map (some B)) := h1.cellv (j := 0) rfl
  have hL := h2.look2 hk
  obtain ⟨ao, cap, hd, _⟩ := mv_at h5 k
  rw [hd] at hL
  generalize (J k).isSome = b at hL ⊢
  generalize (J k).getD d0 = d at hL
  unfold dv at hL
  clear hd h1 h2 hw hk h5
  have hZ : Hid (Bk _ _ _ _) := Bk.new w #[.int .i64 0, .int .i64 0, .int .i64 0, .int .i64 0, .int .i64 0, .int .i64 0, .int .i64 0, .int .i64 0, .int .i64 0, .int .i64 0, .int .i64 0, .int .i64 0, .bool false, .int .i64 0, .int .i64 0, .int .i64 0, .int .i64 0, .slice none 0 0] 45
  have hA := (Mod.refl (fun _ => False) w).alloc (.cells #[.int .i64 0, .int .i64 0, .int .i64 0, .int .i64 0, .int .i64 0, .int .i64 0, .int .i64 0, .int .i64 0, .int .i64 0, .int .i64 0, .int .i64 0, .int .i64 0, .bool false, .int .i64 0, .int .i64 0, .int .i64 0, .int .i64 0, .slice none 0 0] 45)
  go_enter Tryz.func39, Tryz.ntmps39
  go_wp2_with (refine wpList_store_row info18 rfl rfl _ _ rfl w.heap.size #[.int .i64 d.q, .int .i64 d.r, .int .i64 d.n, .int .i64 d.s, .int .i64 d.t, .int .i64 d.m.kind, .int .i64 d.m.origin, .int .i64 d.m.life, .int .i64 d.m.id, .int .i64 d.m.part, .int .i64 d.m.parts, .int .i64 d.m.groups, .bool d.m.safe, .int .i64 d.m.st, .int .i64 d.m.rs, .int .i64 d.m.rr, .int .i64 d.m.sq, .slice ao d.m.body.length cap] rfl rfl hZ.out rfl rfl rfl ?_; intro wF hBF hMF)
  go_ret
  exact ⟨rfl, hA.trans hMF (V := fun _ => False) (fun _ _ h => h) (fun i hi h => by omega)⟩
theorem Aru_w {w : World} {p : Nat} {X : Nat → Prop} {J : Int → Option Dt} {a h : Int} {n : Nat} (hw : Wn w p X J a h n) : Calls Tryz.prog 19 #[.pointer (some ⟨p, 0, none⟩)] w fun e w' => e = .returned (.int .i64 a) ∧ w' = w := by
  obtain ⟨B, V, N, h1, h2, _⟩ := hw.mem.blk
  have HN := isNone_w (w := w) (p := p) (B := B) (h1.cellv (j := 0) rfl)
  have c1 : w.cell? ⟨p, 1, none⟩ = some (.int .i64 a) := h1.cellv (j := 1) rfl
  clear h1 h2 hw
  go_enter Tryz.func19, Tryz.ntmps19
  go_wp2_with (go_at_call 37; refine HN.mono ?_; rintro e w' ⟨rfl, rfl⟩)
  go_ret
  exact ⟨rfl, rfl⟩
theorem High_w {w : World} {p : Nat} {X : Nat → Prop} {J : Int → Option Dt} {a h : Int} {n : Nat} (hw : Wn w p X J a h n) : Calls Tryz.prog 21 #[.pointer (some ⟨p, 0, none⟩)] w fun e w' => e = .returned (.int .i64 h) ∧ w' = w := by
  obtain ⟨B, V, N, h1, h2, _⟩ := hw.mem.blk
  have HN := isNone_w (w := w) (p := p) (B := B) (h1.cellv (j := 0) rfl)
  have c1 : w.cell? ⟨p, 2, none⟩ = some (.int .i64 h) := h1.cellv (j := 2) rfl
  clear h1 h2 hw
  go_enter Tryz.func21, Tryz.ntmps21
  go_wp2_with (go_at_call 37; refine HN.mono ?_; rintro e w' ⟨rfl, rfl⟩)
  go_ret
  exact ⟨rfl, rfl⟩
/-- See. -/
def okS (k : Int) : Bool := decide (0 ≤ k ∧ k ≤ 9007199254740991)
def sE (k : Int) : Int := if okS k then 0 else 2
def sH (h k : Int) : Int := if okS k then max h k else h
theorem Bk.ne_map {w : World} {p B : Nat} {t : TypeId} {xs : Array Value} {J : Int → Option Dt} {V : Int → Value} {N : Nat} (h : Bk w p t xs) (hm : Mn w B J V N) : B ≠ p := fun e => by
  subst e
  obtain ⟨es, clock, hb⟩ := hm.kind
  rw [h.at'] at hb
  cases hb
theorem Bk.ne_own {w : World} {p : Nat} {xs : Array Value} {v : Value} {l : List Int} (h : Bk w p 75 xs) (ho : Own w v l) : v.ownBlock ≠ some p := fun e => by
  obtain ⟨cur, hc⟩ := ho.kind e
  rw [h.at'] at hc
  simp at hc
/-- Another greatest number; all there up to another one. -/
theorem Wm.top {w : World} {p : Nat} {X : Nat → Prop} {J : Int → Option Dt} {a h : Int} {n : Nat} (hw : Wm w p X J a h n) (h' : Int) : Wm (w.setCell ⟨p, 2, none⟩ (.int .i64 h')) p X J a h' n := by
  obtain ⟨B, V, N, h1, h2, h3, h4, h5⟩ := hw.blk
  have hm := (Mod.refl (fun i => i = p) w).setCell ⟨p, 2, none⟩ (.int .i64 h') (.inl rfl)
  refine ⟨⟨B, V, N, h1.set 2 (.int .i64 h'), h2.mod hm (h1.ne_map h2), h3, h4, fun k d hd => ?_⟩, hw.px, fun i hi => Nat.lt_of_lt_of_le (hw.lt i hi) hm.size⟩
  obtain ⟨a1, a2⟩ := h5 k d hd
  exact ⟨a1.mod hm (fun g hg e => h1.ne_own a1 (e ▸ hg)), a2⟩
theorem Wm.up {w : World} {p : Nat} {X : Nat → Prop} {J : Int → Option Dt} {a h : Int} {n : Nat} (hw : Wm w p X J a h n) (a' : Int) : Wm (w.setCell ⟨p, 1, none⟩ (.int .i64 a')) p X J a' h n := by
  obtain ⟨B, V, N, h1, h2, h3, h4, h5⟩ := hw.blk
  have hm := (Mod.refl (fun i => i = p) w).setCell ⟨p, 1, none⟩ (.int .i64 a') (.inl rfl)
  refine ⟨⟨B, V, N, h1.set 1 (.int .i64 a'), h2.mod hm (h1.ne_map h2), h3, h4, fun k d hd => ?_⟩, hw.px, fun i hi => Nat.lt_of_lt_of_le (hw.lt i hi) hm.size⟩
  obtain ⟨a1, a2⟩ := h5 k d hd
  exact ⟨a1.mod hm (fun g hg e => h1.ne_own a1 (e ▸ hg)), a2⟩
theorem Wn.top {w : World} {p : Nat} {X : Nat → Prop} {J : Int → Option Dt} {a h : Int} {n : Nat} (hw : Wn w p X J a h n) (h' : Int) (hp : Wp J a h') : Wn (w.setCell ⟨p, 2, none⟩ (.int .i64 h')) p X J a h' n := ⟨hw.mem.top h', hp⟩
theorem Wp.top {J : Int → Option Dt} {a h : Int} (hp : Wp J a h) {k : Int} (h1 : k ≤ 9007199254740991) : Wp J a (max h k) := by
  obtain ⟨a1, a2, a3⟩ := hp.high
  refine ⟨hp.each, hp.aru, by omega, by omega, fun i hi => ?_⟩
  have := a3 i hi
  omega
set_option maxRecDepth 100000 in
theorem See_w {w : World} {p : Nat} {X : Nat → Prop} {J : Int → Option Dt} {a h : Int} {n : Nat} (hw : Wn w p X J a h n) (k : Int) : Calls Tryz.prog 48 #[.pointer (some ⟨p, 0, none⟩), .int .i64 k] w fun e w' => e = .returned (.int .i64 (sE k)) ∧ Wn w' p X J a (sH h k) n ∧ Mod X w w' := by
  have HW : Hid (Wn w p X J a h n) := hw
  obtain ⟨B, V, N, h1, h2, _⟩ := hw.mem.blk
  have HN := isNone_w (w := w) (p := p) (B := B) (h1.cellv (j := 0) rfl)
  have c1 : w.cell? ⟨p, 2, none⟩ = some (.int .i64 h) := h1.cellv (j := 2) rfl
  have f1 : w.frozen? ⟨p, 2, none⟩ = false := h1.frz 2
  clear h1 h2 hw
  unfold sE sH okS
  by_cases hk : 0 ≤ k ∧ k ≤ 9007199254740991
  · have e0 : ¬ k < 0 := by omega
    have e1 : ¬ 9007199254740991 < k := by omega
    simp only [hk, and_self, decide_true, if_true]
    have HK : Hid (0 ≤ k ∧ k ≤ 9007199254740991) := hk
    clear hk
    go_enter Tryz.func48, Tryz.ntmps48
    go_wp2_with (go_at_call 37; refine HN.mono ?_; rintro e w' ⟨rfl, rfl⟩)
    go_ret
    exact ⟨rfl, HW.out.top _ (HW.out.wp.top HK.out.2), (Mod.refl X _).setCell _ _ (.inl HW.out.mem.px)⟩
  · simp only [hk, decide_false, Bool.false_eq_true, if_false]
    rcases Classical.em (k < 0) with e0 | e0
    · clear hk
      go_enter Tryz.func48, Tryz.ntmps48
      go_wp2_with (go_at_call 37; refine HN.mono ?_; rintro e w' ⟨rfl, rfl⟩)
      go_ret
      exact ⟨rfl, HW.out, Mod.refl _ _⟩
    · have e1 : 9007199254740991 < k := by omega
      clear hk
      go_enter Tryz.func48, Tryz.ntmps48
      go_wp2_with (go_at_call 37; refine HN.mono ?_; rintro e w' ⟨rfl, rfl⟩)
      go_ret
      exact ⟨rfl, HW.out, Mod.refl _ _⟩
end Go.Proofs.YthiijonmnebjgaaGreat
namespace Go.Proofs.YthiijonmnebjgaaGreat
open Go.RowKit Go.Maps
theorem Bk.other' {w w' : World} {b : Nat} {t : TypeId} {xs : Array Value} (h : Bk w b t xs) (hm : Mod (fun _ => False) w w') : Bk w' b t xs := h.mod hm (fun h => h)
set_option maxRecDepth 100000 in
set_option maxHeartbeats 2000000 in
theorem Get_w {w : World} {p : Nat} {X : Nat → Prop} {J : Int → Option Dt} {a h : Int} {n : Nat} (hw : Wn w p X J a h n) (k : Int) (hk : I64 k) : Calls Tryz.prog 23 #[.pointer (some ⟨p, 0, none⟩), .int .i64 k] w fun e w' => ∃ v, e = .returned (.tuple #[dv ((J k).getD d0) v, .bool (J k).isSome]) ∧ Own w' v ((J k).getD d0).m.body ∧ Mod (fun _ => False) w w' ∧ (∀ g, v.ownBlock = some g → w.heap.size ≤ g) := by
  have hA := (Mod.refl (fun _ => False) w).alloc (.cells #[.int .i64 0, .int .i64 0, .int .i64 0, .int .i64 0, .int .i64 0, .int .i64 0, .int .i64 0, .int .i64 0, .int .i64 0, .int .i64 0, .int .i64 0, .int .i64 0, .bool false, .int .i64 0, .int .i64 0, .int .i64 0, .int .i64 0, .slice none 0 0] 45)
  have hZ : Hid (Bk _ _ _ _) := Bk.new w #[.int .i64 0, .int .i64 0, .int .i64 0, .int .i64 0, .int .i64 0, .int .i64 0, .int .i64 0, .int .i64 0, .int .i64 0, .int .i64 0, .int .i64 0, .int .i64 0, .bool false, .int .i64 0, .int .i64 0, .int .i64 0, .int .i64 0, .slice none 0 0] 45
  have HW : Hid (Wn _ p X J a h n) := hw.keep hA
  have HH := has_w HW.out.mem k hk
  obtain ⟨B, V, N, h1, h2, _, _, h5⟩ := HW.out.mem.blk
  have HN := isNone_w (h1.cellv (j := 0) rfl)
  have HA : Hid (Mod _ _ _) := hA
  have hsz := hA.size
  have HS : Hid (w.heap.size < (w.alloc (.cells #[.int .i64 0, .int .i64 0, .int .i64 0, .int .i64 0, .int .i64 0, .int .i64 0, .int .i64 0, .int .i64 0, .int .i64 0, .int .i64 0, .int .i64 0, .int .i64 0, .bool false, .int .i64 0, .int .i64 0, .int .i64 0, .int .i64 0, .slice none 0 0] 45)).heap.size) := by unfold Hid; simp
  clear h1 h2 h5 hw hA hsz
  cases hJ : J k with
  | none =>
    rw [hJ] at HH
    simp only [Option.isSome_none] at HH
    simp only [Option.isSome_none, Option.getD_none, d0, dv]
    clear hJ
    go_enter Tryz.func23, Tryz.ntmps23
    go_wp2_with (first | (go_at_call 37; refine HN.mono ?_; rintro e w' ⟨rfl, rfl⟩) | (go_at_call 39; refine HH.mono ?_; rintro e w1 ⟨rfl, hm1⟩) | (refine wpList_store_row info18 rfl rfl _ _ rfl w.heap.size #[.int .i64 0, .int .i64 0, .int .i64 0, .int .i64 0, .int .i64 0, .int .i64 0, .int .i64 0, .int .i64 0, .int .i64 0, .int .i64 0, .int .i64 0, .int .i64 0, .bool false, .int .i64 0, .int .i64 0, .int .i64 0, .int .i64 0, .slice none 0 0] rfl rfl (hZ.out.other' hm1) rfl rfl rfl ?_; intro wF hBF hMF))
    exact bodyPost_ret (resT2 info18 Tryz.underlying45 rfl rfl rfl rfl hBF rfl) rfl ⟨_, rfl, Own.nil _, (HA.out.and hm1).trans hMF (V := fun _ => False) (fun _ _ h => h) (fun i hi h => by omega), by simp [Value.ownBlock]⟩
  | some d =>
    rw [hJ] at HH
    simp only [Option.isSome_some] at HH
    simp only [Option.isSome_some, Option.getD_some]
    have HJ : Hid (J k = some d) := hJ
    clear hJ
    go_enter Tryz.func23, Tryz.ntmps23
    go_wp2_with (first | (go_at_call 37; refine HN.mono ?_; rintro e w' ⟨rfl, rfl⟩))
    refine HH.mono ?_
    rintro e w1 ⟨rfl, hm1⟩
    have hW1 := HW.out.keep hm1
    obtain ⟨B, V, N, h1, h2, _, _, h5⟩ := hW1.mem.blk
    have c0 : w1.cell? ⟨p, 0, none⟩ = some (.map (some B)) := h1.cellv (j := 0) rfl
    have hL := h2.look hk
    obtain ⟨ao, cap, hd, hown⟩ := mv_at h5 k
    rw [hd] at hL
    simp only [HJ.out, Option.getD_some] at hL hown
    obtain ⟨-, -, -, hr, hb⟩ := hW1.wp.each k d HJ.out
    have HC := clone_dt d _ w1 (hown.sl hr) hb
    clear h1 h2 h5 hW1 hd hown hr hb HH HN
    go_wp2_with (fail)
    refine HC.mono ?_
    rintro e w2 ⟨v, rfl, ho2, hm2, hg2⟩
    obtain ⟨av, cv, rfl⟩ := ho2.shape
    have hZ2 := (hZ.out.other' hm1).other' hm2
    have hM := (HA.out.and hm1).and hm2
    unfold dv
    have hs1 := hm1.size
    have hs2 := HS.out
    clear HC hL c0 hm1 hm2
    go_wp2_with (refine wpList_store_row info18 rfl rfl _ _ rfl w.heap.size #[.int .i64 d.q, .int .i64 d.r, .int .i64 d.n, .int .i64 d.s, .int .i64 d.t, .int .i64 d.m.kind, .int .i64 d.m.origin, .int .i64 d.m.life, .int .i64 d.m.id, .int .i64 d.m.part, .int .i64 d.m.parts, .int .i64 d.m.groups, .bool d.m.safe, .int .i64 d.m.st, .int .i64 d.m.rs, .int .i64 d.m.rr, .int .i64 d.m.sq, .slice av d.m.body.length cv] rfl rfl hZ2 rfl rfl rfl ?_; intro wF hBF hMF)
    exact bodyPost_ret (resT2 info18 Tryz.underlying45 rfl rfl rfl rfl hBF rfl) rfl ⟨_, rfl, ho2.mod hMF (fun i hi e => by have := hg2 i hi; omega), hM.trans hMF (V := fun _ => False) (fun _ _ h => h) (fun i hi h => by omega), fun g hg => by have := hg2 g hg; omega⟩
/-- Put. -/
def okP (d : Dt) : Bool := (cr d.q d.r == 0) && decide (1 ≤ d.n) && decide (d.n ≤ 9007199254740991)
def pE (d : Dt) : Int := if okP d then 0 else 2
def pF (J : Int → Option Dt) (d : Dt) : Bool := okP d && !(J d.n).isSome
def pJ (J : Int → Option Dt) (d : Dt) : Int → Option Dt := if pF J d then upd J d.n (some d) else J
def pH (J : Int → Option Dt) (h : Int) (d : Dt) : Int := if pF J d then max h d.n else h
theorem okP_parts {d : Dt} (h : okP d = true) : cr d.q d.r = 0 ∧ 1 ≤ d.n ∧ d.n ≤ 9007199254740991 := by
  simp only [okP, Bool.and_eq_true, beq_iff_eq, decide_eq_true_eq] at h
  omega
theorem okP_not {d : Dt} (h : okP d = false) : ¬ cr d.q d.r = 0 ∨ (cr d.q d.r = 0 ∧ d.n < 1) ∨ (cr d.q d.r = 0 ∧ 1 ≤ d.n ∧ 9007199254740991 < d.n) := by
  by_cases h1 : cr d.q d.r = 0
  · by_cases h2 : d.n < 1
    · exact .inr (.inl ⟨h1, h2⟩)
    · by_cases h3 : 9007199254740991 < d.n
      · exact .inr (.inr ⟨h1, by omega, h3⟩)
      · exfalso
        rw [show okP d = true by simp [okP, h1]; omega] at h
        cases h
  · exact .inl h1
theorem cr_two (q r : Int) : cr q r = 0 ∨ cr q r = 2 := by
  unfold cr
  split
  · exact .inl rfl
  · exact .inr rfl
set_option maxRecDepth 100000 in
set_option maxHeartbeats 2000000 in
theorem wPut_bad {w : World} {p : Nat} {X : Nat → Prop} {J : Int → Option Dt} {a h : Int} {n : Nat} (hw : Wn w p X J a h n) (d : Dt) (ao : Option Addr) (cap : Nat) (ho : okP d = false) : Calls Tryz.prog 11 #[.pointer (some ⟨p, 0, none⟩), dv d (.slice ao d.m.body.length cap)] w fun e w' => e = .returned (.tuple #[.bool false, .int .i64 2]) ∧ Mod (fun _ => False) w w' := by
  have hA := (Mod.refl (fun _ => False) w).alloc (.cells #[.int .i64 d.q, .int .i64 d.r, .int .i64 d.n, .int .i64 d.s, .int .i64 d.t, .int .i64 d.m.kind, .int .i64 d.m.origin, .int .i64 d.m.life, .int .i64 d.m.id, .int .i64 d.m.part, .int .i64 d.m.parts, .int .i64 d.m.groups, .bool d.m.safe, .int .i64 d.m.st, .int .i64 d.m.rs, .int .i64 d.m.rr, .int .i64 d.m.sq, .slice ao d.m.body.length cap] 45)
  have hD := Bk.new w #[.int .i64 d.q, .int .i64 d.r, .int .i64 d.n, .int .i64 d.s, .int .i64 d.t, .int .i64 d.m.kind, .int .i64 d.m.origin, .int .i64 d.m.life, .int .i64 d.m.id, .int .i64 d.m.part, .int .i64 d.m.parts, .int .i64 d.m.groups, .bool d.m.safe, .int .i64 d.m.st, .int .i64 d.m.rs, .int .i64 d.m.rr, .int .i64 d.m.sq, .slice ao d.m.body.length cap] 45
  have HW : Hid (Wn _ p X J a h n) := hw.keep hA
  obtain ⟨B, V, N, h1, h2, _, _, h5⟩ := HW.out.mem.blk
  have HN := isNone_w (h1.cellv (j := 0) rfl)
  have HC := CheckRing d.q d.r (w.alloc (.cells #[.int .i64 d.q, .int .i64 d.r, .int .i64 d.n, .int .i64 d.s, .int .i64 d.t, .int .i64 d.m.kind, .int .i64 d.m.origin, .int .i64 d.m.life, .int .i64 d.m.id, .int .i64 d.m.part, .int .i64 d.m.parts, .int .i64 d.m.groups, .bool d.m.safe, .int .i64 d.m.st, .int .i64 d.m.rs, .int .i64 d.m.rr, .int .i64 d.m.sq, .slice ao d.m.body.length cap] 45))
  have hcase := okP_not ho
  have h02 := cr_two d.q d.r
  have HD : Hid (Bk _ _ _ _) := hD
  have HA : Hid (Mod _ _ _) := hA
  generalize cr d.q d.r = c at HC hcase h02
  clear h1 h2 h5 hw ho hD hA
  unfold dv
  rcases hcase with hc | ⟨rfl, hn⟩ | ⟨rfl, hn1, hn2⟩
  · obtain rfl : c = 2 := by omega
    clear hc h02
    go_enter Tryz.func11, Tryz.ntmps11
    go_wp2_with (first | (go_at_call 37; refine HN.mono ?_; rintro e w' ⟨rfl, rfl⟩) | (go_at_call 38; refine HC.mono ?_; rintro e w1 ⟨rfl, hm1⟩))
    go_ret2
    exact ⟨rfl, HA.out.and hm1⟩
  · clear h02
    go_enter Tryz.func11, Tryz.ntmps11
    go_wp2_with (first | (go_at_call 37; refine HN.mono ?_; rintro e w' ⟨rfl, rfl⟩) | (go_at_call 38; refine HC.mono ?_; rintro e w1 ⟨rfl, hm1⟩; have c2 := (HD.out.other' hm1).cellv (j := 2) rfl))
    go_ret2
    exact ⟨rfl, HA.out.and hm1⟩
  · clear h02
    have hn0 : ¬ d.n < 1 := by omega
    clear hn1
    go_enter Tryz.func11, Tryz.ntmps11
    go_wp2_with (first | (go_at_call 37; refine HN.mono ?_; rintro e w' ⟨rfl, rfl⟩) | (go_at_call 38; refine HC.mono ?_; rintro e w1 ⟨rfl, hm1⟩; have c2 := (HD.out.other' hm1).cellv (j := 2) rfl))
    go_ret2
    exact ⟨rfl, HA.out.and hm1⟩
/-- Where all are there up to. -/
def aruOf (w : World) (p : Nat) : Nat := match w.cell? ⟨p, 1, none⟩ with | some (.int _ x) => x.toNat | _ => 0
theorem Wm.aruOf {w : World} {p : Nat} {X : Nat → Prop} {J : Int → Option Dt} {a h : Int} {n : Nat} (hw : Wm w p X J a h n) : aruOf w p = a.toNat := by
  obtain ⟨B, V, N, h1, _⟩ := hw.blk
  have c1 : w.cell? ⟨p, 1, none⟩ = some (.int .i64 a) := h1.cellv (j := 1) rfl
  unfold YthiijonmnebjgaaGreat.aruOf
  rw [c1]
theorem Own.ne_map {w : World} {v : Value} {l : List Int} {B : Nat} {J : Int → Option Dt} {V : Int → Value} {N : Nat} (h : Own w v l) (hx : Mn w B J V N) : v.ownBlock ≠ some B := fun e => by
  obtain ⟨cur, hc⟩ := h.kind e
  obtain ⟨es, clock, hb⟩ := hx.kind
  rw [hc] at hb
  cases hb
/-- Data laid into the map. -/
theorem Wm.put {w w' : World} {p B N : Nat} {X : Nat → Prop} {J : Int → Option Dt} {V : Int → Value} {a h : Int} {n : Nat} {d : Dt} {v : Value} {k : Int} (h1 : Bk w p 75 #[.map (some B), .int .i64 a, .int .i64 h]) (h2 : Mn w B J V N) (h3 : N ≤ n) (h4 : X B) (h5 : ∀ k d, J k = some d → Own w (V k) d.m.body ∧ ∀ g, (V k).ownBlock = some g → X g) (px : X p) (lt : ∀ i, X i → i < w.heap.size)
    (hv : Own w v d.m.body) (hm : Mod (fun i => i = B) w w') (hx : Mn w' B (upd J k (some d)) (upd V k v) (N + 1)) : Wm w' p (fun i => X i ∨ v.ownBlock = some i) (upd J k (some d)) a h (n + 1) := by
  refine ⟨⟨B, upd V k v, N + 1, h1.mod hm (fun e => h1.ne_map h2 e.symm), hx, by omega, .inl h4, fun i z hz => ?_⟩, .inl px, fun i hi => ?_⟩
  · by_cases e : i = k
    · subst e
      rw [upd_same] at hz ⊢
      cases hz
      exact ⟨hv.mod hm (fun g hg e => hv.ne_map h2 (e ▸ hg)), fun g hg => .inr hg⟩
    · rw [upd_other J _ e] at hz
      rw [upd_other V _ e]
      obtain ⟨a1, a2⟩ := h5 i z hz
      exact ⟨a1.mod hm (fun g hg e => a1.ne_map h2 (e ▸ hg)), fun g hg => .inl (a2 g hg)⟩
  · rcases hi with hi | hi
    · exact Nat.lt_of_lt_of_le (lt i hi) hm.size
    · exact Nat.lt_of_lt_of_le (hv.lt i hi) hm.size
/-- Behind the store into the map. -/
structure P7 (w2 wx : World) (p B : Nat) (X : Nat → Prop) (J : Int → Option Dt) (a h : Int) (n : Nat) (d : Dt) : Prop where
  ex : ∃ v : Value, Wm wx p (fun i => X i ∨ v.ownBlock = some i) (upd J d.n (some d)) a h (n + 1) ∧ Mod (fun i => i = B) w2 wx ∧ ∀ g, v.ownBlock = some g → w2.heap.size ≤ g
theorem step_cl {ops : Array Oper} {o : Oper} {a : Act} {w : World} {K : Act → World → Prop} {Q : Exit → Act → World → Prop} {E : Prop} {ts : Array TypeId} (hgd : o.guard = none) (x : Operand)
    (ho : o.op = .call { callee := .value (.func 40), args := #[x], argTypes := ts }) (v : Value) (hx : a.eval x = v) (R : Value → World → Prop)
    (HB : Calls Tryz.prog 40 #[v] w fun e w' => ∃ r, e = .returned r ∧ R r w') (h : ∀ r w', R r w' → K (a.put o.dst r) w') :
    if Region.wanted o (yielded ops a.tmps) = true then Oper.wp Tryz.prog o a w K Q else E := by
  rw [if_pos (by simp [Region.wanted, hgd])]
  refine wp_enter (by rw [exec_call1 a.eval (fun args w => by simp [go_sem]) rfl ho, hx]) HB ?_
  rintro e w' ⟨r, rfl, hr⟩
  exact ⟨_, rfl, h r w' hr⟩
theorem clone_st (d : Dt) (v : Value) (w : World) (hs : Sl w v d.m.body) (hb : d.m.body.length ≤ 140737488355328) : Calls Tryz.prog 40 #[dv d v] w fun e w' => ∃ r, e = .returned r ∧ ∃ ao cap, r = dv d (.slice ao d.m.body.length cap) ∧ Own w' (.slice ao d.m.body.length cap) d.m.body ∧ Mod (fun _ => False) w w' ∧ (∀ g, (Value.slice ao d.m.body.length cap).ownBlock = some g → w.heap.size ≤ g) := by
  refine (clone_dt d v w hs hb).mono ?_
  rintro e w' ⟨v', rfl, h1, h2, h3⟩
  obtain ⟨ao, cap, rfl⟩ := h1.shape
  exact ⟨_, rfl, ao, cap, rfl, h1, h2, h3⟩
set_option maxRecDepth 100000 in
set_option maxHeartbeats 4000000 in
theorem Put_there {w : World} {p : Nat} {X : Nat → Prop} {J : Int → Option Dt} {a h : Int} {n : Nat} (hw : Wn w p X J a h n) (d : Dt) (ao : Option Addr) (cap : Nat) (ho : okP d = true) (hJ : (J d.n).isSome = true) :
    Calls Tryz.prog 11 #[.pointer (some ⟨p, 0, none⟩), dv d (.slice ao d.m.body.length cap)] w fun e w' => e = .returned (.tuple #[.bool false, .int .i64 0]) ∧ Mod (fun _ => False) w w' := by
  have hA := (Mod.refl (fun _ => False) w).alloc (.cells #[.int .i64 d.q, .int .i64 d.r, .int .i64 d.n, .int .i64 d.s, .int .i64 d.t, .int .i64 d.m.kind, .int .i64 d.m.origin, .int .i64 d.m.life, .int .i64 d.m.id, .int .i64 d.m.part, .int .i64 d.m.parts, .int .i64 d.m.groups, .bool d.m.safe, .int .i64 d.m.st, .int .i64 d.m.rs, .int .i64 d.m.rr, .int .i64 d.m.sq, .slice ao d.m.body.length cap] 45)
  have hD := Bk.new w #[.int .i64 d.q, .int .i64 d.r, .int .i64 d.n, .int .i64 d.s, .int .i64 d.t, .int .i64 d.m.kind, .int .i64 d.m.origin, .int .i64 d.m.life, .int .i64 d.m.id, .int .i64 d.m.part, .int .i64 d.m.parts, .int .i64 d.m.groups, .bool d.m.safe, .int .i64 d.m.st, .int .i64 d.m.rs, .int .i64 d.m.rr, .int .i64 d.m.sq, .slice ao d.m.body.length cap] 45
  have HW : Hid (Wn _ p X J a h n) := hw.keep hA
  obtain ⟨B, V, N, h1, h2, _, _, h5⟩ := HW.out.mem.blk
  have HN := isNone_w (h1.cellv (j := 0) rfl)
  have HC := CheckRing d.q d.r (w.alloc (.cells #[.int .i64 d.q, .int .i64 d.r, .int .i64 d.n, .int .i64 d.s, .int .i64 d.t, .int .i64 d.m.kind, .int .i64 d.m.origin, .int .i64 d.m.life, .int .i64 d.m.id, .int .i64 d.m.part, .int .i64 d.m.parts, .int .i64 d.m.groups, .bool d.m.safe, .int .i64 d.m.st, .int .i64 d.m.rs, .int .i64 d.m.rr, .int .i64 d.m.sq, .slice ao d.m.body.length cap] 45))
  obtain ⟨o1, o2, o3⟩ := okP_parts ho
  rw [o1] at HC
  have hn0 : ¬ d.n < 1 := by omega
  have hn1 : ¬ 9007199254740991 < d.n := by omega
  have HI : Hid (I64 d.n) := ⟨by omega, by omega⟩
  have HD : Hid (Bk _ _ _ _) := hD
  have HA : Hid (Mod _ _ _) := hA
  clear h1 h2 h5 hw hD hA o1 o2 o3 ho
  unfold dv
  go_enter Tryz.func11, Tryz.ntmps11
  go_wp2_with (first | (go_at_call 37; refine HN.mono ?_; rintro e w' ⟨rfl, rfl⟩) | (go_at_call 38; refine HC.mono ?_; rintro e w1 ⟨rfl, hm1⟩; have c2 := (HD.out.other' hm1).cellv (j := 2) rfl))
  have HM1 : Hid (Mod _ _ _) := HA.out.and hm1
  have HW1 : Hid (Wn w1 p X J a h n) := HW.out.keep hm1
  have HH := has_w HW1.out.mem d.n HI.out
  clear hm1 HC HN HD HA HW
  rw [hJ] at HH
  refine HH.mono ?_
  rintro e w2 ⟨rfl, hm2⟩
  go_wp2
  go_ret2
  exact ⟨rfl, HM1.out.and hm2⟩
end Go.Proofs.YthiijonmnebjgaaGreat
