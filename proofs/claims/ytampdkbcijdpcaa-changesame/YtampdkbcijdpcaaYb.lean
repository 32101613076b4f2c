/- A map of data by numbers; a window in memory; New, isNone, has, See, Aru, High. Conditions: numbers of an int. -/
import Derived.Test.YtampdkbcijdpcaaYi
import Derived.Maps.OwnSet
import Derived.Maps.RangeWalk
import Derived.DeepKeys4
import Derived.MapViews
namespace Go.Proofs.Ytampdkbcijdpcaa
open Go.RowKit Go.Maps Go.WideShapes
theorem wf_of {n : Int} (h : I64 n) : (Lit.int .i64 n).wf = true := WalkArith.wf_i64 (by unfold I64 at h; omega)
theorem lawI : Keyed Try.prog 3 := int_keyed Try.underlying3
/-- What a number is in the map's datum. -/
def kl (k : Int) : Lit := .int .i64 k
theorem kl_of {k : Int} (h : I64 k) : keyOf Try.prog 3 (.int .i64 k) = some (kl k) := keyOf_int_mk Try.underlying3 (wf_of h)
theorem kl_inj {a b : Int} (h : kl a = kl b) : a = b := by simpa [kl] using h
theorem kl_key {a : Int} (ha : I64 a) : WideAt.IsKeyLit (kl a) := lawI.key (kl_of ha)
def hE (v : Value) : Option (DataW Value × List MemPlace) := some (.held v, [])
theorem zeroData (w : World) : (zeroValue 44).run Try.prog w = .ok (dv d0 (.slice none 0 0)) w := by kernel_rfl
def mv (o : Option Dt) (v : Value) : Value := match o with | none => dv d0 (.slice none 0 0) | some d => dv d v
theorem owns_mod {S : Nat → Prop} {w w' : World} {b n : Nat} {D : DataW Value} (h : w.ownsMap Try.prog 3 hE b n D) (hm : Mod S w w') (hb : ¬ S b) : w'.ownsMap Try.prog 3 hE b n D := by
  obtain ⟨es, clock, hk, r⟩ := h
  exact ⟨es, clock, hm.obj hk hb, r⟩
theorem Mod.turned {S : Nat → Prop} {a w w' : World} {b : Nat} (h : Mod S a w) (ht : w.mapTurned w' b) (hb : S b ∨ a.heap.size ≤ b) : Mod S a w' :=
  h.grown ht.grown (fun k hk hlt => by cases hk; rcases hb with h | h; exact h; omega)
/-- One put in. -/
def upd {α : Type} (J : Int → α) (k : Int) (z : α) : Int → α := fun i => if i = k then z else J i
theorem upd_same {α : Type} (J : Int → α) (k : Int) (z : α) : upd J k z k = z := by simp [upd]
theorem upd_other {α : Type} (J : Int → α) {k i : Int} (z : α) (h : i ≠ k) : upd J k z i = J i := by simp [upd, h]
/-- A map of N data; V: where their bodies lie. -/
structure Mn (w : World) (B : Nat) (J : Int → Option Dt) (V : Int → Value) (N : Nat) : Prop where
  own : ∃ D, w.ownsMap Try.prog 3 hE B N D ∧ Maps.size D = N ∧ (∀ k, I64 k → D.atKey (kl k) (.held (dv d0 (.slice none 0 0))) = .held (mv (J k) (V k)) ∧ Maps.has D (kl k) = (J k).isSome)
  i64 : ∀ k, (J k).isSome = true → I64 k
theorem Mn.mod {S : Nat → Prop} {w w' : World} {B : Nat} {J : Int → Option Dt} {V : Int → Value} {N : Nat} (h : Mn w B J V N) (hm : Mod S w w') (hp : ¬ S B) : Mn w' B J V N := by
  obtain ⟨D, h1, h2, h3⟩ := h.own
  exact ⟨⟨D, owns_mod h1 hm hp, h2, h3⟩, h.i64⟩
theorem Mn.new (w : World) : Mn (w.alloc (.map #[] 0)) w.heap.size (fun _ => none) (fun _ => .slice none 0 0) 0 :=
  ⟨⟨_, World.ownsMap_made w Try.prog 3 _, by simp [Maps.size], fun k _ => by simp [DataW.atKey, mv, Maps.has]⟩, by simp⟩
theorem Mn.kind {w : World} {B : Nat} {J : Int → Option Dt} {V : Int → Value} {N : Nat} (h : Mn w B J V N) : ∃ es clock, w.heap[B]? = some (.map es clock) := by
  obtain ⟨D, ⟨es, clock, hb, _⟩, _⟩ := h.own
  exact ⟨es, clock, hb⟩
theorem Mn.lt {w : World} {B : Nat} {J : Int → Option Dt} {V : Int → Value} {N : Nat} (h : Mn w B J V N) : B < w.heap.size := by
  obtain ⟨es, clock, hb⟩ := h.kind
  exact lt_of_block hb
theorem Mn.look {w : World} {B : Nat} {J : Int → Option Dt} {V : Int → Value} {N : Nat} (h : Mn w B J V N) {k : Int} (hk : I64 k) : (Instr.lookup 74 (.map (some B)) (.int .i64 k) false).run Try.prog w = .ok (mv (J k) (V k)) w := by
  obtain ⟨D, h1, _, h3⟩ := h.own
  obtain ⟨c, ps, hrun, hat⟩ := h1.lookup lawI Try.underlying74 (zeroData _) (zd := .held (dv d0 (.slice none 0 0))) (zp := []) rfl (kl_of hk)
  rw [(h3 k hk).1] at hat
  simp only [hE, Option.some.injEq, Prod.mk.injEq, DataW.held.injEq] at hat
  rw [hrun, hat.1]
theorem Mn.look2 {w : World} {B : Nat} {J : Int → Option Dt} {V : Int → Value} {N : Nat} (h : Mn w B J V N) {k : Int} (hk : I64 k) : (Instr.lookup 74 (.map (some B)) (.int .i64 k) true).run Try.prog w = .ok (.tuple #[mv (J k) (V k), .bool (J k).isSome]) w := by
  obtain ⟨D, h1, _, h3⟩ := h.own
  obtain ⟨c, ps, hrun, hat⟩ := h1.look_ok lawI Try.underlying74 (zeroData _) (zd := .held (dv d0 (.slice none 0 0))) (zp := []) rfl (kl_of hk)
  rw [(h3 k hk).1] at hat
  simp only [hE, Option.some.injEq, Prod.mk.injEq, DataW.held.injEq] at hat
  rw [hrun, hat.1, (h3 k hk).2]
theorem Mn.store {w : World} {B : Nat} {J : Int → Option Dt} {V : Int → Value} {N : Nat} (h : Mn w B J V N) {k : Int} (hk : I64 k) (hj : (J k).isSome = false) (hN : N < maxLen) (z : Dt) (v : Value) :
    ∃ w', (Instr.mapUpdate 74 (.map (some B)) (.int .i64 k) (dv z v)).run Try.prog w = .ok () w' ∧ Mn w' B (upd J k (some z)) (upd V k v) (N + 1) ∧ w.mapTurned w' B := by
  obtain ⟨D, h1, h2, h3⟩ := h.own
  obtain ⟨w', hrun, r1, r2⟩ := h1.store (d := .held (dv z v)) (ps := []) lawI Try.underlying74 hN (kl_of hk) (val := dv z v) (by rfl)
  have hs := size_put (h1.tidy lawI) (k := kl k) (.held (dv z v))
  rw [(h3 k hk).2, h2, hj] at hs
  refine ⟨w', hrun, ⟨⟨_, r1, by simpa using hs, fun i hi => ?_⟩, fun i hi => ?_⟩, r2⟩
  · by_cases e : i = k
    · subst e
      have hkk := kl_key hi
      rw [atKey_put_same h1.isMap hkk, has_put_same h1.isMap hkk, upd_same, upd_same]
      exact ⟨rfl, rfl⟩
    · rw [atKey_put_other (fun e' => e (kl_inj e')), has_put_other (fun e' => e (kl_inj e')), upd_other J _ e, upd_other V _ e]
      exact h3 i hi
  · by_cases e : i = k
    · rw [e]; exact hk
    · rw [upd_other J _ e] at hi
      exact h.i64 i hi
/-- Its blocks are old ones, or were not there yet. -/
def Gone (w : World) (X Y : Nat → Prop) : Prop := ∀ i, Y i → X i ∨ w.heap.size ≤ i
/-- What may be said of a window: data by their numbers, up to which all are there, the greatest seen. -/
structure Wp (J : Int → Option Dt) (a h : Int) : Prop where
  each : ∀ k d, J k = some d → d.n = k ∧ 1 ≤ k ∧ k ≤ 9007199254740991 ∧ (∀ c ∈ d.m.body, 0 ≤ c ∧ c ≤ 255) ∧ d.m.body.length ≤ 140737488355328
  aru : 0 ≤ a ∧ (∀ k, 1 ≤ k → k ≤ a → (J k).isSome = true) ∧ J (a + 1) = none
  high : 0 ≤ h ∧ h ≤ 9007199254740991 ∧ ∀ k, (J k).isSome = true → k ≤ h
/-- A window in memory; X: its blocks. -/
structure Wm (w : World) (p : Nat) (X : Nat → Prop) (J : Int → Option Dt) (a h : Int) (n : Nat) : Prop where
  blk : ∃ B V N, Bk w p 76 #[.map (some B), .int .i64 a, .int .i64 h] ∧ Mn w B J V N ∧ N ≤ n ∧ X B ∧ ∀ k d, J k = some d → Own w (V k) d.m.body ∧ ∀ g, (V k).ownBlock = some g → X g
  px : X p
  lt : ∀ i, X i → i < w.heap.size
structure Wn (w : World) (p : Nat) (X : Nat → Prop) (J : Int → Option Dt) (a h : Int) (n : Nat) : Prop where
  mem : Wm w p X J a h n
  wp : Wp J a h
theorem Wm.mod {S : Nat → Prop} {w w' : World} {p : Nat} {X : Nat → Prop} {J : Int → Option Dt} {a h : Int} {n : Nat} (hw : Wm w p X J a h n) (hm : Mod S w w') (hS : ∀ i, X i → ¬ S i) : Wm w' p X J a h n := by
  obtain ⟨B, V, N, h1, h2, h3, h4, h5⟩ := hw.blk
  refine ⟨⟨B, V, N, h1.mod hm (hS p hw.px), h2.mod hm (hS B h4), h3, h4, fun k d hd => ?_⟩, hw.px, fun i hi => Nat.lt_of_lt_of_le (hw.lt i hi) hm.size⟩
  obtain ⟨a1, a2⟩ := h5 k d hd
  exact ⟨a1.mod hm (fun g hg => hS g (a2 g hg)), a2⟩
theorem Wm.keep {w w' : World} {p : Nat} {X : Nat → Prop} {J : Int → Option Dt} {a h : Int} {n : Nat} (hw : Wm w p X J a h n) (hm : Mod (fun _ => False) w w') : Wm w' p X J a h n := hw.mod hm (fun _ _ h => h)
theorem Wn.mod {S : Nat → Prop} {w w' : World} {p : Nat} {X : Nat → Prop} {J : Int → Option Dt} {a h : Int} {n : Nat} (hw : Wn w p X J a h n) (hm : Mod S w w') (hS : ∀ i, X i → ¬ S i) : Wn w' p X J a h n := ⟨hw.mem.mod hm hS, hw.wp⟩
theorem Wn.keep {w w' : World} {p : Nat} {X : Nat → Prop} {J : Int → Option Dt} {a h : Int} {n : Nat} (hw : Wn w p X J a h n) (hm : Mod (fun _ => False) w w') : Wn w' p X J a h n := hw.mod hm (fun _ _ h => h)
theorem Wp.some_i {J : Int → Option Dt} {a h : Int} (hp : Wp J a h) {k : Int} (hk : (J k).isSome = true) : 1 ≤ k ∧ k ≤ 9007199254740991 := by
  obtain ⟨d, hd⟩ := Option.isSome_iff_exists.1 hk
  obtain ⟨_, h1, h2, _⟩ := hp.each k d hd
  exact ⟨h1, h2⟩
theorem Wp.a_le {J : Int → Option Dt} {a h : Int} (hp : Wp J a h) : 0 ≤ a ∧ a ≤ h := by
  obtain ⟨h0, h1, _⟩ := hp.aru
  refine ⟨h0, ?_⟩
  rcases Int.lt_or_le a 1 with h | h
  · have := hp.high.1; omega
  · exact hp.high.2.2 a (h1 a h (Int.le_refl _))
/-- There is one such number alone. -/
theorem Wp.aru_eq {J J' : Int → Option Dt} {a h a' h' : Int} (hp : Wp J a h) (hp' : Wp J' a' h') (he : ∀ k, (J k).isSome = (J' k).isSome) : a = a' := by
  obtain ⟨h0, h1, h2⟩ := hp.aru
  obtain ⟨k0, k1, k2⟩ := hp'.aru
  rcases Int.lt_trichotomy a a' with h | h | h
  · have := k1 (a + 1) (by omega) (by omega)
    rw [← he, h2] at this
    cases this
  · exact h
  · have := h1 (a' + 1) (by omega) (by omega)
    rw [he, k2] at this
    cases this
theorem Wp.empty : Wp (fun _ => none) 0 0 := ⟨by simp, ⟨by omega, by intro k h1 h2; omega, rfl⟩, by simp⟩
theorem Bk.new2 (w : World) (o : Obj) (xs : Array Value) (t : TypeId) : Bk ((w.alloc o).alloc (.cells xs t)) (w.heap.size + 1) t xs := by
  have := Bk.new (w.alloc o) xs t
  rwa [show (w.alloc o).heap.size = w.heap.size + 1 by simp] at this
theorem wNew (w : World) : Calls Try.prog 7 #[] w fun e w' => ∃ p X, e = .returned (.pointer (some ⟨p, 0, none⟩)) ∧ Wn w' p X (fun _ => none) 0 0 0 ∧ (∀ i, X i → w.heap.size ≤ i) ∧ Mod (fun _ => False) w w' := by
  have hmm := @run_makeMap Try.prog
  go_enter Try.func7, Try.ntmps7
  go_wp2
  go_ret
  refine ⟨w.heap.size + 1, fun i => i = w.heap.size ∨ i = w.heap.size + 1, rfl, ⟨⟨⟨w.heap.size, _, 0, Bk.new2 w _ _ _, (Mn.new w).mod ((Mod.refl (fun _ => False) _).alloc _) (fun h => h), Nat.le_refl _, .inl rfl, by simp⟩, .inr rfl, fun i hi => by simp; omega⟩, Wp.empty⟩, fun i hi => by omega, ((Mod.refl _ w).alloc _).alloc _⟩
theorem eqMap1 (B : Nat) (w : World) : (binOp .eql 74 (.map (some B)) (.map none)).run Try.prog w = .ok (.bool false) w := by kernel_rfl
theorem eqMap0 (w : World) : (binOp .eql 74 (.map none) (.map none)).run Try.prog w = .ok (.bool true) w := by kernel_rfl
theorem isNone_w {w : World} {p B : Nat} (h : w.cell? ⟨p, 0, none⟩ = some (.map (some B))) : Calls Try.prog 28 #[.pointer (some ⟨p, 0, none⟩)] w fun e w' => e = .returned (.bool false) ∧ w' = w := by
  have hq := eqMap1 B
  go_enter Try.func28, Try.ntmps28
  go_wp2
  go_ret
  exact ⟨rfl, rfl⟩
theorem isNone_nil (w : World) : Calls Try.prog 28 #[.pointer none] w fun e w' => e = .returned (.bool true) ∧ w' = w := by
  go_enter Try.func28, Try.ntmps28
  go_wp2
  go_ret
  exact ⟨rfl, rfl⟩
theorem isNone_zero {w : World} {p : Nat} (h : w.cell? ⟨p, 0, none⟩ = some (.map none)) : Calls Try.prog 28 #[.pointer (some ⟨p, 0, none⟩)] w fun e w' => e = .returned (.bool true) ∧ w' = w := by
  have hq := eqMap0
  go_enter Try.func28, Try.ntmps28
  go_wp2
  go_ret
  exact ⟨rfl, rfl⟩
theorem mv_at {w : World} {X : Nat → Prop} {J : Int → Option Dt} {V : Int → Value} (h5 : ∀ k d, J k = some d → Own w (V k) d.m.body ∧ ∀ g, (V k).ownBlock = some g → X g) (k : Int) : ∃ ao cap, mv (J k) (V k) = dv ((J k).getD d0) (.slice ao ((J k).getD d0).m.body.length cap) ∧ Own w (.slice ao ((J k).getD d0).m.body.length cap) ((J k).getD d0).m.body := by
  cases hJ : J k with
  | none => exact ⟨none, 0, rfl, Own.nil w⟩
  | some d =>
    obtain ⟨a1, _⟩ := h5 k d hJ
    obtain ⟨ao, cap, e⟩ := a1.shape
    exact ⟨ao, cap, by show dv d (V k) = _; rw [e]; rfl, e ▸ a1⟩
set_option maxRecDepth 100000 in
set_option maxHeartbeats 2000000 in
theorem has_w {w : World} {p : Nat} {X : Nat → Prop} {J : Int → Option Dt} {a h : Int} {n : Nat} (hw : Wm w p X J a h n) (k : Int) (hk : I64 k) : Calls Try.prog 30 #[.pointer (some ⟨p, 0, none⟩), .int .i64 k] w fun e w' => e = .returned (.bool (J k).isSome) ∧ Mod (fun _ => False) w w' := by
  obtain ⟨B, V, N, h1, h2, _, _, h5⟩ := hw.blk
  have c0 : w.cell? ⟨p, 0, none⟩ = some (.map (some B)) := h1.cellv (j := 0) rfl
  have hL := h2.look2 hk
  obtain ⟨ao, cap, hd, _⟩ := mv_at h5 k
  rw [hd] at hL
  generalize (J k).isSome = b at hL ⊢
  generalize (J k).getD d0 = d at hL
  unfold dv at hL
  clear hd h1 h2 hw hk h5
  have hZ : Hid (Bk _ _ _ _) := Bk.new w #[.int .i64 0, .int .i64 0, .int .i64 0, .int .i64 0, .int .i64 0, .int .i64 0, .int .i64 0, .int .i64 0, .int .i64 0, .int .i64 0, .int .i64 0, .int .i64 0, .bool false, .int .i64 0, .int .i64 0, .int .i64 0, .int .i64 0, .slice none 0 0] 44
  have hA := (Mod.refl (fun _ => False) w).alloc (.cells #[.int .i64 0, .int .i64 0, .int .i64 0, .int .i64 0, .int .i64 0, .int .i64 0, .int .i64 0, .int .i64 0, .int .i64 0, .int .i64 0, .int .i64 0, .int .i64 0, .bool false, .int .i64 0, .int .i64 0, .int .i64 0, .int .i64 0, .slice none 0 0] 44)
  go_enter Try.func30, Try.ntmps30
  go_wp2_with (refine wpList_store_row info18 rfl rfl _ _ rfl w.heap.size #[.int .i64 d.q, .int .i64 d.r, .int .i64 d.n, .int .i64 d.s, .int .i64 d.t, .int .i64 d.m.kind, .int .i64 d.m.origin, .int .i64 d.m.life, .int .i64 d.m.id, .int .i64 d.m.part, .int .i64 d.m.parts, .int .i64 d.m.groups, .bool d.m.safe, .int .i64 d.m.st, .int .i64 d.m.rs, .int .i64 d.m.rr, .int .i64 d.m.sq, .slice ao d.m.body.length cap] rfl rfl hZ.out rfl rfl rfl ?_; intro wF hBF hMF)
  go_ret
  exact ⟨rfl, hA.trans hMF (V := fun _ => False) (fun _ _ h => h) (fun i hi h => by omega)⟩
/-- See. -/
def okS (k : Int) : Bool := decide (0 ≤ k ∧ k ≤ 9007199254740991)
def sE (k : Int) : Int := if okS k then 0 else 2
def sH (h k : Int) : Int := if okS k then max h k else h
theorem Bk.ne_map {w : World} {p B : Nat} {t : TypeId} {xs : Array Value} {J : Int → Option Dt} {V : Int → Value} {N : Nat} (h : Bk w p t xs) (hm : Mn w B J V N) : B ≠ p := fun e => by
  subst e
  obtain ⟨es, clock, hb⟩ := hm.kind
  rw [h.at'] at hb
  cases hb
theorem Bk.ne_own {w : World} {p : Nat} {xs : Array Value} {v : Value} {l : List Int} (h : Bk w p 76 xs) (ho : Own w v l) : v.ownBlock ≠ some p := fun e => by
  obtain ⟨cur, hc⟩ := ho.kind e
  rw [h.at'] at hc
  simp at hc
/-- Another greatest number; all there up to another one. -/
theorem Wm.top {w : World} {p : Nat} {X : Nat → Prop} {J : Int → Option Dt} {a h : Int} {n : Nat} (hw : Wm w p X J a h n) (h' : Int) : Wm (w.setCell ⟨p, 2, none⟩ (.int .i64 h')) p X J a h' n := by
  obtain ⟨B, V, N, h1, h2, h3, h4, h5⟩ := hw.blk
  have hm := (Mod.refl (fun i => i = p) w).setCell ⟨p, 2, none⟩ (.int .i64 h') (.inl rfl)
  refine ⟨⟨B, V, N, h1.set 2 (.int .i64 h'), h2.mod hm (h1.ne_map h2), h3, h4, fun k d hd => ?_⟩, hw.px, fun i hi => Nat.lt_of_lt_of_le (hw.lt i hi) hm.size⟩
  obtain ⟨a1, a2⟩ := h5 k d hd
  exact ⟨a1.mod hm (fun g hg e => h1.ne_own a1 (e ▸ hg)), a2⟩
theorem Wm.up {w : World} {p : Nat} {X : Nat → Prop} {J : Int → Option Dt} {a h : Int} {n : Nat} (hw : Wm w p X J a h n) (a' : Int) : Wm (w.setCell ⟨p, 1, none⟩ (.int .i64 a')) p X J a' h n := by
  obtain ⟨B, V, N, h1, h2, h3, h4, h5⟩ := hw.blk
  have hm := (Mod.refl (fun i => i = p) w).setCell ⟨p, 1, none⟩ (.int .i64 a') (.inl rfl)
  refine ⟨⟨B, V, N, h1.set 1 (.int .i64 a'), h2.mod hm (h1.ne_map h2), h3, h4, fun k d hd => ?_⟩, hw.px, fun i hi => Nat.lt_of_lt_of_le (hw.lt i hi) hm.size⟩
  obtain ⟨a1, a2⟩ := h5 k d hd
  exact ⟨a1.mod hm (fun g hg e => h1.ne_own a1 (e ▸ hg)), a2⟩
theorem Wn.top {w : World} {p : Nat} {X : Nat → Prop} {J : Int → Option Dt} {a h : Int} {n : Nat} (hw : Wn w p X J a h n) (h' : Int) (hp : Wp J a h') : Wn (w.setCell ⟨p, 2, none⟩ (.int .i64 h')) p X J a h' n := ⟨hw.mem.top h', hp⟩
theorem Wp.top {J : Int → Option Dt} {a h : Int} (hp : Wp J a h) {k : Int} (h1 : k ≤ 9007199254740991) : Wp J a (max h k) := by
  obtain ⟨a1, a2, a3⟩ := hp.high
  refine ⟨hp.each, hp.aru, by omega, by omega, fun i hi => ?_⟩
  have := a3 i hi
  omega
set_option maxRecDepth 100000 in
theorem See_w {w : World} {p : Nat} {X : Nat → Prop} {J : Int → Option Dt} {a h : Int} {n : Nat} (hw : Wn w p X J a h n) (k : Int) : Calls Try.prog 56 #[.pointer (some ⟨p, 0, none⟩), .int .i64 k] w fun e w' => e = .returned (.int .i64 (sE k)) ∧ Wn w' p X J a (sH h k) n ∧ Mod X w w' := by
  have HW : Hid (Wn w p X J a h n) := hw
  obtain ⟨B, V, N, h1, h2, _⟩ := hw.mem.blk
  have HN := isNone_w (w := w) (p := p) (B := B) (h1.cellv (j := 0) rfl)
  have c1 : w.cell? ⟨p, 2, none⟩ = some (.int .i64 h) := h1.cellv (j := 2) rfl
  have f1 : w.frozen? ⟨p, 2, none⟩ = false := h1.frz 2
  clear h1 h2 hw
  unfold sE sH okS
  by_cases hk : 0 ≤ k ∧ k ≤ 9007199254740991
  · have e0 : ¬ k < 0 := by omega
    have e1 : ¬ 9007199254740991 < k := by omega
    simp only [hk, and_self, decide_true, if_true]
    have HK : Hid (0 ≤ k ∧ k ≤ 9007199254740991) := hk
    clear hk
    go_enter Try.func56, Try.ntmps56
    go_wp2_with (go_at_call 28; refine HN.mono ?_; rintro e w' ⟨rfl, rfl⟩)
    go_ret
    exact ⟨rfl, HW.out.top _ (HW.out.wp.top HK.out.2), (Mod.refl X _).setCell _ _ (.inl HW.out.mem.px)⟩
  · simp only [hk, decide_false, Bool.false_eq_true, if_false]
    rcases Classical.em (k < 0) with e0 | e0
    · clear hk
      go_enter Try.func56, Try.ntmps56
      go_wp2_with (go_at_call 28; refine HN.mono ?_; rintro e w' ⟨rfl, rfl⟩)
      go_ret
      exact ⟨rfl, HW.out, Mod.refl _ _⟩
    · have e1 : 9007199254740991 < k := by omega
      clear hk
      go_enter Try.func56, Try.ntmps56
      go_wp2_with (go_at_call 28; refine HN.mono ?_; rintro e w' ⟨rfl, rfl⟩)
      go_ret
      exact ⟨rfl, HW.out, Mod.refl _ _⟩
end Go.Proofs.Ytampdkbcijdpcaa
