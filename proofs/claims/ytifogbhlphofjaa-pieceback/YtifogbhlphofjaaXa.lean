/- Joiners in memory: a map of what is under way by senders, each with bytes of its own. No conditions; definitions and small laws on them. -/
import Derived.Test.YtifogbhlphofjaaCv
import Derived.Test.YtifogbhlphofjaaWi
import Derived.Maps.OwnSet
import Derived.DeepKeys4
import Derived.MapViews
namespace Go.Proofs.Ytifogbhlphofjaa
open Go.RowKit Go.Maps Go.WideShapes
/-- A sender: Origin and Life. -/
abbrev Sd := Int × Int
def kv (k : Sd) : Value := .agg #[.int .i64 k.1, .int .i64 k.2]
def Sdi (k : Sd) : Prop := I64 k.1 ∧ I64 k.2
theorem wf_of {n : Int} (h : I64 n) : (Lit.int .i64 n).wf = true := WalkArith.wf_i64 (by unfold I64 at h; omega)
theorem cellsSd : Try.prog.cellsOf 78 = 2 := by kernel_rfl
theorem cellsI : Try.prog.cellsOf 3 = 1 := by kernel_rfl
theorem laidOut' : laidOutB Try.prog = true := by kernel_rfl
theorem lawSd : Keyed Try.prog 78 := Keyed.of_law (deep_law_laid laidOut' (m := 3) (by omega) (of_decide_eq_true (by kernel_rfl)) (by kernel_rfl) (by kernel_rfl))
theorem keyTy : Try.prog.keyType 78 = true := by kernel_rfl
theorem tpos : decide (0 < Try.prog.types.size) = true := by kernel_rfl
theorem tsize : ∃ m, Try.prog.types.size = m + 1 := ⟨Try.prog.types.size - 1, by have := of_decide_eq_true tpos; omega⟩
/-- What a sender is in the map's datum. -/
def kl (k : Sd) : Lit := .string (keyBytes [.int .i64 k.1, .int .i64 k.2])
theorem key_two {P : Program} {t : TypeId} {f0 f1 : Field} {m : Nat} {x y : Int} (hu : P.underlying t = some (.struct #[f0, f1])) (hi : P.underlying 3 = some (.int .i64)) (t0 : f0.type = 3) (t1 : f1.type = 3) (o0 : f0.offset = 0) (o1 : f1.offset = 1)
    (n0 : (f0.name != "_") = true) (n1 : (f1.name != "_") = true) (hk : P.keyType t = true) (hc : P.cellsOf t = 2) (hc3 : P.cellsOf 3 = 1) (hm : P.types.size = m + 1) (hx : (Lit.int .i64 x).wf = true) (hy : (Lit.int .i64 y).wf = true) :
    keyOf P t (.agg #[.int .i64 x, .int .i64 y]) = some (.string (keyBytes [.int .i64 x, .int .i64 y])) := by
  simp [keyOf, hu, hk, Value.formed, hc, Value.cells, hm, Program.keyLits, t0, t1, o0, o1, hc3, hi, hx, hy, n0, n1]
theorem kl_of {k : Sd} (h : Sdi k) : keyOf Try.prog 78 (kv k) = some (kl k) := by
  obtain ⟨m, hm⟩ := tsize
  exact key_two Try.underlying78 Try.underlying3 rfl rfl rfl rfl rfl rfl keyTy cellsSd cellsI hm (wf_of h.1) (wf_of h.2)
theorem kl_inj {a b : Sd} (ha : Sdi a) (hb : Sdi b) (h : kl a = kl b) : a = b := by
  have h1 := kl_of ha
  rw [h] at h1
  have := lawSd.inj h1 (kl_of hb)
  obtain ⟨s, q⟩ := a
  obtain ⟨s', q'⟩ := b
  simpa [kv] using this
theorem kl_key {a : Sd} (ha : Sdi a) : WideAt.IsKeyLit (kl a) := by
  have h := kl_of ha
  generalize kl a = x at h ⊢
  exact lawSd.key h
/-- What is under way of a sender. -/
structure Pile where
  id : Int
  ps : Int
  g : Int
  s : Bool
  n : Int
  l : List Int
def pv (z : Pile) (v : Value) : Value := .agg #[.int .i64 z.id, .int .i64 z.ps, .int .i64 z.g, .bool z.s, .int .i64 z.n, v]
/-- Nothing. -/
def p0 : Pile := ⟨0, 0, 0, false, 0, []⟩
def hE (v : Value) : Option (DataW Value × List MemPlace) := some (.held v, [])
theorem zeroPile (w : World) : (zeroValue 82).run Try.prog w = .ok (pv p0 (.slice none 0 0)) w := by kernel_rfl
def mv (o : Option Pile) (v : Value) : Value := match o with | none => pv p0 (.slice none 0 0) | some z => pv z v
theorem owns_mod {S : Nat → Prop} {w w' : World} {b n : Nat} {D : DataW Value} (h : w.ownsMap Try.prog 78 hE b n D) (hm : Mod S w w') (hb : ¬ S b) : w'.ownsMap Try.prog 78 hE b n D := by
  obtain ⟨es, clock, hk, r⟩ := h
  exact ⟨es, clock, hm.obj hk hb, r⟩
theorem Mod.turned {S : Nat → Prop} {a w w' : World} {b : Nat} (h : Mod S a w) (ht : w.mapTurned w' b) (hb : S b ∨ a.heap.size ≤ b) : Mod S a w' :=
  h.grown ht.grown (fun k hk hlt => by cases hk; rcases hb with h | h; exact h; omega)
/-- How many senders. -/
def Cnt (J : Sd → Option Pile) (n : Nat) : Prop := ∃ K : List Sd, K.Nodup ∧ (∀ k, k ∈ K ↔ (J k).isSome = true) ∧ K.length = n
theorem sub_len {K L : List Sd} (hK : K.Nodup) (h : ∀ k ∈ K, k ∈ L) : K.length ≤ L.length := by
  induction K generalizing L with
  | nil => simp
  | cons a r ih =>
    have ha := h a (by simp)
    rw [List.nodup_cons] at hK
    have := ih (L := L.erase a) hK.2 (fun k hk => by
      have hne : k ≠ a := by rintro rfl; exact hK.1 hk
      exact (List.mem_erase_of_ne hne).2 (h k (by simp [hk])))
    rw [List.length_erase_of_mem ha] at this
    have h0 : 0 < L.length := List.length_pos_of_mem ha
    simp only [List.length_cons]
    omega
theorem Cnt.le {J J' : Sd → Option Pile} {n m : Nat} (h : Cnt J n) (h' : Cnt J' m) (hs : ∀ k, (J k).isSome = true → (J' k).isSome = true) : n ≤ m := by
  obtain ⟨K, h1, h2, rfl⟩ := h
  obtain ⟨L, h3, h4, rfl⟩ := h'
  exact sub_len h1 fun k hk => (h4 k).2 (hs k ((h2 k).1 hk))
theorem Cnt.uniq {J : Sd → Option Pile} {n m : Nat} (h : Cnt J n) (h' : Cnt J m) : n = m := Nat.le_antisymm (h.le h' fun _ x => x) (h'.le h fun _ x => x)
theorem Cnt.zero : Cnt (fun _ => none) 0 := ⟨[], List.nodup_nil, by simp, rfl⟩
/-- One put in, or taken out. -/
def upd {α : Type} (J : Sd → α) (k : Sd) (z : α) : Sd → α := fun i => if i = k then z else J i
theorem upd_same {α : Type} (J : Sd → α) (k : Sd) (z : α) : upd J k z k = z := by simp [upd]
theorem upd_other {α : Type} (J : Sd → α) {k i : Sd} (z : α) (h : i ≠ k) : upd J k z i = J i := by simp [upd, h]
theorem upd_upd {α : Type} (J : Sd → α) (k : Sd) (y z : α) : upd (upd J k y) k z = upd J k z := by
  funext i
  unfold upd
  split <;> rfl
theorem Cnt.del {J : Sd → Option Pile} {n : Nat} (h : Cnt J n) (k : Sd) : Cnt (upd J k none) (n - (if (J k).isSome = true then 1 else 0)) := by
  obtain ⟨K, h1, h2, rfl⟩ := h
  refine ⟨K.erase k, h1.erase k, fun i => ?_, ?_⟩
  · rw [h1.mem_erase_iff, h2 i]
    unfold upd
    by_cases e : i = k <;> simp [e]
  · rw [List.length_erase]
    have := h2 k
    by_cases e : (J k).isSome = true
    · rw [if_pos (this.2 e), if_pos e]
    · rw [if_neg (fun x => e (this.1 x)), if_neg e]
      omega
theorem Cnt.put {J : Sd → Option Pile} {n : Nat} (h : Cnt J n) {k : Sd} (hk : (J k).isSome = false) (z : Pile) : Cnt (upd J k (some z)) (n + 1) := by
  obtain ⟨K, h1, h2, rfl⟩ := h
  have hn : k ∉ K := fun hh => by rw [(h2 k).1 hh] at hk; cases hk
  refine ⟨k :: K, List.nodup_cons.2 ⟨hn, h1⟩, fun i => ?_, by simp⟩
  unfold upd
  by_cases e : i = k
  · simp [e]
  · simp [e, h2 i]
/-- A map that holds what is under way, N senders; V: where its bytes lie. -/
structure Mx (w : World) (B : Nat) (J : Sd → Option Pile) (V : Sd → Value) (N : Nat) : Prop where
  own : ∃ D, w.ownsMap Try.prog 78 hE B N D ∧ Maps.size D = N ∧ (∀ k, Sdi k → D.atKey (kl k) (.held (pv p0 (.slice none 0 0))) = .held (mv (J k) (V k)) ∧ Maps.has D (kl k) = (J k).isSome)
  sdi : ∀ k, (J k).isSome = true → Sdi k
  cnt : Cnt J N
theorem Mx.mod {S : Nat → Prop} {w w' : World} {B : Nat} {J : Sd → Option Pile} {V : Sd → Value} {N : Nat} (h : Mx w B J V N) (hm : Mod S w w') (hp : ¬ S B) : Mx w' B J V N := by
  obtain ⟨D, h1, h2, h3⟩ := h.own
  exact ⟨⟨D, owns_mod h1 hm hp, h2, h3⟩, h.sdi, h.cnt⟩
theorem Mx.new (w : World) : Mx (w.alloc (.map #[] 0)) w.heap.size (fun _ => none) (fun _ => .slice none 0 0) 0 :=
  ⟨⟨_, World.ownsMap_made w Try.prog 78 _, by simp [Maps.size], fun k _ => by simp [DataW.atKey, mv, Maps.has]⟩, by simp, Cnt.zero⟩
theorem Mx.kind {w : World} {B : Nat} {J : Sd → Option Pile} {V : Sd → Value} {N : Nat} (h : Mx w B J V N) : ∃ es clock, w.heap[B]? = some (.map es clock) := by
  obtain ⟨D, ⟨es, clock, hb, _⟩, _⟩ := h.own
  exact ⟨es, clock, hb⟩
theorem Mx.lt {w : World} {B : Nat} {J : Sd → Option Pile} {V : Sd → Value} {N : Nat} (h : Mx w B J V N) : B < w.heap.size := by
  obtain ⟨es, clock, hb⟩ := h.kind
  exact lt_of_block hb
theorem Mx.look {w : World} {B : Nat} {J : Sd → Option Pile} {V : Sd → Value} {N : Nat} (h : Mx w B J V N) {k : Sd} (hk : Sdi k) : (Instr.lookup 60 (.map (some B)) (kv k) false).run Try.prog w = .ok (mv (J k) (V k)) w := by
  obtain ⟨D, h1, _, h3⟩ := h.own
  obtain ⟨c, ps, hrun, hat⟩ := h1.lookup lawSd Try.underlying60 (zeroPile _) (zd := .held (pv p0 (.slice none 0 0))) (zp := []) rfl (kl_of hk)
  rw [(h3 k hk).1] at hat
  simp only [hE, Option.some.injEq, Prod.mk.injEq, DataW.held.injEq] at hat
  rw [hrun, hat.1]
theorem Mx.len {w : World} {B : Nat} {J : Sd → Option Pile} {V : Sd → Value} {N : Nat} (h : Mx w B J V N) (ty : TypeId) : (Builtin.len_ #[60] ty #[.map (some B)]).run Try.prog w = .ok (.int .i64 N) w := by
  obtain ⟨D, h1, h2, _⟩ := h.own
  rw [h1.len Try.underlying60, h2]
theorem owns_size {w : World} {B m : Nat} {D : DataW Value} (h : w.ownsMap Try.prog 78 hE B m D) : w.ownsMap Try.prog 78 hE B (Maps.size D) D := by
  obtain ⟨es, clock, hb, F, _, rfl⟩ := h
  exact ⟨es, clock, hb, F, by simp [Maps.size, length_sorted], rfl⟩
theorem Mx.drop {w : World} {B : Nat} {J : Sd → Option Pile} {V : Sd → Value} {N : Nat} (h : Mx w B J V N) {k : Sd} (hk : Sdi k) (ty : TypeId) :
    ∃ w', (Builtin.delete_ #[60, 78] ty #[.map (some B), kv k]).run Try.prog w = .ok (.tuple #[]) w' ∧ (∃ M, M ≤ N ∧ Mx w' B (upd J k none) V M) ∧ w.mapTurned w' B := by
  obtain ⟨D, h1, h2, h3⟩ := h.own
  obtain ⟨w', hrun, r1, r2⟩ := h1.drop lawSd Try.underlying60 (kl_of hk) ty
  have hs := size_del (h1.tidy lawSd) (k := kl k)
  have hc := h.cnt.del k
  rw [(h3 k hk).2, h2] at hs
  have e : Maps.size (D.del (kl k)) = N - (if (J k).isSome = true then 1 else 0) := by omega
  refine ⟨w', hrun, ⟨_, by omega, ⟨⟨_, owns_size r1, rfl, fun i hi => ?_⟩, fun i hi => ?_, by rw [e]; exact hc⟩⟩, r2⟩
  · by_cases e : i = k
    · subst e
      rw [atKey_del_same, has_del_same, upd_same]
      exact ⟨rfl, rfl⟩
    · rw [atKey_del_other (fun e' => e (kl_inj hi hk e')), has_del_other (fun e' => e (kl_inj hi hk e')), upd_other J _ e]
      exact h3 i hi
  · unfold upd at hi
    split at hi
    · cases hi
    · exact h.sdi i hi
theorem Mx.store {w : World} {B : Nat} {J : Sd → Option Pile} {V : Sd → Value} {N : Nat} (h : Mx w B J V N) {k : Sd} (hk : Sdi k) (hj : (J k).isSome = false) (hN : N < maxLen) (z : Pile) (v : Value) :
    ∃ w', (Instr.mapUpdate 60 (.map (some B)) (kv k) (pv z v)).run Try.prog w = .ok () w' ∧ Mx w' B (upd J k (some z)) (upd V k v) (N + 1) ∧ w.mapTurned w' B := by
  obtain ⟨D, h1, h2, h3⟩ := h.own
  obtain ⟨w', hrun, r1, r2⟩ := h1.store (d := .held (pv z v)) (ps := []) lawSd Try.underlying60 hN (kl_of hk) (val := pv z v) (by rfl)
  have hs := size_put (h1.tidy lawSd) (k := kl k) (.held (pv z v))
  rw [(h3 k hk).2, h2, hj] at hs
  refine ⟨w', hrun, ⟨⟨_, r1, by simpa using hs, fun i hi => ?_⟩, fun i hi => ?_, h.cnt.put hj z⟩, r2⟩
  · by_cases e : i = k
    · subst e
      have hkk := kl_key hi
      rw [atKey_put_same h1.isMap hkk, has_put_same h1.isMap hkk, upd_same, upd_same]
      exact ⟨rfl, rfl⟩
    · rw [atKey_put_other (fun e' => e (kl_inj hi hk e')), has_put_other (fun e' => e (kl_inj hi hk e')), upd_other J _ e, upd_other V _ e]
      exact h3 i hi
  · by_cases e : i = k
    · rw [e]; exact hk
    · rw [upd_other J _ e] at hi
      exact h.sdi i hi
end Go.Proofs.Ytifogbhlphofjaa
