/- A slice of keys in memory, how it is read, and what a map of keys holds: as many as there are that are the same. No conditions. -/
import Derived.Test.YtbfgnlpgfjokhaaOa
import Derived.Test.YtbfgnlpgfjokhaaEn
import Derived.Maps.OwnSet
import Derived.DeepKeys4
import Derived.MapViews
namespace Go.Proofs.Ytbfgnlpgfjokhaa
open Go.ChangeShapes Go.WideShapes Go.ChangeAt Go.RowKit Go.Maps
theorem add_at (b off j : Nat) : (⟨b, off, none⟩ : Addr).add j = ⟨b, off + j, none⟩ := by
  unfold Addr.add
  split
  · rename_i h
    subst h
    rfl
  · rfl
/-- A key: Stamp, Ring.Seq, Ring.Rep, Seq. -/
abbrev Ky := Int × Int × Int × Int
def kv (k : Ky) : Value := .agg #[.int .i64 k.1, .int .i64 k.2.1, .int .i64 k.2.2.1, .int .i64 k.2.2.2]
def kk (a b : Ky) : Int := ks a.1 a.2.1 a.2.2.1 a.2.2.2 b.1 b.2.1 b.2.2.1 b.2.2.2
theorem kk_zero {a b : Ky} : kk a b = 0 ↔ a = b := by
  obtain ⟨s, q, r, n⟩ := a
  obtain ⟨s', q', r', n'⟩ := b
  rw [kk, ks_zero]
  simp
/-- Its cells from off on. -/
def Kc (w : World) (b off : Nat) (k : Ky) : Prop :=
  w.cell? ⟨b, off, none⟩ = some (.int .i64 k.1) ∧ w.cell? ⟨b, off + 1, none⟩ = some (.int .i64 k.2.1) ∧ w.cell? ⟨b, off + 2, none⟩ = some (.int .i64 k.2.2.1) ∧ w.cell? ⟨b, off + 3, none⟩ = some (.int .i64 k.2.2.2)
theorem Kc.mod {w w' : World} {b off : Nat} {k : Ky} (h : Kc w b off k) (hm : Mod (fun _ => False) w w') : Kc w' b off k :=
  ⟨hm.cell h.1 (fun h => h), hm.cell h.2.1 (fun h => h), hm.cell h.2.2.1 (fun h => h), hm.cell h.2.2.2 (fun h => h)⟩
/-- A slice of keys. -/
def Kl (w : World) (val : Value) (l : List Ky) : Prop :=
  ∃ ao cap, val = .slice ao l.length cap ∧ l.length ≤ cap ∧ cap ≤ maxLen ∧ (l ≠ [] → ∃ b off, ao = some ⟨b, off, none⟩ ∧ ∀ i d, l[i]? = some d → Kc w b (off + i * 4) d)
/-- It is a map's key. -/
def Kok (k : Ky) : Prop := ∃ x, keyOf Try.prog 25 (kv k) = some x
/-- What a key is in the map's datum. -/
def Klit (kl : Ky → Lit) : Prop := ∀ k, Kok k → keyOf Try.prog 25 (kv k) = some (kl k)
theorem klit_ex : ∃ kl, Klit kl := ⟨fun k => (keyOf Try.prog 25 (kv k)).getD (.bool false), fun k h => by
  obtain ⟨x, hx⟩ := h
  show _ = some ((keyOf Try.prog 25 (kv k)).getD (.bool false))
  rw [hx]
  rfl⟩
theorem law25 : Keyed Try.prog 25 := Keyed.of_law (deep_law_laid laidOut (m := 3) (by omega) (of_decide_eq_true (by kernel_rfl)) (by kernel_rfl) (by kernel_rfl))
theorem kl_inj {kl : Ky → Lit} (L : Klit kl) {a b : Ky} (ha : Kok a) (hb : Kok b) (h : kl a = kl b) : a = b := by
  have h1 := L a ha
  rw [h] at h1
  have := law25.inj h1 (L b hb)
  obtain ⟨s, q, r, n⟩ := a
  obtain ⟨s', q', r', n'⟩ := b
  simpa [kv] using this
theorem kl_key {kl : Ky → Lit} (L : Klit kl) {a : Ky} (ha : Kok a) : WideAt.IsKeyLit (kl a) := law25.key (L a ha)
section
variable {H : Type} {enc : TypeId × Value → H} {W : World}
theorem formed25 (k : Ky) : (kv k).formed Try.prog 25 = true := by
  simp [kv, Value.formed, Try.underlying25, cells25]
theorem open_keys {v : Value} {d : DataW H} {p : List MemPlace} (h : DataW.Trod enc Try.prog W 0 (fun _ => true) true 42 v d p) (hv : ∃ ao len cap, v = .slice ao len cap) :
    ∃ l : List Ky, Kl W v l ∧ ∀ k ∈ l, Kok k := by
  obtain ⟨ao0, len0, cap0, rfl⟩ := hv
  obtain ⟨fuel, hf⟩ := h
  rcases Deep.open_slice Try.underlying42 hf with ⟨hcs, hx⟩ | ⟨a, len, cap, m, n, D, Pl, hcs, _, hl, hm, hmm, hx, hel⟩
  · simp [Value.cells] at hcs
    obtain ⟨rfl, rfl, rfl⟩ := hcs
    exact ⟨[], ⟨none, 0, rfl, Nat.le_refl _, by simp [maxLen], fun h => absurd rfl h⟩, by simp⟩
  · simp [Value.cells] at hcs
    obtain ⟨rfl, rfl, rfl⟩ := hcs
    simp only [if_true] at hmm
    subst hmm
    rw [cells25] at hel
    have one : ∀ i, ∃ x : Ky, i < len0 → (W.cell? (a.add (i * 4)) = some (.int .i64 x.1) ∧ W.cell? (a.add (i * 4 + 1)) = some (.int .i64 x.2.1) ∧ W.cell? (a.add (i * 4 + 2)) = some (.int .i64 x.2.2.1) ∧ W.cell? (a.add (i * 4 + 3)) = some (.int .i64 x.2.2.2)) ∧ Kok x := by
      intro i
      by_cases hi : i < len0
      · obtain ⟨cs, hcells, ht⟩ := hel i (by omega)
        obtain ⟨_, hlen, hc⟩ := World.cells?_some hcells
        match cs, hlen with
        | [c0, c1, c2, c3], _ =>
          obtain ⟨s, q, r, n, rfl, rfl, rfl, rfl, _⟩ := key_cells ht
          refine ⟨(s, q, r, n), fun _ => ⟨?_, ?_⟩⟩
          · have q0 := hc 0 (by omega)
            have q1 := hc 1 (by omega)
            have q2 := hc 2 (by omega)
            have q3 := hc 3 (by omega)
            simp only [Deep.add_add] at q0 q1 q2 q3
            simp at q0 q1 q2 q3
            exact ⟨q0, q1, q2, q3⟩
          · have ht' : DataW.Trod enc Try.prog W 0 (fun _ => true) true 25 (kv (s, q, r, n)) (D i) (Pl i) := ⟨_, by simpa [kv, Value.cells] using ht⟩
            exact ⟨_, (keyOf_asKey (by kernel_rfl) (by kernel_rfl) (formed25 _) ht').1⟩
      · exact ⟨(0, 0, 0, 0), fun h => absurd h hi⟩
    obtain ⟨f, hfx⟩ := Classical.axiomOfChoice one
    have hdl : ((List.range len0).map f).length = len0 := by simp
    refine ⟨(List.range len0).map f, ⟨some a, m, by rw [hdl], by rw [hdl]; omega, by omega, fun hne => ?_⟩, ?_⟩
    · have h0 : 0 < len0 := by
        rcases Nat.eq_zero_or_pos len0 with h | h
        · subst h; simp at hne
        · exact h
      obtain ⟨b, off, spot⟩ := a
      have hc0 := (hfx 0 h0).1.1
      have hspot : spot = none := by simpa [Addr.add] using World.cell?_spot hc0
      subst hspot
      refine ⟨b, off, rfl, fun i d hd => ?_⟩
      have hi : i < len0 := by
        rcases Nat.lt_or_ge i len0 with h | h
        · exact h
        · rw [List.getElem?_eq_none (by rw [hdl]; exact h)] at hd; cases hd
      have ed : d = f i := by simpa [hi] using hd.symm
      subst ed
      have := (hfx i hi).1
      simpa only [Kc, add_at, Nat.add_assoc] using this
    · intro d hd
      obtain ⟨i, hi, rfl⟩ := List.mem_map.1 hd
      exact (hfx i (List.mem_range.1 hi)).2
end
/-- What the map says when those of t have been counted. -/
structure Cn (kl : Ky → Lit) (D : DataW Unit) (t : List Ky) : Prop where
  at' : ∀ k, Kok k → D.atKey (kl k) (.lit (.int .i64 0)) = .lit (.int .i64 ((t.count k : Nat) : Int))
  has' : ∀ k, Kok k → Maps.has D (kl k) = decide (k ∈ t)
theorem Cn.zero (kl : Ky → Lit) : Cn kl (.map []) [] := ⟨fun k _ => by simp [DataW.atKey], fun k _ => by simp [Maps.has]⟩
theorem Cn.step {kl : Ky → Lit} (L : Klit kl) {D : DataW Unit} {t : List Ky} {x : Ky} (h : Cn kl D t) (hm : IsMap D) (hx : Kok x) : Cn kl (D.put (kl x) (.lit (.int .i64 (((t.count x : Nat) : Int) + 1)))) (t ++ [x]) := by
  refine ⟨fun k hk => ?_, fun k hk => ?_⟩
  · by_cases e : k = x
    · subst e
      rw [atKey_put_same hm (kl_key L hk)]
      simp [List.count_append]
    · rw [atKey_put_other (fun e' => e (kl_inj L hk hx e')), h.at' k hk]
      have : List.count k [x] = 0 := by
        rw [List.count_eq_zero]
        simpa using e
      simp [List.count_append, this]
  · by_cases e : k = x
    · subst e
      rw [has_put_same hm (kl_key L hk)]
      simp
    · rw [has_put_other (fun e' => e (kl_inj L hk hx e')), h.has' k hk]
      simp [e]
/-- How many that are not the same: one more if x is new. -/
theorem Cn.size {kl : Ky → Lit} {D : DataW Unit} {t : List Ky} {x : Ky} (h : Cn kl D t) (ht : Tidy D) (hx : Kok x) (d : DataW Unit) : Maps.size (D.put (kl x) d) = if x ∈ t then Maps.size D else Maps.size D + 1 := by
  rw [size_put ht, h.has' x hx]
  by_cases e : x ∈ t <;> simp [e]
theorem zero3 (w : World) : (zeroValue 3).run Try.prog w = .ok (.int .i64 0) w := by kernel_rfl
/-- The call's own map stays while others do not turn it. -/
theorem owns_mod {w w' : World} {b n : Nat} {D : DataW Unit} (h : w.ownsMap Try.prog 25 (plainElem Try.prog 3) b n D) (hm : Mod (fun _ => False) w w') : w'.ownsMap Try.prog 25 (plainElem Try.prog 3) b n D := by
  obtain ⟨es, clock, hb, r⟩ := h
  exact ⟨es, clock, hm.obj hb (fun h => h), r⟩
end Go.Proofs.Ytbfgnlpgfjokhaa
