/- How the laws' arguments read: a slice of bytes reads as a list of bytes, a slice of deeds as a list of deeds, each with its slice of bytes; and the sizes that the bound on the whole input gives. No conditions. -/
import Derived.Test.YtfinaabhmdnjfaaPlb
import Derived.Test.YtfinaabhmdnjfaaRows
import Derived.ProofKit
import Derived.OpenShut
import Derived.Deep.Slices
import Derived.Lib.SmallJoins
namespace Go.Proofs.Ytfinaabhmdnjfaa
open Go.ChangeShapes Go.WideShapes Go.ChangeAt Go.RowKit

/-- A deed: its kind, its numbers, its slice and what that reads as. -/
structure Dd where
  kind : Int
  v : Int
  size : Int
  bv : Value
  b : List Int

def I64 (n : Int) : Prop := -9223372036854775808 ≤ n ∧ n ≤ 9223372036854775807

/-- A slice of deeds. -/
structure Deeds (w : World) (val : Value) (ds : List Dd) : Prop where
  form : ∃ ao cap, val = .slice ao ds.length cap ∧ ds.length ≤ maxLen ∧
    (ds ≠ [] → ∃ b off, ao = some ⟨b, off, none⟩ ∧ ∀ i d, ds[i]? = some d → w.cell? ⟨b, off + i * 4, none⟩ = some (.int .i64 d.kind) ∧ w.cell? ⟨b, off + i * 4 + 1, none⟩ = some (.int .i64 d.v) ∧
      w.cell? ⟨b, off + i * 4 + 2, none⟩ = some (.int .i64 d.size) ∧ w.cell? ⟨b, off + i * 4 + 3, none⟩ = some d.bv)
  each : ∀ d ∈ ds, Sl w d.bv d.b ∧ I64 d.kind ∧ I64 d.v ∧ I64 d.size

section
variable {H : Type} {enc : TypeId × Value → H} {W : World}

theorem cells29 : Try.prog.cellsOf 29 = 1 := by kernel_rfl
theorem cells31 : Try.prog.cellsOf 31 = 4 := by kernel_rfl
theorem cells3 : Try.prog.cellsOf 3 = 1 := by kernel_rfl
theorem cells5 : Try.prog.cellsOf 5 = 1 := by kernel_rfl

theorem bulk_lits (k : IntKind) : ∀ l : List Int, Rows.uptoBulkAll (H := H) (lits k l) = l.length
  | [] => by simp [lits, Rows.uptoBulkAll]
  | a :: l => by
    have := bulk_lits k l
    simp only [lits, List.map_cons, Rows.uptoBulkAll, Rows.uptoBulk, List.length_cons] at this ⊢
    omega

theorem sl_of_trod {n : Nat} {c : Value} {x : DataW H × List MemPlace} (h : DataW.trod enc Try.prog W 0 (fun _ => true) true n 29 [c] = some x) :
    ∃ l, Sl W c l ∧ l.length + 1 ≤ Rows.uptoBulk x.1 ∧ (x.1 = .nil ∨ ∃ e s, x.1 = .slice e s ∧ e.length = l.length) := by
  rcases open_ints Try.underlying29 Try.underlying5 cells5 h with ⟨hcs, rfl⟩ | ⟨a, len, cap, zs, hcs, _, hl, hm, hz, rfl, hcell, hwz⟩
  · cases hcs
    exact ⟨[], ⟨⟨none, 0, rfl, Nat.le_refl _, by simp [maxLen], fun _ => rfl, fun h => absurd rfl h⟩, by simp⟩, by simp [Rows.uptoBulk], .inl rfl⟩
  · cases hcs
    simp only [if_true] at hz
    have hlen : (zs.take len).length = len := by simp; omega
    refine ⟨zs.take len, ⟨⟨some a, cap, by rw [hlen], by omega, hm, (by intro h; cases h), fun hne => ?_⟩, ?_⟩, ?_, .inr ⟨_, _, rfl, by simp [lits]⟩⟩
    · have h0 : 0 < len := by
        rcases Nat.eq_zero_or_pos len with h | h
        · subst h; simp at hne
        · exact h
      obtain ⟨b, off, spot⟩ := a
      have hc0 := hcell 0 (by omega)
      have hspot : spot = none := by simpa [Addr.add] using World.cell?_spot hc0
      subst hspot
      refine ⟨b, off, rfl, fun j hj => ?_⟩
      rw [hlen] at hj
      have := hcell j (by omega)
      rw [add_at] at this
      rw [this]
      simp [hj]
    · intro c hc
      have := hwz c (List.mem_of_mem_take hc)
      have hb := bounds_u8 this
      omega
    · simp only [Rows.uptoBulk, bulk_lits, hlen]
      omega

theorem bulk_map {D : Nat → DataW H} {g : Nat → Nat} : ∀ l : List Nat, (∀ i ∈ l, g i ≤ Rows.uptoBulk (D i)) → (l.map g).sum ≤ Rows.uptoBulkAll (l.map D)
  | [], _ => by simp [Rows.uptoBulkAll]
  | a :: l, h => by
    have h1 := h a (by simp)
    have h2 := bulk_map l (fun i hi => h i (by simp [hi]))
    simp only [List.map_cons, List.sum_cons, Rows.uptoBulkAll]
    omega

theorem i64_of_wf {n : Int} (h : (Lit.int .i64 n).wf = true) : I64 n := by
  have := bounds_i64 h
  unfold I64
  omega

theorem open_deeds {v : Value} {d : DataW H} {p : List MemPlace} (h : DataW.Trod enc Try.prog W 0 (fun _ => true) true 22 v d p) (hv : ∃ ao len cap, v = .slice ao len cap) :
    ∃ ds : List Dd, Deeds W v ds ∧ (ds.map fun x => x.b.length + 1).sum ≤ Rows.uptoBulk d := by
  obtain ⟨ao0, len0, cap0, rfl⟩ := hv
  obtain ⟨fuel, hf⟩ := h
  rcases Deep.open_slice Try.underlying22 hf with ⟨hcs, hx⟩ | ⟨a, len, cap, m, n, D, Pl, hcs, _, hl, hm, hmm, hx, hel⟩
  · simp [Value.cells] at hcs
    obtain ⟨rfl, rfl, rfl⟩ := hcs
    exact ⟨[], ⟨⟨none, 0, rfl, by simp [maxLen], fun h => absurd rfl h⟩, by simp⟩, by simp⟩
  · simp [Value.cells] at hcs
    obtain ⟨rfl, rfl, rfl⟩ := hcs
    simp only [if_true] at hmm
    subst hmm
    rw [cells31] at hel
    have one : ∀ i, ∃ x : Dd, i < len0 → (W.cell? (a.add (i * 4)) = some (.int .i64 x.kind) ∧ W.cell? (a.add (i * 4 + 1)) = some (.int .i64 x.v) ∧ W.cell? (a.add (i * 4 + 2)) = some (.int .i64 x.size) ∧ W.cell? (a.add (i * 4 + 3)) = some x.bv) ∧
        (Sl W x.bv x.b ∧ I64 x.kind ∧ I64 x.v ∧ I64 x.size) ∧ x.b.length + 1 ≤ Rows.uptoBulk (D i) := by
      intro i
      by_cases hi : i < len0
      · obtain ⟨cs, hcells, ht⟩ := hel i (by omega)
        obtain ⟨_, hlen, hc⟩ := World.cells?_some hcells
        obtain ⟨y0, y1, y2, y3, k, hy, _, t0, t1, t2, t3⟩ := Joins.trod_struct4 Try.underlying31 ht
        match cs, hlen with
        | [c0, c1, c2, c3], _ =>
          simp only [cells3, cells29, List.drop_zero, List.drop_succ_cons, List.take_succ_cons, List.take_zero] at t0 t1 t2 t3
          obtain ⟨k0, e0, r0, w0⟩ := DataW.trod_int Try.underlying3 t0
          obtain ⟨k1, e1, r1, w1⟩ := DataW.trod_int Try.underlying3 t1
          obtain ⟨k2, e2, r2, w2⟩ := DataW.trod_int Try.underlying3 t2
          obtain ⟨bl, hs, hb, _⟩ := sl_of_trod t3
          simp at e0 e1 e2
          subst e0 e1 e2
          refine ⟨⟨k0, k1, k2, c3, bl⟩, fun _ => ⟨?_, ⟨hs, i64_of_wf w0, i64_of_wf w1, i64_of_wf w2⟩, ?_⟩⟩
          · have q0 := hc 0 (by omega)
            have q1 := hc 1 (by omega)
            have q2 := hc 2 (by omega)
            have q3 := hc 3 (by omega)
            simp only [Deep.add_add] at q0 q1 q2 q3
            simp at q0 q1 q2 q3
            exact ⟨q0, q1, q2, q3⟩
          · have e : D i = .agg [y0.1, y1.1, y2.1, y3.1] := congrArg Prod.fst hy
            rw [e]
            simp only [Rows.uptoBulk, Rows.uptoBulkAll]
            omega
      · exact ⟨⟨0, 0, 0, .slice none 0 0, []⟩, fun h => absurd h hi⟩
    obtain ⟨f, hfx⟩ := Classical.axiomOfChoice one
    have hdl : ((List.range len0).map f).length = len0 := by simp
    refine ⟨(List.range len0).map f, ⟨⟨some a, m, by rw [hdl], by rw [hdl]; omega, fun hne => ?_⟩, ?_⟩, ?_⟩
    · have h0 : 0 < len0 := by
        rcases Nat.eq_zero_or_pos len0 with h | h
        · subst h; simp at hne
        · exact h
      obtain ⟨b, off, spot⟩ := a
      have hc0 := (hfx 0 h0).1.1
      have hspot : spot = none := by simpa [Addr.add] using World.cell?_spot hc0
      subst hspot
      refine ⟨b, off, rfl, fun i d hd => ?_⟩
      have hi : i < len0 := by
        rcases Nat.lt_or_ge i len0 with h | h
        · exact h
        · rw [List.getElem?_eq_none (by rw [hdl]; exact h)] at hd; cases hd
      have ed : d = f i := by simpa [hi] using hd.symm
      subst ed
      have := (hfx i hi).1
      simpa only [add_at, Nat.add_assoc] using this
    · intro d hd
      obtain ⟨i, hi, rfl⟩ := List.mem_map.1 hd
      exact (hfx i (List.mem_range.1 hi)).2.1
    · have ed : d = .slice ((List.range len0).map D) ((List.range (m - len0)).map fun j => D (len0 + j)) := congrArg Prod.fst hx
      rw [ed, List.map_map]
      have := bulk_map (D := D) (g := fun i => (f i).b.length + 1) (List.range len0) (fun i hi => (hfx i (List.mem_range.1 hi)).2.2)
      simp only [Rows.uptoBulk]
      have e2 : ((fun x : Dd => x.b.length + 1) ∘ f) = fun i => (f i).b.length + 1 := rfl
      rw [e2]
      omega
end
theorem Bring3 (k : Int) (w : World) (hk : I64 k) : Calls Try.prog 11 #[.int .i64 k, .int .i64 3] w fun e w' => e = .returned (.int .i64 (k % 3)) ∧ w' = w := by
  unfold I64 at hk
  obtain ⟨h1, h2⟩ := hk
  have hneg : k < 0 → k.tmod 3 = -((-k) % 3) := fun h => by
    have := Int.neg_tmod (-k) 3
    rw [Int.neg_neg] at this
    rw [this, Int.tmod_eq_emod_of_nonneg (by omega)]
  rcases (show 0 ≤ k ∨ (k < 0 ∧ k % 3 = 0) ∨ (k < 0 ∧ k % 3 ≠ 0) from by omega) with h | ⟨h, h3⟩ | ⟨h, h3⟩
  · have e : k.tmod 3 = k % 3 := Int.tmod_eq_emod_of_nonneg h
    have hp : 0 ≤ k % 3 := by omega
    clear hneg
    go_enter Try.func11, Try.ntmps11
    go_wp2
    go_ret
    exact ⟨rfl, rfl⟩
  · have e : k.tmod 3 = 0 := by rw [hneg h]; omega
    clear hneg
    rw [h3]
    clear h3
    go_enter Try.func11, Try.ntmps11
    go_wp2
    go_ret
    exact ⟨rfl, rfl⟩
  · have e : k.tmod 3 = k % 3 - 3 := by rw [hneg h]; omega
    have hp : k % 3 - 3 < 0 := by omega
    clear hneg
    go_enter Try.func11, Try.ntmps11
    go_wp2
    go_ret
    exact ⟨rfl, rfl⟩
theorem Deeds.at {w : World} {ao : Option Addr} {cap : Nat} {ds : List Dd} (h : Deeds w (.slice ao ds.length cap) ds) {k : Nat} {d : Dd} (hk : ds[k]? = some d) :
    ∃ b off, ao = some ⟨b, off, none⟩ ∧ ∀ w', Mod (fun _ => False) w w' → w'.cell? ⟨b, off + k * 4, none⟩ = some (.int .i64 d.kind) ∧ w'.cell? ⟨b, off + k * 4 + 1, none⟩ = some (.int .i64 d.v) ∧
      w'.cell? ⟨b, off + k * 4 + 2, none⟩ = some (.int .i64 d.size) ∧ w'.cell? ⟨b, off + k * 4 + 3, none⟩ = some d.bv := by
  obtain ⟨ao', cap', e, _, h4⟩ := h.form
  simp only [Value.slice.injEq, true_and] at e
  obtain ⟨rfl, rfl⟩ := e
  obtain ⟨b, off, rfl, hc⟩ := h4 (by rintro rfl; simp at hk)
  refine ⟨b, off, rfl, fun w' hm => ?_⟩
  obtain ⟨c0, c1, c2, c3⟩ := hc k d hk
  exact ⟨hm.cell c0 (fun h => h), hm.cell c1 (fun h => h), hm.cell c2 (fun h => h), hm.cell c3 (fun h => h)⟩
theorem Left_at {p : Nat} {v : Value} {l : List Int} {w : World} (h : Rd w p v l) (m : Nat) (hm : l.length = m) :
    Calls Try.prog 30 #[.pointer (some ⟨p, 0, none⟩)] w fun e w' => e = .returned (.int .i64 m) ∧ w' = w := by
  have c := Left_any p v l w h
  rwa [hm] at c
/-- What Get gives: an error and nothing is read, or a number whose bytes were read. -/
theorem get_facts {L : List Int} {x z e : Int} (hr : ∀ c ∈ L, 0 ≤ c ∧ c ≤ 255) (hN : num 0 0 L = (x, z, e)) :
    (e ≠ 0 ∧ x = 0 ∧ z = 0) ∨ (e = 0 ∧ 0 ≤ x ∧ x ≤ 9007199254740991 ∧ ∃ k : Nat, z = k ∧ 1 ≤ k ∧ k ≤ L.length ∧ enc x.toNat = L.take k) := by
  have h1 := num_size L 0 0
  have h2 := num_val L 0 0
  have h3 := num_back L 0 0 (by omega) hr
  rw [hN] at h1 h2 h3
  simp only at h1 h2 h3
  by_cases he : e = 0
  · right
    obtain ⟨y, hy, hb, _⟩ := h3 he
    clear h3
    refine ⟨he, by omega, by omega, z.toNat, by omega, by omega, by omega, ?_⟩
    have : x.toNat = y := by simp at hy; omega
    rw [this]
    simpa [enc] using hb
  · left
    clear h3
    exact ⟨he, by omega, by omega⟩
/-- What Fixed gives. -/
theorem fix_facts {L : List Int} {size : Int} (hr : ∀ c ∈ L, 0 ≤ c ∧ c ≤ 255) (hE : fixE size L = 0) :
    ∃ k : Nat, size = k ∧ 1 ≤ k ∧ k ≤ 8 ∧ k ≤ L.length ∧ fx (L.take k) ≤ 9223372036854775807 ∧ fx (L.take k) < 256 ^ k ∧ fenc k (fx (L.take k)) = L.take k := by
  unfold fixE at hE
  have ha : ¬ (size < 1 ∨ 8 < size) := by intro ha; rw [if_pos ha] at hE; omega
  rw [if_neg ha] at hE
  have ht : ¬ (L.length : Int) < size := by intro ha; rw [if_pos ha] at hE; omega
  rw [if_neg ht] at hE
  have hb : ¬ 9223372036854775807 < fx (L.take size.toNat) := by intro ha; rw [if_pos ha] at hE; omega
  obtain ⟨k, rfl⟩ := Int.eq_ofNat_of_zero_le (a := size) (by omega)
  rw [Int.toNat_natCast] at hb
  have hl : (L.take k).length = k := by simp; omega
  have hf := fenc_fx (L.take k) (fun c hc => hr c (List.mem_of_mem_take hc))
  rw [hl] at hf
  exact ⟨k, rfl, by omega, by omega, by omega, by omega, fx_lt L hr k (by omega), hf⟩
/-- What Octets gives. -/
theorem oct_facts {L : List Int} {most x z e : Int} (hr : ∀ c ∈ L, 0 ≤ c ∧ c ≤ 255) (hN : num 0 0 L = (x, z, e)) (hE : octE most L = 0) :
    e = 0 ∧ ∃ n k : Nat, x = n ∧ z = k ∧ 1 ≤ k ∧ k + n ≤ L.length ∧ ((L.drop k).take n).length = n ∧ enc n ++ (L.drop k).take n = L.take (k + n) := by
  unfold octE at hE
  rw [hN] at hE
  simp only at hE
  have he : e = 0 := by
    rcases Classical.em (e = 0) with h | h
    · exact h
    · rw [if_pos h] at hE; exact absurd hE h
  subst he
  simp only [ne_eq, not_true_eq_false, if_false] at hE
  have hm : ¬ most < x := by intro h; rw [if_pos h] at hE; omega
  rw [if_neg hm] at hE
  have ht : ¬ (L.length : Int) - z < x := by intro h; rw [if_pos h] at hE; omega
  rcases get_facts hr hN with h | ⟨_, h0, _, k, rfl, h1, h2, h3⟩
  · exact absurd rfl h.1
  · obtain ⟨n, rfl⟩ := Int.eq_ofNat_of_zero_le h0
    rw [Int.toNat_natCast] at h3
    refine ⟨rfl, n, k, rfl, rfl, h1, by omega, by simp; omega, ?_⟩
    rw [h3, List.take_add]
theorem WFixed_zero {p : Nat} {w : World} (s : Int) (h : Wr w p (.slice none 0 0) []) (h1 : 1 ≤ s) (h8 : s ≤ 8) :
    Calls Try.prog 14 #[.pointer (some ⟨p, 0, none⟩), .int .i64 0, .int .i64 s] w fun e w' => e = .returned (.int .i64 0) ∧ ∃ _v' : Value, Mod (fun k => k = p ∨ (Value.slice none 0 0).ownBlock = some k) w w' := by
  have hE : fwE 0 s = 0 := by
    unfold fwE
    rw [if_neg (by omega), if_neg]
    intro h
    have := Int.pow_pos (n := 256) (m := s.toNat) (by omega)
    omega
  refine (WFixed_ok p _ [] 0 s w h (by omega) hE (by simp)).mono ?_
  rintro e w' ⟨rfl, v', _, hm, _⟩
  exact ⟨rfl, v', hm⟩
end Go.Proofs.Ytfinaabhmdnjfaa
