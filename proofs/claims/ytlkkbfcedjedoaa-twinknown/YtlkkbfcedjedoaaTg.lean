/- Contracts of twin's New, Wrap, Faulty, Reinstate. Conditions: a twin that New made; counts below 2^60. -/
import Derived.Test.YtlkkbfcedjedoaaTf
namespace Go.Proofs.Ytlkkbfcedjedoaa
open Go.RowKit
open Go.Maps Go.WideShapes
/-- The twin's own block turned alone. -/
theorem Tw.turn {X : Nat → Prop} {w w' : World} {p : Nat} {a a' : Tn} {K : Int → Option Kw} (h : Tw w p X a K) (H : ∀ B, Bk w p 72 (a.cells B) → Bk w' p 72 (a'.cells B)) (hm : Mod (fun i => i = p) w w') : Tw w' p X a' K := by
  obtain ⟨⟨B, Q, h1, h2, h3, h4, h5, h6⟩, h7⟩ := h
  refine ⟨⟨B, Q, H B h1, h2, h3, h4.mod hm ?_, fun k z hz => ?_, h6⟩, fun b hb => Nat.lt_of_lt_of_le (h7 b hb) hm.size⟩
  · rintro rfl
    obtain ⟨es, clock, hb⟩ := h4.kind
    rw [h1.at'] at hb
    cases hb
  obtain ⟨a1, a2, a3, a4⟩ := h5 k z hz
  refine ⟨a1.mod hm ?_, a2.mod hm ?_, a3, a4⟩
  · intro e
    rw [e] at a1
    have := a1.at'
    rw [h1.at'] at this
    simp [Tn.cells] at this
  · intro e
    rw [e] at a2
    obtain ⟨s, hb, _⟩ := a2
    rw [h1.at'] at hb
    simp [Tn.cells] at hb
theorem Tw.blk {X : Nat → Prop} {w : World} {p : Nat} {a : Tn} {K : Int → Option Kw} (h : Tw w p X a K) : ∃ B, Bk w p 72 (a.cells B) := by
  obtain ⟨⟨B, Q, h1, _⟩, _⟩ := h
  exact ⟨B, h1⟩
theorem Tw.px {X : Nat → Prop} {w : World} {p : Nat} {a : Tn} {K : Int → Option Kw} (h : Tw w p X a K) : X p := by
  obtain ⟨⟨B, Q, h1, h2, _⟩, _⟩ := h
  exact h2
/-- A new twin. -/
def tn0 (nd lf : Int) (z : Nat) (ac : Bool) : Tn := ⟨nd, lf, ac, fun _ => 0, fun _ => false, z, 0, z - 1⟩
set_option maxRecDepth 100000 in
set_option maxHeartbeats 1000000 in
theorem tNew_ok (nd lf : Int) (z : Nat) (ac : Bool) (w : World) (hf : okF nd lf 1 0 = true) (hz : 1 ≤ z ∧ z ≤ 3) : Calls Try.prog 18 #[.int .i64 nd, .int .i64 lf, .int .i64 z, .bool ac] w fun e w' => ∃ p X, e = .returned (.tuple #[.pointer (some ⟨p, 0, none⟩), .int .i64 0]) ∧ Tw w' p X (tn0 nd lf z ac) (fun _ => none) ∧ Mod (fun _ => False) w w' ∧ (∀ b, X b → w.heap.size ≤ b) := by
  have H := mayBe_any nd lf 1 none 0 0
  rw [hf] at H
  have hz1 : ¬ (z : Int) < 1 := by omega
  have hz3 : ¬ (3 : Int) < z := by omega
  have hmm := @run_makeMap Try.prog
  have hzc : Hid (((z - 1 : Nat) : Int) = (z : Int) - 1) := by show _ = _; omega
  go_enter Try.func18, Try.ntmps18
  go_wp2_with (fail)
  refine (H _).mono ?_
  rintro e w1 ⟨rfl, hm⟩
  have hM := ((Mod.refl (fun _ => False) w).alloc _).trans hm (V := fun _ => False) (fun _ _ h => h) (fun _ _ h => h)
  clear hm H hf
  go_wp2
  go_ret2
  refine ⟨w1.heap.size + 1, fun b => b = w1.heap.size + 1 ∨ b = w1.heap.size, rfl, ⟨⟨w1.heap.size, fun _ => (0, 0), ?_, .inl rfl, .inr rfl, ?_, (by intro k z h; cases h), (by intro k j z z' h; cases h)⟩, ?_⟩, (hM.alloc _).alloc _, ?_⟩
  · have := Bk.new2 w1 (.map #[] 0) ((tn0 nd lf z ac).cells w1.heap.size) 72
    unfold tn0 Tn.cells at this ⊢
    dsimp only at this ⊢
    rw [hzc.out] at this ⊢
    exact this
  · exact (Mq.new w1).mod ((Mod.refl (fun _ => False) _).alloc _) (fun h => h)
  · rintro b (rfl | rfl) <;> simp
    omega
  · rintro b (rfl | rfl) <;> (have := hM.size; omega)
theorem tNew_bad (nd lf z : Int) (ac : Bool) (w : World) (hf : okF nd lf 1 0 = false ∨ z < 1 ∨ 3 < z) : Calls Try.prog 18 #[.int .i64 nd, .int .i64 lf, .int .i64 z, .bool ac] w fun e w' => e = .returned (.tuple #[.pointer none, .int .i64 2]) ∧ Mod (fun _ => False) w w' := by
  have H := mayBe_any nd lf 1 none 0 0
  cases hk : okF nd lf 1 0 with
  | false =>
    rw [hk] at H
    clear hf
    go_enter Try.func18, Try.ntmps18
    go_wp2_with (fail)
    refine (H _).mono ?_
    rintro e w1 ⟨rfl, hm⟩
    go_wp2
    go_ret2
    exact ⟨rfl, ((Mod.refl (fun _ => False) w).alloc _).trans hm (V := fun _ => False) (fun _ _ h => h) (fun _ _ h => h)⟩
  | true =>
    rw [hk] at H
    have hz : z < 1 ∨ 3 < z := by rcases hf with h | h; rw [hk] at h; cases h; exact h
    clear hf
    by_cases h1 : z < 1
    · go_enter Try.func18, Try.ntmps18
      go_wp2_with (fail)
      refine (H _).mono ?_
      rintro e w1 ⟨rfl, hm⟩
      clear hz
      go_wp2
      go_ret2
      exact ⟨rfl, ((Mod.refl (fun _ => False) w).alloc _).trans hm (V := fun _ => False) (fun _ _ h => h) (fun _ _ h => h)⟩
    · have h3 : 3 < z := by omega
      clear hz
      go_enter Try.func18, Try.ntmps18
      go_wp2_with (fail)
      refine (H _).mono ?_
      rintro e w1 ⟨rfl, hm⟩
      go_wp2
      go_ret2
      exact ⟨rfl, ((Mod.refl (fun _ => False) w).alloc _).trans hm (V := fun _ => False) (fun _ _ h => h) (fun _ _ h => h)⟩
theorem tFaulty {p : Nat} {X : Nat → Prop} {N : Nat} {a : Tn} {K : Int → Option Kw} {w : World} (h : Tw w p X a K) (ok : OkT N a) : Calls Try.prog 27 #[.pointer (some ⟨p, 0, none⟩)] w fun e w' => e = .returned (.int .i64 (on a.f true a.sz : Nat)) ∧ w' = w := by
  obtain ⟨B, hB⟩ := h.blk
  have H1 := tNone hB ok.nd.1
  have H2 := tonly hB ok.sz.2 true
  clear h hB ok
  go_enter Try.func27, Try.ntmps27
  go_wp2_with (fail)
  refine H1.mono ?_
  rintro e w ⟨rfl, rfl⟩
  go_wp2_with (fail)
  refine H2.mono ?_
  rintro e w ⟨rfl, rfl⟩
  go_wp2
  go_ret
  exact ⟨rfl, rfl⟩
/-- The lanes that a frame goes over, and the twin behind it. -/
def Tn.over (a : Tn) : Nat := if a.ac then on a.f false a.sz else 2 ^ a.nx
def Tn.went (a : Tn) : Tn := if a.ac then a else { a with la := a.nx }
theorem tchoose {p B N : Nat} {a : Tn} {w : World} (h : Bk w p 72 (a.cells B)) (ok : OkT N a) : Calls Try.prog 54 #[.pointer (some ⟨p, 0, none⟩)] w fun e w' => e = .returned (.int .i64 (a.over : Nat)) ∧ Bk w' p 72 (a.went.cells B) ∧ Mod (fun i => i = p) w w' := by
  have c2 : w.cell? ⟨p, 2, none⟩ = some (.bool a.ac) := h.cellv (j := 2) rfl
  cases ha : a.ac with
  | true =>
    have H := tonly h ok.sz.2 false
    rw [ha] at c2
    have HO : Hid (a.over = on a.f false a.sz) := by show _ = _; simp [Tn.over, ha]
    have HW : Hid (a.went = a) := by show _ = _; simp [Tn.went, ha]
    have HB : Hid (Bk w p 72 (a.cells B)) := h
    rw [HO.out, HW.out]
    clear h ok
    go_enter Try.func54, Try.ntmps54
    go_wp2_with (fail)
    refine H.mono ?_
    rintro e w ⟨rfl, rfl⟩
    go_wp2
    go_ret
    exact ⟨rfl, HB.out, Mod.refl _ _⟩
  | false =>
    have H := tnext h ok
    rw [ha] at c2
    have hx := (nx_well ok).1
    have hs := ok.sz
    have HO : Hid (a.over = 2 ^ a.nx) := by show _ = _; simp [Tn.over, ha]
    have HW : Hid (a.went = { a with la := a.nx }) := by show _ = _; simp [Tn.went, ha]
    have HB : Hid (Bk (w.setCell ⟨p, 11, none⟩ (.int .i64 (a.nx : Nat))) p 72 (({ a with la := a.nx } : Tn).cells B)) := h.set 11 _
    have f11 := h.frz 11
    have c11 : w.cell? ⟨p, 11, none⟩ = some (.int .i64 a.la) := h.cellv (j := 11) rfl
    rw [HO.out, HW.out]
    clear h ok
    have hx3 : a.nx < 3 := by omega
    generalize a.nx = x at *
    rcases (by omega : x = 0 ∨ x = 1 ∨ x = 2) with rfl | rfl | rfl
    all_goals
      go_enter Try.func54, Try.ntmps54
      go_wp2_with (fail)
      refine H.mono ?_
      rintro e w ⟨rfl, rfl⟩
      go_wp2
      go_ret
      exact ⟨rfl, HB.out, (Mod.refl _ _).setCell _ _ (.inl rfl)⟩
end Go.Proofs.Ytlkkbfcedjedoaa
