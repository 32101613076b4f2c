/- Contract of twin's isNew. Conditions: a twin that New made; a frame that may be. -/
import Derived.Test.YtlkkbfcedjedoaaTg
import Derived.BigQuiet
namespace Go.Proofs.Ytlkkbfcedjedoaa
open Go.RowKit
open Go.Maps Go.WideShapes
/-- Whether a frame is new, and what is known behind it. -/
def nwB (K : Int → Option Kw) (s l n : Int) : Bool := match K s with
  | none => true
  | some z => if z.lf < l then true else if l < z.lf then false else fr z.t z.F n
def nwK (K : Int → Option Kw) (s l n : Int) : Int → Option Kw := match K s with
  | none => updq K s (some ⟨l, n, see (fun _ => false) n true⟩)
  | some z => if z.lf < l then updq K s (some ⟨l, n, see (fun _ => false) n true⟩) else if l < z.lf then K else updq K s (some ⟨z.lf, max z.t n, see z.F n (fr z.t z.F n)⟩)
set_option maxRecDepth 100000 in
set_option maxHeartbeats 1000000 in
theorem isNew_none {p : Nat} {X : Nat → Prop} {a : Tn} {K : Int → Option Kw} {w : World} (h : Tw w p X a K) (s l n : Int) (ao : Option Addr) (m cap : Nat) (hs : 1 ≤ s ∧ s ≤ 8) (hn : 1 ≤ n ∧ n ≤ 9007199254740991) (hk : K s = none) :
    Calls Try.prog 58 #[.pointer (some ⟨p, 0, none⟩), .agg #[.int .i64 s, .int .i64 l, .int .i64 n, .slice ao m cap]] w fun e w' => ∃ X', e = .returned (.bool true) ∧ Tw w' p X' a (updq K s (some ⟨l, n, see (fun _ => false) n true⟩)) ∧ Mod X w w' ∧ Gone w X X' := by
  obtain ⟨⟨B, Q, h1, h2, h3, h4, h5, h6⟩, h7⟩ := h
  have hM0 := (Mod.refl (fun _ => False) w).alloc (.cells #[.int .i64 s, .int .i64 l, .int .i64 n, .slice ao m cap] 24)
  have hF := Bk.new w #[.int .i64 s, .int .i64 l, .int .i64 n, .slice ao m cap] 24
  have hP := h1.mod hM0 (fun h => h)
  have hQ := h4.mod hM0 (fun h => h)
  generalize hW : w.alloc (.cells #[.int .i64 s, .int .i64 l, .int .i64 n, .slice ao m cap] 24) = W at *
  have c12 : W.cell? ⟨p, 12, none⟩ = some (.map (some B)) := hP.cellv (j := 12) rfl
  have f0 : W.cell? ⟨w.heap.size, 0, none⟩ = some (.int .i64 s) := hF.cellv (j := 0) rfl
  have f1 : W.cell? ⟨w.heap.size, 1, none⟩ = some (.int .i64 l) := hF.cellv (j := 1) rfl
  have lk : ∀ q, (Instr.lookup 70 (.map (some B)) (.int .i64 s) false).run Try.prog (W.drewN q) = .ok (.pointer none) (W.drewN q) := fun q => by
    have := (hQ.mod ((Mod.refl (fun _ => False) W).drewN q) (fun h => h)).look (k := s) (by unfold I64; omega)
    rw [hk] at this
    exact this
  have HN := sNew_any
  go_enter Try.func58, Try.ntmps58
  go_wp2_with (fail)
  go_quiet (fail)
  have hMa := (Mod.refl (fun _ => False) W).drewN nq
  replace f1 := hMa.cell f1 (fun h => h)
  clear lk f0 c12
  generalize W.drewN nq = W0 at *
  go_wp2_with (fail)
  go_quiet (fail)
  have hMb := hMa.trans ((Mod.refl (fun _ => False) W0).drewN nq) (V := fun _ => False) (fun _ _ h => h) (fun _ _ h => h)
  replace f1 := ((Mod.refl (fun _ => False) W0).drewN nq).cell f1 (fun h => h)
  generalize W0.drewN nq = W1 at *
  have hMc := hMb.drew
  have hMs := hMc.size
  replace f1 := ((Mod.refl (fun _ => False) W1).drew).cell f1 (fun h => h)
  go_wp2_with (fail)
  go_region_held3 (fun y => y.cell? ⟨w.heap.size, 1, none⟩ = some (.int .i64 l)) (first | with_reducible exact f1 | go_keep)
    ((go_at_call 77; refine (HN _).mono ?_; rintro e w2 ⟨v0, rfl, hS, hm2, hv0⟩; replace f1 := hm2.cell f1 (fun h => h)))
  have hM3 := (hMc.trans hm2 (V := fun _ => False) (fun _ _ h => h) (fun _ _ h => h)).alloc (.cells #[.int .i64 l, .pointer (some ⟨v0, 0, none⟩)] 123)
  have hS3 := hS.mod ((Mod.refl (fun _ => False) w2).alloc (.cells #[.int .i64 l, .pointer (some ⟨v0, 0, none⟩)] 123)) (fun h => h)
  have hN3 := Bk.new w2 #[.int .i64 l, .pointer (some ⟨v0, 0, none⟩)] 123
  have hv2 := hS.lt
  obtain ⟨q0, hq0⟩ : ∃ q0, q0 = w2.heap.size := ⟨_, rfl⟩
  rw [← hq0] at hN3 hv2
  have hsz := (hMc.trans hm2 (V := fun _ => False) (fun _ _ h => h) (fun _ _ h => h)).size
  go_wp2_with (fail)
  rw [← hq0]
  have HQ0 : Hid (q0 = w2.heap.size) := hq0
  clear hq0
  generalize w2.alloc (.cells #[.int .i64 l, .pointer (some ⟨v0, 0, none⟩)] 123) = W3 at *
  have hP3 := hP.mod hM3 (fun h => h)
  have hQ3 := hQ.mod hM3 (fun h => h)
  have hF3 := hF.mod hM3 (fun h => h)
  obtain ⟨w4, hrun, hQ4, ht4⟩ := (hQ3.mod ((Mod.refl (fun _ => False) W3).drew) (fun h => h)).store (k := s) (by omega) (by omega) q0
  have c12 : W3.cell? ⟨p, 12, none⟩ = some (.map (some B)) := hP3.cellv (j := 12) rfl
  have f0 : W3.cell? ⟨w.heap.size, 0, none⟩ = some (.int .i64 s) := hF3.cellv (j := 0) rfl
  clear hm2 hMc hMb hMa f1
  go_region
  have hm4 := (Mod.refl (fun i => i = B) W3.drew).turned ht4 (.inl rfl)
  have hBlt := h7 B h3
  have hplt := h7 p h2
  have hsW : W.heap.size = w.heap.size + 1 := by rw [← hW]; simp
  have hv0' : W.heap.size ≤ v0 := Nat.le_trans hMs hv0
  have hS4 := (hS3.mod ((Mod.refl (fun _ => False) W3).drew) (fun h => h)).mod hm4 (by omega)
  have hN4 := (hN3.mod ((Mod.refl (fun _ => False) W3).drew) (fun h => h)).mod hm4 (by omega)
  have hF4 := (hF3.mod ((Mod.refl (fun _ => False) W3).drew) (fun h => h)).mod hm4 (by omega)
  have hM4 : Mod (fun i => i = B) w w4 := hM0.trans ((hM3.drew).trans hm4 (V := fun i => i = B) (fun _ _ h => h.elim) (fun _ _ h => h)) (fun _ _ h => h.elim) (fun _ _ h => h)
  have q1 : w4.cell? ⟨q0, 1, none⟩ = some (.pointer (some ⟨v0, 0, none⟩)) := hN4.cellv (j := 1) rfl
  have f2 : w4.cell? ⟨w.heap.size, 2, none⟩ = some (.int .i64 n) := hF4.cellv (j := 2) rfl
  have HFr := sFresh_rise (hS4.mod ((Mod.refl (fun _ => False) w4).drew) (fun h => h)) (n := n) (by omega) (by omega)
  have hMd := (Mod.refl (fun _ => False) w4).drew
  replace q1 := hMd.cell q1 (fun h => h)
  replace f2 := hMd.cell f2 (fun h => h)
  have HI : Hid (w.heap.size + 1 ≤ v0 ∧ v0 < q0 ∧ B < w.heap.size ∧ p < w.heap.size) := ⟨by omega, hv2, hBlt, hplt⟩
  clear hrun c12 f0 hP hQ hF hP3 hQ3 hF3 hS3 hN3 hM3 hM0 hsW hv0' hv2 hsz hv0 hMs
  go_wp2_with (fail)
  go_region_held3 (fun y => y.cell? ⟨q0, 1, none⟩ = some (.pointer (some ⟨v0, 0, none⟩)) ∧ y.cell? ⟨w.heap.size, 2, none⟩ = some (.int .i64 n)) (first | with_reducible exact ⟨q1, f2⟩ | go_keep)
    ((go_at_call 78; refine HFr.mono ?_; rintro e w5 ⟨rfl, hS5, hm5⟩; replace q1 := hm5.cell q1 (by have := HI.out; show ¬ q0 = v0; omega); replace f2 := hm5.cell f2 (by have := HI.out; show ¬ w.heap.size = v0; omega)))
  go_wp2
  go_ret
  obtain ⟨i1, i2, i3, i4⟩ := HI.out
  have hme := hMd.trans hm5 (V := fun i => i = v0) (fun _ _ h => h.elim) (fun _ _ h => h)
  have hMM : Mod (fun i => i = B) w w5 := hM4.trans hme (fun _ _ h => h) (fun i hi h => by omega)
  have hlast : v0 < w5.heap.size ∧ q0 < w5.heap.size := ⟨hS5.lt, Nat.lt_of_lt_of_le hN4.lt hme.size⟩
  refine ⟨fun b => X b ∨ b = q0 ∨ b = v0, rfl, ⟨⟨B, updq Q s (q0, v0), h1.mod hMM (fun e => ?_), .inl h2, .inl h3, ?_, ?_, ?_⟩, ?_⟩, hMM.mono (fun i _ h => by rw [h]; exact h3), ?_⟩
  · subst e
    obtain ⟨es, clock, hb⟩ := h4.kind
    rw [h1.at'] at hb
    cases hb
  · have := hQ4.mod hme (by omega)
    have e : (fun k => Option.map (fun _ => (updq Q s (q0, v0) k).1) (updq K s (some ⟨l, n, see (fun _ => false) n true⟩) k)) = updq (fun k => Option.map (fun _ => (Q k).1) (K k)) s (some q0) := by
      funext k
      unfold updq
      by_cases ek : k = s <;> simp [ek]
    rw [e]
    exact this
  · intro k z hz
    unfold updq at hz ⊢
    by_cases ek : k = s
    · rw [if_pos ek] at hz ⊢
      cases hz
      exact ⟨hN4.mod hme (show ¬ q0 = v0 by omega), hS5, .inr (.inl rfl), .inr (.inr rfl)⟩
    · rw [if_neg ek] at hz ⊢
      obtain ⟨a1, a2, a3, a4⟩ := h5 k z hz
      refine ⟨a1.mod hMM (fun e => ?_), a2.mod hMM (fun e => ?_), .inl a3, .inl a4⟩
      · rw [e] at a1
        obtain ⟨es, clock, hb⟩ := h4.kind
        rw [a1.at'] at hb
        cases hb
      · rw [e] at a2
        obtain ⟨_, hb', _⟩ := a2
        obtain ⟨es, clock, hb⟩ := h4.kind
        rw [hb'] at hb
        cases hb
  · intro k j z z' hz hz' hkj
    have hlo : ∀ i y, K i = some y → (Q i).1 < w.heap.size ∧ (Q i).2 < w.heap.size := fun i y hy => ⟨h7 _ (h5 i y hy).2.2.1, h7 _ (h5 i y hy).2.2.2⟩
    unfold updq at hz hz' ⊢
    by_cases ek : k = s
    · by_cases ej : j = s
      · exact absurd (ek.trans ej.symm) hkj
      · rw [if_neg ej] at hz' ⊢
        rw [if_pos ek]
        have := hlo j z' hz'
        constructor <;> omega
    · by_cases ej : j = s
      · rw [if_neg ek] at hz ⊢
        rw [if_pos ej]
        have := hlo k z hz
        constructor <;> omega
      · rw [if_neg ek] at hz ⊢
        rw [if_neg ej] at hz' ⊢
        exact h6 k j z z' hz hz' hkj
  · rintro b (hb | hb | hb)
    · have := h7 b hb; have := hMM.size; omega
    · omega
    · omega
  · rintro b (hb | hb | hb)
    · exact .inl hb
    · exact .inr (by omega)
    · exact .inr (by omega)
set_option maxRecDepth 100000 in
set_option maxHeartbeats 1000000 in
theorem isNew_more {p : Nat} {X : Nat → Prop} {a : Tn} {K : Int → Option Kw} {w : World} (h : Tw w p X a K) (s l n : Int) (ao : Option Addr) (m cap : Nat) (hs : 1 ≤ s ∧ s ≤ 8) (hn : 1 ≤ n ∧ n ≤ 9007199254740991) (z : Kw) (hk : K s = some z) (hl : z.lf < l) :
    Calls Try.prog 58 #[.pointer (some ⟨p, 0, none⟩), .agg #[.int .i64 s, .int .i64 l, .int .i64 n, .slice ao m cap]] w fun e w' => ∃ X', e = .returned (.bool true) ∧ Tw w' p X' a (updq K s (some ⟨l, n, see (fun _ => false) n true⟩)) ∧ Mod X w w' ∧ Gone w X X' := by
  obtain ⟨⟨B, Q, h1, h2, h3, h4, h5, h6⟩, h7⟩ := h
  have hM0 := (Mod.refl (fun _ => False) w).alloc (.cells #[.int .i64 s, .int .i64 l, .int .i64 n, .slice ao m cap] 24)
  have hF := Bk.new w #[.int .i64 s, .int .i64 l, .int .i64 n, .slice ao m cap] 24
  have hP := h1.mod hM0 (fun h => h)
  have hQ := h4.mod hM0 (fun h => h)
  generalize hW : w.alloc (.cells #[.int .i64 s, .int .i64 l, .int .i64 n, .slice ao m cap] 24) = W at *
  have c12 : W.cell? ⟨p, 12, none⟩ = some (.map (some B)) := hP.cellv (j := 12) rfl
  have f0 : W.cell? ⟨w.heap.size, 0, none⟩ = some (.int .i64 s) := hF.cellv (j := 0) rfl
  have f1 : W.cell? ⟨w.heap.size, 1, none⟩ = some (.int .i64 l) := hF.cellv (j := 1) rfl
  have lk : ∀ q, (Instr.lookup 70 (.map (some B)) (.int .i64 s) false).run Try.prog (W.drewN q) = .ok (.pointer (some ⟨(Q s).1, 0, none⟩)) (W.drewN q) := fun q => by
    have := (hQ.mod ((Mod.refl (fun _ => False) W).drewN q) (fun h => h)).look (k := s) (by unfold I64; omega)
    rw [hk] at this
    exact this
  have hZ := ((h5 s z hk).1.mod hM0 (fun h => h))
  have z0 : W.cell? ⟨(Q s).1, 0, none⟩ = some (.int .i64 z.lf) := hZ.cellv (j := 0) rfl
  have hl' : ¬ l ≤ z.lf := by omega
  have HN := sNew_any
  clear hZ
  go_enter Try.func58, Try.ntmps58
  go_wp2_with (fail)
  go_quiet (fail)
  have hMa := (Mod.refl (fun _ => False) W).drewN nq
  replace f1 := hMa.cell f1 (fun h => h)
  replace z0 := hMa.cell z0 (fun h => h)
  clear lk f0 c12
  generalize W.drewN nq = W0 at *
  go_wp2_with (fail)
  go_quiet (fail)
  have hMb := hMa.trans ((Mod.refl (fun _ => False) W0).drewN nq) (V := fun _ => False) (fun _ _ h => h) (fun _ _ h => h)
  replace f1 := ((Mod.refl (fun _ => False) W0).drewN nq).cell f1 (fun h => h)
  generalize W0.drewN nq = W1 at *
  have hMc := hMb.drew
  have hMs := hMc.size
  replace f1 := ((Mod.refl (fun _ => False) W1).drew).cell f1 (fun h => h)
  go_wp2_with (fail)
  go_region_held3 (fun y => y.cell? ⟨w.heap.size, 1, none⟩ = some (.int .i64 l)) (first | with_reducible exact f1 | go_keep)
    ((go_at_call 77; refine (HN _).mono ?_; rintro e w2 ⟨v0, rfl, hS, hm2, hv0⟩; replace f1 := hm2.cell f1 (fun h => h)))
  have hM3 := (hMc.trans hm2 (V := fun _ => False) (fun _ _ h => h) (fun _ _ h => h)).alloc (.cells #[.int .i64 l, .pointer (some ⟨v0, 0, none⟩)] 123)
  have hS3 := hS.mod ((Mod.refl (fun _ => False) w2).alloc (.cells #[.int .i64 l, .pointer (some ⟨v0, 0, none⟩)] 123)) (fun h => h)
  have hN3 := Bk.new w2 #[.int .i64 l, .pointer (some ⟨v0, 0, none⟩)] 123
  have hv2 := hS.lt
  obtain ⟨q0, hq0⟩ : ∃ q0, q0 = w2.heap.size := ⟨_, rfl⟩
  rw [← hq0] at hN3 hv2
  have hsz := (hMc.trans hm2 (V := fun _ => False) (fun _ _ h => h) (fun _ _ h => h)).size
  go_wp2_with (fail)
  rw [← hq0]
  have HQ0 : Hid (q0 = w2.heap.size) := hq0
  clear hq0
  generalize w2.alloc (.cells #[.int .i64 l, .pointer (some ⟨v0, 0, none⟩)] 123) = W3 at *
  have hP3 := hP.mod hM3 (fun h => h)
  have hQ3 := hQ.mod hM3 (fun h => h)
  have hF3 := hF.mod hM3 (fun h => h)
  obtain ⟨w4, hrun, hQ4, ht4⟩ := (hQ3.mod ((Mod.refl (fun _ => False) W3).drew) (fun h => h)).store (k := s) (by omega) (by omega) q0
  have c12 : W3.cell? ⟨p, 12, none⟩ = some (.map (some B)) := hP3.cellv (j := 12) rfl
  have f0 : W3.cell? ⟨w.heap.size, 0, none⟩ = some (.int .i64 s) := hF3.cellv (j := 0) rfl
  clear hm2 hMc hMb hMa f1
  go_region
  have hm4 := (Mod.refl (fun i => i = B) W3.drew).turned ht4 (.inl rfl)
  have hBlt := h7 B h3
  have hplt := h7 p h2
  have hsW : W.heap.size = w.heap.size + 1 := by rw [← hW]; simp
  have hv0' : W.heap.size ≤ v0 := Nat.le_trans hMs hv0
  have hS4 := (hS3.mod ((Mod.refl (fun _ => False) W3).drew) (fun h => h)).mod hm4 (by omega)
  have hN4 := (hN3.mod ((Mod.refl (fun _ => False) W3).drew) (fun h => h)).mod hm4 (by omega)
  have hF4 := (hF3.mod ((Mod.refl (fun _ => False) W3).drew) (fun h => h)).mod hm4 (by omega)
  have hM4 : Mod (fun i => i = B) w w4 := hM0.trans ((hM3.drew).trans hm4 (V := fun i => i = B) (fun _ _ h => h.elim) (fun _ _ h => h)) (fun _ _ h => h.elim) (fun _ _ h => h)
  have q1 : w4.cell? ⟨q0, 1, none⟩ = some (.pointer (some ⟨v0, 0, none⟩)) := hN4.cellv (j := 1) rfl
  have f2 : w4.cell? ⟨w.heap.size, 2, none⟩ = some (.int .i64 n) := hF4.cellv (j := 2) rfl
  have HFr := sFresh_rise (hS4.mod ((Mod.refl (fun _ => False) w4).drew) (fun h => h)) (n := n) (by omega) (by omega)
  have hMd := (Mod.refl (fun _ => False) w4).drew
  replace q1 := hMd.cell q1 (fun h => h)
  replace f2 := hMd.cell f2 (fun h => h)
  have HI : Hid (w.heap.size + 1 ≤ v0 ∧ v0 < q0 ∧ B < w.heap.size ∧ p < w.heap.size) := ⟨by omega, hv2, hBlt, hplt⟩
  clear hrun c12 f0 hP hQ hF hP3 hQ3 hF3 hS3 hN3 hM3 hM0 hsW hv0' hv2 hsz hv0 hMs
  go_wp2_with (fail)
  go_region_held3 (fun y => y.cell? ⟨q0, 1, none⟩ = some (.pointer (some ⟨v0, 0, none⟩)) ∧ y.cell? ⟨w.heap.size, 2, none⟩ = some (.int .i64 n)) (first | with_reducible exact ⟨q1, f2⟩ | go_keep)
    ((go_at_call 78; refine HFr.mono ?_; rintro e w5 ⟨rfl, hS5, hm5⟩; replace q1 := hm5.cell q1 (by have := HI.out; show ¬ q0 = v0; omega); replace f2 := hm5.cell f2 (by have := HI.out; show ¬ w.heap.size = v0; omega)))
  go_wp2
  go_ret
  obtain ⟨i1, i2, i3, i4⟩ := HI.out
  have hme := hMd.trans hm5 (V := fun i => i = v0) (fun _ _ h => h.elim) (fun _ _ h => h)
  have hMM : Mod (fun i => i = B) w w5 := hM4.trans hme (fun _ _ h => h) (fun i hi h => by omega)
  have hlast : v0 < w5.heap.size ∧ q0 < w5.heap.size := ⟨hS5.lt, Nat.lt_of_lt_of_le hN4.lt hme.size⟩
  refine ⟨fun b => X b ∨ b = q0 ∨ b = v0, rfl, ⟨⟨B, updq Q s (q0, v0), h1.mod hMM (fun e => ?_), .inl h2, .inl h3, ?_, ?_, ?_⟩, ?_⟩, hMM.mono (fun i _ h => by rw [h]; exact h3), ?_⟩
  · subst e
    obtain ⟨es, clock, hb⟩ := h4.kind
    rw [h1.at'] at hb
    cases hb
  · have := hQ4.mod hme (by omega)
    have e : (fun k => Option.map (fun _ => (updq Q s (q0, v0) k).1) (updq K s (some ⟨l, n, see (fun _ => false) n true⟩) k)) = updq (fun k => Option.map (fun _ => (Q k).1) (K k)) s (some q0) := by
      funext k
      unfold updq
      by_cases ek : k = s <;> simp [ek]
    rw [e]
    exact this
  · intro k z' hz
    unfold updq at hz ⊢
    by_cases ek : k = s
    · rw [if_pos ek] at hz ⊢
      cases hz
      exact ⟨hN4.mod hme (show ¬ q0 = v0 by omega), hS5, .inr (.inl rfl), .inr (.inr rfl)⟩
    · rw [if_neg ek] at hz ⊢
      obtain ⟨a1, a2, a3, a4⟩ := h5 k z' hz
      refine ⟨a1.mod hMM (fun e => ?_), a2.mod hMM (fun e => ?_), .inl a3, .inl a4⟩
      · rw [e] at a1
        obtain ⟨es, clock, hb⟩ := h4.kind
        rw [a1.at'] at hb
        cases hb
      · rw [e] at a2
        obtain ⟨_, hb', _⟩ := a2
        obtain ⟨es, clock, hb⟩ := h4.kind
        rw [hb'] at hb
        cases hb
  · intro k j z1 z' hz hz' hkj
    have hlo : ∀ i y, K i = some y → (Q i).1 < w.heap.size ∧ (Q i).2 < w.heap.size := fun i y hy => ⟨h7 _ (h5 i y hy).2.2.1, h7 _ (h5 i y hy).2.2.2⟩
    unfold updq at hz hz' ⊢
    by_cases ek : k = s
    · by_cases ej : j = s
      · exact absurd (ek.trans ej.symm) hkj
      · rw [if_neg ej] at hz' ⊢
        rw [if_pos ek]
        have := hlo j z' hz'
        constructor <;> omega
    · by_cases ej : j = s
      · rw [if_neg ek] at hz ⊢
        rw [if_pos ej]
        have := hlo k z1 hz
        constructor <;> omega
      · rw [if_neg ek] at hz ⊢
        rw [if_neg ej] at hz' ⊢
        exact h6 k j z1 z' hz hz' hkj
  · rintro b (hb | hb | hb)
    · have := h7 b hb; have := hMM.size; omega
    · omega
    · omega
  · rintro b (hb | hb | hb)
    · exact .inl hb
    · exact .inr (by omega)
    · exact .inr (by omega)
set_option maxRecDepth 100000 in
set_option maxHeartbeats 1000000 in
theorem isNew_old {p : Nat} {X : Nat → Prop} {a : Tn} {K : Int → Option Kw} {w : World} (h : Tw w p X a K) (s l n : Int) (ao : Option Addr) (m cap : Nat) (hs : 1 ≤ s ∧ s ≤ 8) (z : Kw) (hk : K s = some z) (hl : l < z.lf) :
    Calls Try.prog 58 #[.pointer (some ⟨p, 0, none⟩), .agg #[.int .i64 s, .int .i64 l, .int .i64 n, .slice ao m cap]] w fun e w' => e = .returned (.bool false) ∧ Mod (fun _ => False) w w' := by
  obtain ⟨⟨B, Q, h1, h2, h3, h4, h5, h6⟩, h7⟩ := h
  have hM0 := (Mod.refl (fun _ => False) w).alloc (.cells #[.int .i64 s, .int .i64 l, .int .i64 n, .slice ao m cap] 24)
  have hF := Bk.new w #[.int .i64 s, .int .i64 l, .int .i64 n, .slice ao m cap] 24
  have hP := h1.mod hM0 (fun h => h)
  have hQ := h4.mod hM0 (fun h => h)
  generalize hW : w.alloc (.cells #[.int .i64 s, .int .i64 l, .int .i64 n, .slice ao m cap] 24) = W at *
  have c12 : W.cell? ⟨p, 12, none⟩ = some (.map (some B)) := hP.cellv (j := 12) rfl
  have f0 : W.cell? ⟨w.heap.size, 0, none⟩ = some (.int .i64 s) := hF.cellv (j := 0) rfl
  have f1 : W.cell? ⟨w.heap.size, 1, none⟩ = some (.int .i64 l) := hF.cellv (j := 1) rfl
  have lk : ∀ q, (Instr.lookup 70 (.map (some B)) (.int .i64 s) false).run Try.prog (W.drewN q) = .ok (.pointer (some ⟨(Q s).1, 0, none⟩)) (W.drewN q) := fun q => by
    have := (hQ.mod ((Mod.refl (fun _ => False) W).drewN q) (fun h => h)).look (k := s) (by unfold I64; omega)
    rw [hk] at this
    exact this
  have hZ := ((h5 s z hk).1.mod hM0 (fun h => h))
  have z0 : W.cell? ⟨(Q s).1, 0, none⟩ = some (.int .i64 z.lf) := hZ.cellv (j := 0) rfl
  have hl' : ¬ z.lf < l := by omega
  clear hZ h1 h2 h3 h4 h5 h6 h7
  generalize z.lf = zl at *
  generalize (Q s).1 = q0 at *
  go_enter Try.func58, Try.ntmps58
  go_wp2_with (fail)
  go_quiet (fail)
  have hMa := (Mod.refl (fun _ => False) W).drewN nq
  replace f1 := hMa.cell f1 (fun h => h)
  replace z0 := hMa.cell z0 (fun h => h)
  clear lk f0 c12
  generalize W.drewN nq = W0 at *
  go_wp2_with (fail)
  go_quiet (fail)
  have hMb := hMa.trans ((Mod.refl (fun _ => False) W0).drewN nq) (V := fun _ => False) (fun _ _ h => h) (fun _ _ h => h)
  replace f1 := ((Mod.refl (fun _ => False) W0).drewN nq).cell f1 (fun h => h)
  replace z0 := ((Mod.refl (fun _ => False) W0).drewN nq).cell z0 (fun h => h)
  generalize W0.drewN nq = W1 at *
  go_wp2_with (fail)
  go_quiet (fail)
  have hMc := hM0.trans (hMb.trans ((Mod.refl (fun _ => False) W1).drewN nq) (V := fun _ => False) (fun _ _ h => h) (fun _ _ h => h)) (V := fun _ => False) (fun _ _ h => h) (fun _ _ h => h)
  go_wp2
  go_ret
  exact ⟨rfl, hMc⟩
set_option maxRecDepth 100000 in
set_option maxHeartbeats 1000000 in
theorem isNew_same {p : Nat} {X : Nat → Prop} {a : Tn} {K : Int → Option Kw} {w : World} (h : Tw w p X a K) (s l n : Int) (ao : Option Addr) (m cap : Nat) (hs : 1 ≤ s ∧ s ≤ 8) (hn : 1 ≤ n ∧ n ≤ 9007199254740991) (z : Kw) (hk : K s = some z) (hl : l = z.lf) :
    Calls Try.prog 58 #[.pointer (some ⟨p, 0, none⟩), .agg #[.int .i64 s, .int .i64 l, .int .i64 n, .slice ao m cap]] w fun e w' => e = .returned (.bool (fr z.t z.F n)) ∧ Tw w' p X a (updq K s (some ⟨z.lf, max z.t n, see z.F n (fr z.t z.F n)⟩)) ∧ Mod X w w' := by
  obtain ⟨⟨B, Q, h1, h2, h3, h4, h5, h6⟩, h7⟩ := h
  have hM0 := (Mod.refl (fun _ => False) w).alloc (.cells #[.int .i64 s, .int .i64 l, .int .i64 n, .slice ao m cap] 24)
  have hF := Bk.new w #[.int .i64 s, .int .i64 l, .int .i64 n, .slice ao m cap] 24
  have hP := h1.mod hM0 (fun h => h)
  have hQ := h4.mod hM0 (fun h => h)
  generalize hW : w.alloc (.cells #[.int .i64 s, .int .i64 l, .int .i64 n, .slice ao m cap] 24) = W at *
  have c12 : W.cell? ⟨p, 12, none⟩ = some (.map (some B)) := hP.cellv (j := 12) rfl
  have f0 : W.cell? ⟨w.heap.size, 0, none⟩ = some (.int .i64 s) := hF.cellv (j := 0) rfl
  have f1 : W.cell? ⟨w.heap.size, 1, none⟩ = some (.int .i64 l) := hF.cellv (j := 1) rfl
  have lk : ∀ q, (Instr.lookup 70 (.map (some B)) (.int .i64 s) false).run Try.prog (W.drewN q) = .ok (.pointer (some ⟨(Q s).1, 0, none⟩)) (W.drewN q) := fun q => by
    have := (hQ.mod ((Mod.refl (fun _ => False) W).drewN q) (fun h => h)).look (k := s) (by unfold I64; omega)
    rw [hk] at this
    exact this
  have hZ := ((h5 s z hk).1.mod hM0 (fun h => h))
  have z0 : W.cell? ⟨(Q s).1, 0, none⟩ = some (.int .i64 z.lf) := hZ.cellv (j := 0) rfl
  have hl1 : ¬ z.lf < l := by omega
  have hl2 : ¬ l < z.lf := by omega
  have hSv := (h5 s z hk).2.1.mod hM0 (fun h => h)
  have q1 : W.cell? ⟨(Q s).1, 1, none⟩ = some (.pointer (some ⟨(Q s).2, 0, none⟩)) := hZ.cellv (j := 1) rfl
  have f2 : W.cell? ⟨w.heap.size, 2, none⟩ = some (.int .i64 n) := hF.cellv (j := 2) rfl
  have hE : fE n = 0 := by unfold fE; rw [if_neg (by omega)]
  have hFF : fF z.t z.F n = fr z.t z.F n := by unfold fF; rw [if_neg (by omega)]
  have hT : fT z.t n = max z.t n := by unfold fT; rw [if_neg (by omega)]
  have HFr : Hid (∀ W', Sv W' (Q s).2 z.t z.F → Calls Try.prog 78 #[.pointer (some ⟨(Q s).2, 0, none⟩), .int .i64 n] W' fun e w' => e = .returned (.tuple #[.bool (fr z.t z.F n), .int .i64 0]) ∧ Sv w' (Q s).2 (max z.t n) (see z.F n (fr z.t z.F n)) ∧ Mod (fun i => i = (Q s).2) W' w') := fun W' hW' => by
    have := sFresh_any hW' (n := n) (by omega)
    unfold fS at this
    rw [hE, hFF, hT] at this
    exact this
  have hv2 := h7 _ (h5 s z hk).2.2.2
  have hqv : ¬ (Q s).1 = (Q s).2 := fun e => by
    obtain ⟨a1, a2, _⟩ := h5 s z hk
    rw [e] at a1
    obtain ⟨_, hb, _⟩ := a2
    rw [a1.at'] at hb
    simp at hb
  clear hE hFF hT hl
  generalize hfr : fr z.t z.F n = FR at *
  generalize hzl : z.lf = zl at *
  go_enter Try.func58, Try.ntmps58
  go_wp2_with (fail)
  go_quiet (fail)
  have hMa := (Mod.refl (fun _ => False) W).drewN nq
  replace f1 := hMa.cell f1 (fun h => h)
  replace z0 := hMa.cell z0 (fun h => h)
  replace q1 := hMa.cell q1 (fun h => h)
  replace f2 := hMa.cell f2 (fun h => h)
  clear lk f0 c12
  generalize W.drewN nq = W0 at *
  go_wp2_with (fail)
  go_quiet (fail)
  have hMb := hMa.trans ((Mod.refl (fun _ => False) W0).drewN nq) (V := fun _ => False) (fun _ _ h => h) (fun _ _ h => h)
  replace f1 := ((Mod.refl (fun _ => False) W0).drewN nq).cell f1 (fun h => h)
  replace z0 := ((Mod.refl (fun _ => False) W0).drewN nq).cell z0 (fun h => h)
  replace q1 := ((Mod.refl (fun _ => False) W0).drewN nq).cell q1 (fun h => h)
  replace f2 := ((Mod.refl (fun _ => False) W0).drewN nq).cell f2 (fun h => h)
  generalize W0.drewN nq = W1 at *
  go_wp2_with (fail)
  go_quiet (fail)
  replace q1 := ((Mod.refl (fun _ => False) W1).drewN nq).cell q1 (fun h => h)
  replace f2 := ((Mod.refl (fun _ => False) W1).drewN nq).cell f2 (fun h => h)
  have hMc := (hMb.trans ((Mod.refl (fun _ => False) W1).drewN nq) (V := fun _ => False) (fun _ _ h => h) (fun _ _ h => h))
  generalize W1.drewN nq = W2 at *
  have hMd := hMc.drew
  have HF2 := HFr.out _ (hSv.mod hMd (fun h => h))
  replace q1 := ((Mod.refl (fun _ => False) W2).drew).cell q1 (fun h => h)
  replace f2 := ((Mod.refl (fun _ => False) W2).drew).cell f2 (fun h => h)
  clear HFr f1 z0
  go_wp2_with (fail)
  go_region_held3 (fun y => y.cell? ⟨(Q s).1, 1, none⟩ = some (.pointer (some ⟨(Q s).2, 0, none⟩)) ∧ y.cell? ⟨w.heap.size, 2, none⟩ = some (.int .i64 n)) (first | with_reducible exact ⟨q1, f2⟩ | go_keep)
    ((go_at_call 78; refine HF2.mono ?_; rintro e w5 ⟨rfl, hS5, hm5⟩; replace q1 := hm5.cell q1 hqv; replace f2 := hm5.cell f2 (by show ¬ w.heap.size = (Q s).2; omega)))
  go_wp2
  go_ret
  have hMM : Mod (fun i => i = (Q s).2) w w5 := hM0.trans (hMd.trans hm5 (V := fun i => i = (Q s).2) (fun _ _ h => h.elim) (fun _ _ h => h)) (fun _ _ h => h.elim) (fun _ _ h => h)
  obtain ⟨a1, a2, a3, a4⟩ := h5 s z hk
  have hkind : ∀ {b : Nat} {o : Obj}, w.heap[b]? = some o → (∀ s' : Nat, o ≠ .cells #[.int .i64 z.t, .int .u64 s'] 132 (0, 0)) → ¬ b = (Q s).2 := by
    intro b o hb ho e
    obtain ⟨s', hb', _⟩ := a2
    rw [e, hb'] at hb
    cases hb
    exact ho s' rfl
  refine ⟨rfl, ⟨⟨B, Q, h1.mod hMM (hkind h1.at' (by intro s'; simp [Tn.cells])), h2, h3, ?_, ?_, ?_⟩, fun b hb => Nat.lt_of_lt_of_le (h7 b hb) hMM.size⟩, hMM.mono (fun i _ h => by rw [h]; exact a4)⟩
  · obtain ⟨es, clock, hb⟩ := h4.kind
    have := h4.mod hMM (hkind hb (by intro s'; simp))
    have e : (fun k => Option.map (fun _ => (Q k).1) (updq K s (some ⟨zl, max z.t n, see z.F n FR⟩) k)) = (fun k => Option.map (fun _ => (Q k).1) (K k)) := by
      funext k
      unfold updq
      by_cases ek : k = s
      · rw [if_pos ek, ek, hk]; rfl
      · rw [if_neg ek]
    rw [e]
    exact this
  · intro k z' hz
    unfold updq at hz
    by_cases ek : k = s
    · rw [if_pos ek] at hz
      cases hz
      subst ek
      refine ⟨?_, hS5, a3, a4⟩
      have := a1.mod hMM hqv
      rw [hzl] at this
      exact this
    · rw [if_neg ek] at hz
      obtain ⟨b1, b2, b3, b4⟩ := h5 k z' hz
      exact ⟨b1.mod hMM (hkind b1.at' (by intro s'; simp)), b2.mod hMM (h6 k s z' z hz hk ek).2, b3, b4⟩
  · intro k j z1 z2 hz1 hz2 hkj
    have hex : ∀ i y, updq K s (some ⟨zl, max z.t n, see z.F n FR⟩) i = some y → ∃ y', K i = some y' := by
      intro i y hy
      unfold updq at hy
      by_cases ei : i = s
      · rw [ei]; exact ⟨z, hk⟩
      · rw [if_neg ei] at hy; exact ⟨y, hy⟩
    obtain ⟨y1, e1⟩ := hex k z1 hz1
    obtain ⟨y2, e2⟩ := hex j z2 hz2
    exact h6 k j y1 y2 e1 e2 hkj
/-- isNew: as the chapter says. -/
theorem isNew_any {p : Nat} {X : Nat → Prop} {a : Tn} {K : Int → Option Kw} {w : World} (h : Tw w p X a K) (s l n : Int) (ao : Option Addr) (m cap : Nat) (hs : 1 ≤ s ∧ s ≤ 8) (hn : 1 ≤ n ∧ n ≤ 9007199254740991) :
    Calls Try.prog 58 #[.pointer (some ⟨p, 0, none⟩), .agg #[.int .i64 s, .int .i64 l, .int .i64 n, .slice ao m cap]] w fun e w' => ∃ X', e = .returned (.bool (nwB K s l n)) ∧ Tw w' p X' a (nwK K s l n) ∧ Mod X w w' ∧ Gone w X X' := by
  cases hk : K s with
  | none =>
    have e1 : nwB K s l n = true := by simp [nwB, hk]
    have e2 : nwK K s l n = updq K s (some ⟨l, n, see (fun _ => false) n true⟩) := by simp [nwK, hk]
    rw [e1, e2]
    exact isNew_none h s l n ao m cap hs hn hk
  | some z =>
    by_cases h1 : z.lf < l
    · have e1 : nwB K s l n = true := by simp [nwB, hk, h1]
      have e2 : nwK K s l n = updq K s (some ⟨l, n, see (fun _ => false) n true⟩) := by simp [nwK, hk, h1]
      rw [e1, e2]
      exact isNew_more h s l n ao m cap hs hn z hk h1
    · by_cases h2 : l < z.lf
      · have e1 : nwB K s l n = false := by simp [nwB, hk, h1, h2]
        have e2 : nwK K s l n = K := by simp [nwK, hk, h1, h2]
        rw [e1, e2]
        refine (isNew_old h s l n ao m cap hs z hk h2).mono ?_
        rintro e w' ⟨rfl, hm⟩
        exact ⟨X, rfl, h.mod hm (fun _ _ h => h), hm.mono (fun _ _ h => h.elim), Gone.refl _ _⟩
      · have e1 : nwB K s l n = fr z.t z.F n := by simp [nwB, hk, h1, h2]
        have e2 : nwK K s l n = updq K s (some ⟨z.lf, max z.t n, see z.F n (fr z.t z.F n)⟩) := by simp [nwK, hk, h1, h2]
        rw [e1, e2]
        refine (isNew_same h s l n ao m cap hs hn z hk (by omega)).mono ?_
        rintro e w' ⟨rfl, hT, hm⟩
        exact ⟨X, rfl, hT, hm, Gone.refl _ _⟩
end Go.Proofs.Ytlkkbfcedjedoaa
