/- For TwinWell: a lane that is never behind stays well; frames that come one behind the other are new; two twins side by side. No conditions. -/
import Derived.Test.YtlkkbfcedjedoaaTbr
namespace Go.Proofs.Ytlkkbfcedjedoaa
open Go.RowKit
theorem gr_le (c : Nat → Int) (m : Nat) (M : Int) (hM : 0 ≤ M) : ∀ z, (∀ k, k < z → c k ≤ M) → gr c m z ≤ M
  | 0, _ => by simpa [gr] using hM
  | z + 1, h => by
    have h1 := gr_le c m M hM z (fun k hk => h k (by omega))
    have h2 := h z (by omega)
    rw [gr]
    split <;> omega
/-- The lane d is not behind. -/
def Stv (d : Int) (b : Tn) (s : Nat) : Prop := b.sz = 3 ∧ b.f s = false ∧ ∀ k, k < 3 → k ≠ s → b.c k + d ≤ b.c s
theorem stay {N : Nat} {b : Tn} {s : Nat} (ok : OkT N b) (_hs : s < 3) (hz : b.sz = 3) (hf : b.f s = false) (h : ∀ k, k < 3 → b.c k ≤ b.c s) : b.look.f s = false := by
  show b.lkf b.sz s = false
  have ht : b.top ≤ b.c s := gr_le _ _ _ (ok.c s).1 _ (fun k hk => h k (by omega))
  unfold Tn.lkf
  rw [if_neg (by omega)]
  exact hf
theorem Stv.same {N : Nat} {b : Tn} {s : Nat} (h : Stv 0 b s) (ok : OkT N b) (hs : s < 3) : Stv 1 (b.came s) s := by
  obtain ⟨h1, h2, h3⟩ := h
  have hc : ∀ k, k < 3 → k ≠ s → (b.cnt s).c k + 1 ≤ (b.cnt s).c s := fun k hk e => by
    have := h3 k hk e
    simp only [Tn.cnt, e, if_false, if_true]
    omega
  refine ⟨h1, stay (ok.cnt s) hs h1 h2 (fun k hk => ?_), hc⟩
  by_cases e : k = s
  · rw [e]; exact Int.le_refl _
  · have := hc k hk e; omega
theorem Stv.other {N : Nat} {b : Tn} {s k0 : Nat} (h : Stv 1 b s) (ok : OkT N b) (hs : s < 3) (hk : k0 ≠ s) : Stv 0 (b.came k0) s := by
  obtain ⟨h1, h2, h3⟩ := h
  have hc : ∀ k, k < 3 → k ≠ s → (b.cnt k0).c k + 0 ≤ (b.cnt k0).c s := fun k hk' e => by
    have := h3 k hk' e
    have e2 : ¬ s = k0 := fun e => hk e.symm
    by_cases e1 : k = k0
    · simp only [Tn.cnt, e1, e2, if_false, if_true]
      rw [e1] at this
      omega
    · simp only [Tn.cnt, e1, e2, if_false]
      omega
  refine ⟨h1, stay (ok.cnt k0) hs h1 h2 (fun k hk' => ?_), hc⟩
  by_cases e : k = s
  · rw [e]; exact Int.le_refl _
  · have := hc k hk' e; omega
theorem Stv.less {b : Tn} {s : Nat} (h : Stv 1 b s) : Stv 0 b s := ⟨h.1, h.2.1, fun k hk e => by have := h.2.2 k hk e; omega⟩
/-- Of the sender 5 all up to i were seen, none above. -/
def Kf (K : Int → Option Kw) (i : Int) : Prop := (i = 0 ∧ K 5 = none) ∨ (0 < i ∧ ∃ F, K 5 = some ⟨1, i, F⟩ ∧ ∀ m, i < m → F m = false)
theorem Kf.new {K : Int → Option Kw} {i : Int} (h : Kf K i) : nwB K 5 1 (1 + i) = true ∧ Kf (nwK K 5 1 (1 + i)) (1 + i) := by
  rcases h with ⟨hz, hK⟩ | ⟨hz, F, hK, hF⟩
  · refine ⟨by simp [nwB, hK], .inr ⟨by omega, see (fun _ => false) (1 + i) true, by simp [nwK, hK, updq], fun m hm => ?_⟩⟩
    simp [see]; omega
  · have hfr : fr i F (1 + i) = true := by simp [fr, hF (1 + i) (by omega)]; omega
    refine ⟨by simp [nwB, hK, hfr], .inr ⟨by omega, see F (1 + i) true, ?_, fun m hm => ?_⟩⟩
    · simp [nwK, hK, updq, hfr]; omega
    · simp [see, hF m (by omega)]; omega
theorem Kf.again {K : Int → Option Kw} {i : Int} (h : Kf K i) (h0 : 0 < i) : Kf (nwK K 5 1 i) i := by
  rcases h with ⟨hz, hK⟩ | ⟨hz, F, hK, hF⟩
  · omega
  · refine .inr ⟨hz, see F i (fr i F i), ?_, fun m hm => ?_⟩
    · simp [nwK, hK, updq]
    · simp [see, hF m hm]; omega
/-- Two twins side by side. -/
structure E2 (w0 w : World) (t u : Nat) (X Y : Nat → Prop) (a b : Tn) (Ka Kb : Int → Option Kw) (N : Nat) : Prop where
  m : Mod (fun _ => False) w0 w
  tt : Tw w t X a Ka
  ta : OkT N a
  uu : Tw w u Y b Kb
  ub : OkT N b
  dj : ∀ i, X i → ¬ Y i
  xg : ∀ i, X i → w0.heap.size ≤ i
  yg : ∀ i, Y i → w0.heap.size ≤ i
theorem E2.mod {w0 w w' : World} {t u : Nat} {X Y : Nat → Prop} {a b : Tn} {Ka Kb : Int → Option Kw} {N : Nat} (h : E2 w0 w t u X Y a b Ka Kb N) (hm : Mod (fun _ => False) w w') : E2 w0 w' t u X Y a b Ka Kb N :=
  ⟨h.m.and hm, h.tt.mod hm (fun _ _ h => h), h.ta, h.uu.mod hm (fun _ _ h => h), h.ub, h.dj, h.xg, h.yg⟩
theorem E2.t {w0 w w' : World} {t u : Nat} {X X' Y : Nat → Prop} {a a' b : Tn} {Ka Ka' Kb : Int → Option Kw} {N : Nat} (h : E2 w0 w t u X Y a b Ka Kb N) (hT : Tw w' t X' a' Ka') (ok : OkT (N + 1) a') (hm : Mod X w w') (hG : Gone w X X') : E2 w0 w' t u X' Y a' b Ka' Kb (N + 1) := by
  refine ⟨h.m.andX hm h.xg, hT, ok, h.uu.mod hm (fun i hi hx => h.dj i hx hi), h.ub.mono (by omega), fun i hi hy => ?_, hG.ge h.xg h.m.size, h.yg⟩
  rcases hG i hi with h1 | h1
  · exact h.dj i h1 hy
  · have := h.uu.lt i hy; omega
theorem E2.u {w0 w w' : World} {t u : Nat} {X Y Y' : Nat → Prop} {a b b' : Tn} {Ka Kb Kb' : Int → Option Kw} {N : Nat} (h : E2 w0 w t u X Y a b Ka Kb N) (hT : Tw w' u Y' b' Kb') (ok : OkT (N + 1) b') (hm : Mod Y w w') (hG : Gone w Y Y') : E2 w0 w' t u X Y' a b' Ka Kb' (N + 1) := by
  refine ⟨h.m.andX hm h.yg, h.tt.mod hm (fun i hi hx => h.dj i hi hx), h.ta.mono (by omega), hT, ok, fun i hi hy => ?_, h.xg, hG.ge h.yg h.m.size⟩
  rcases hG i hy with h1 | h1
  · exact h.dj i hi h1
  · have := h.tt.lt i hi; omega
theorem faulty_rng {N : Nat} {a : Tn} (ok : OkT N a) (hz : a.sz = 3) : on a.f true 3 < 7 := by
  obtain ⟨k, hk, hf⟩ := ok.well
  have h8 := on8 a.f true (z := 3) (by omega)
  have hb := on_bit a.f true (z := 3) (i := k) (by omega) (by omega)
  rcases (by omega : on a.f true 3 < 7 ∨ on a.f true 3 = 7) with h | h
  · exact h
  · rw [h, hf] at hb
    rcases (by omega : k = 0 ∨ k = 1 ∨ k = 2) with rfl | rfl | rfl <;> simp at hb
theorem not_faulty (f : Nat → Bool) : bits .andNot .i64 7 ((on f true 3 : Nat) : Int) = ((on f false 3 : Nat) : Int) := by
  cases h0 : f 0 <;> cases h1 : f 1 <;> cases h2 : f 2 <;> simp [on, h0, h1, h2] <;> decide
theorem not_bit {f : Nat → Bool} {s : Nat} (hs : s < 3) (h : f s = false) : (bits .and .i64 (((on f true 3 / 2 ^ s : Nat)) : Int) 1 == 1) = false := by
  have h8 := on8 f true (z := 3) (by omega)
  have hb := on_bit f true (z := 3) (i := s) (by omega) hs
  rw [and_one _ (Nat.lt_of_le_of_lt (Nat.div_le_self _ _) h8)]
  have : on f true 3 / 2 ^ s % 2 = 0 := by
    rw [h] at hb
    have : ¬ on f true 3 / 2 ^ s % 2 = 1 := fun e => by have := hb.1 e; cases this
    omega
  rw [this]
  rfl
end Go.Proofs.Ytlkkbfcedjedoaa
