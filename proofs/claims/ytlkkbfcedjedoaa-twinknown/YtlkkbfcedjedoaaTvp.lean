/- For TwinTurns: a frame above all that were seen is new; a twin beside an array of three ints; what the last loop reckons. No conditions. -/
import Derived.Test.YtlkkbfcedjedoaaTt
import Derived.Lib.MinMax
namespace Go.Proofs.Ytlkkbfcedjedoaa
open Go.RowKit
theorem Kf.up {K : Int → Option Kw} {T n : Int} (h : Kf K T) (h0 : 0 < n) (h1 : T < n) : nwB K 5 1 n = true ∧ Kf (nwK K 5 1 n) n := by
  rcases h with ⟨hz, hK⟩ | ⟨hz, F, hK, hF⟩
  · refine ⟨by simp [nwB, hK], .inr ⟨h0, see (fun _ => false) n true, by simp [nwK, hK, updq], fun m hm => ?_⟩⟩
    simp [see]; omega
  · have hfr : fr T F n = true := by simp [fr, hF n h1]; omega
    refine ⟨by simp [nwB, hK, hfr], .inr ⟨h0, see F n true, ?_, fun m hm => ?_⟩⟩
    · simp [nwK, hK, updq, hfr]; omega
    · simp [see, hF m (by omega)]; omega
/-- A twin that sends over one lane. -/
structure E1 (w0 w : World) (t : Nat) (X : Nat → Prop) (a : Tn) (K : Int → Option Kw) (N z : Nat) : Prop where
  m : Mod (fun _ => False) w0 w
  tt : Tw w t X a K
  ta : OkT N a
  xg : ∀ i, X i → w0.heap.size ≤ i
  ac : a.ac = false
  sz : a.sz = z
section
variable {w0 w : World} {t : Nat} {X : Nat → Prop} {a : Tn} {K : Int → Option Kw} {N z : Nat}
theorem E1.keep {w' : World} (h : E1 w0 w t X a K N z) (hm : Mod (fun _ => False) w w') : E1 w0 w' t X a K N z :=
  ⟨h.m.and hm, h.tt.mod hm (fun _ _ h => h), h.ta, h.xg, h.ac, h.sz⟩
theorem E1.mono {M : Nat} (h : E1 w0 w t X a K N z) (hm : N ≤ M) : E1 w0 w t X a K M z := ⟨h.m, h.tt, h.ta.mono hm, h.xg, h.ac, h.sz⟩
theorem E1.faulty (h : E1 w0 w t X a K N z) : Calls Try.prog 27 #[.pointer (some ⟨t, 0, none⟩)] w fun e w' => e = .returned (.int .i64 (on a.f true z : Nat)) ∧ w' = w := by
  have := tFaulty h.tt h.ta
  rwa [h.sz] at this
/-- A frame comes that is above all that were seen. -/
theorem E1.comes (h : E1 w0 w t X a K N z) (hN : N < 1000) {k : Nat} (hk : k < z) {v : Value} {n T : Int} (hv : Sl w v (paD 5 1 n [])) (hn : 0 < n ∧ n ≤ 1000) (hT : T < n) (hK : Kf K T) :
    Calls Try.prog 30 #[.pointer (some ⟨t, 0, none⟩), .int .i64 k, v] w fun e w' => ∃ X' K', e = .returned (.int .i64 1) ∧ E1 w0 w' t X' (a.came k) K' (N + 1) z ∧ Kf K' n := by
  obtain ⟨n1, n2⟩ := hK.up hn.1 hT
  refine (comes_fr h.tt (N := N) (by omega) h.ta k (by rw [h.sz]; exact hk) hv (by unfold okF; simp; omega)).mono ?_
  rintro e w' ⟨X', rfl, hT', hm, hG⟩
  rw [n1]
  exact ⟨X', _, rfl, ⟨h.m.andX hm h.xg, hT', h.ta.came k, hG.ge h.xg h.m.size, h.ac, h.sz⟩, n2⟩
theorem wr_eq (h : a.ac = false) : a.wrap = { a.ser with la := a.nx } := by
  have e : a.ser.ac = false := h
  show (if a.ser.ac = true then a.ser else { a.ser with la := a.ser.nx }) = _
  rw [if_neg (by rw [e]; exact Bool.false_ne_true)]
  rfl
theorem ov_eq (h : a.ac = false) : a.ser.over = 2 ^ a.nx := by
  unfold Tn.over
  have : a.ser.ac = false := h
  rw [this]
  rfl
theorem nx_ser (a : Tn) : a.ser.nx = a.nx := rfl
theorem wrap_f (h : a.ac = false) : a.wrap.f = a.f := by rw [wr_eq h]; rfl
theorem wrap_My {M : Nat → Int} (h : a.ac = false) (hM : My { a with la := a.nx } M) : My a.wrap M := by
  rw [wr_eq h]
  exact hM
end
/-- A twin, and three ints beside it. -/
structure EM (w0 w : World) (t mb : Nat) (X : Nat → Prop) (a : Tn) (K : Int → Option Kw) (N z : Nat) (c : Array Value) : Prop where
  e : E1 w0 w t X a K N z
  blk : Bk w mb 61 c
  mx : ¬ X mb
  mg : w0.heap.size ≤ mb
section
variable {w0 w : World} {t mb : Nat} {X : Nat → Prop} {a : Tn} {K : Int → Option Kw} {N z : Nat} {c : Array Value}
theorem EM.keep {w' : World} (h : EM w0 w t mb X a K N z c) (hm : Mod (fun _ => False) w w') : EM w0 w' t mb X a K N z c :=
  ⟨h.e.keep hm, h.blk.mod hm (fun h => h), h.mx, h.mg⟩
theorem EM.new (h : E1 w0 w t X a K N z) (c : Array Value) : EM w0 (w.alloc (.cells c 61)) t w.heap.size X a K N z c :=
  ⟨h.keep ((Mod.refl _ w).alloc _), Bk.new w c _, fun hx => by have := h.tt.lt _ hx; omega, h.m.size⟩
theorem EM.wrap (h : EM w0 w t mb X a K N z c) (hN : N < 1000) : Calls Try.prog 21 #[.pointer (some ⟨t, 0, none⟩), .slice none 0 0] w fun e w' => ∃ v', e = .returned (.tuple #[v', .int .i64 ((2 ^ a.nx : Nat) : Int), .int .i64 0]) ∧ EM w0 w' t mb X a.wrap K (N + 1) z c := by
  have H := tWrap_ok h.e.tt (N := N) (by omega) h.e.ta (.slice none 0 0) [] ((Own.nil _).sl (by simp)) (by simp)
  rw [ov_eq h.e.ac] at H
  refine H.mono ?_
  rintro e w' ⟨v', rfl, _, hT, hm, _⟩
  have hpx := h.e.tt.px
  have hsz : a.wrap.sz = z := by rw [wr_eq h.e.ac]; exact h.e.sz
  have hac : a.wrap.ac = false := by rw [wr_eq h.e.ac]; exact h.e.ac
  exact ⟨v', rfl, ⟨h.e.m.andX hm (fun i e => by rw [e]; exact h.e.xg t hpx), hT, h.e.ta.wrap, h.e.xg, hac, hsz⟩, h.blk.mod hm (fun e => h.mx (by rw [e]; exact hpx)), h.mx, h.mg⟩
theorem EM.store (h : EM w0 w t mb X a K N z c) (j : Nat) (v : Value) : EM w0 (w.setCell ⟨mb, j, none⟩ v) t mb X a K N z (c.setIfInBounds j v) := by
  have hm := (Mod.refl (fun x => x = mb) w).setCell ⟨mb, j, none⟩ v (.inl rfl)
  exact ⟨⟨h.e.m.andX hm (fun i e => by rw [e]; exact h.mg), h.e.tt.mod hm (fun b hx e => h.mx (by rw [← e]; exact hx)), h.e.ta, h.e.xg, h.e.ac, h.e.sz⟩, h.blk.set j v, h.mx, h.mg⟩
end
/-- Three numbers. -/
def m3 (a b c : Int) (k : Nat) : Int := if k = 0 then a else if k = 1 then b else if k = 2 then c else 0
theorem m3_cell {w : World} {mb : Nat} {a b c : Int} (h : Bk w mb 61 #[.int .i64 a, .int .i64 b, .int .i64 c]) (k : Nat) (hk : k < 3) : w.cell? ⟨mb, k, none⟩ = some (.int .i64 (m3 a b c k)) := by
  rcases (by omega : k = 0 ∨ k = 1 ∨ k = 2) with rfl | rfl | rfl <;> exact h.cellv rfl
theorem faulty_bit (f : Nat → Bool) {z s : Nat} (hz : z ≤ 3) (hs : s < z) : (bits .and .i64 (((on f true z : Nat) : Int) / 2 ^ s) 1 == 0) = !f s := by
  have h8 := on8 f true (z := z) hz
  have hb := on_bit f true (z := z) (i := s) hz hs
  rw [show ((on f true z : Nat) : Int) / 2 ^ s = ((on f true z / 2 ^ s : Nat) : Int) by simp]
  rw [and_one _ (Nat.lt_of_le_of_lt (Nat.div_le_self _ _) h8)]
  cases hf : f s
  · rw [hf] at hb
    have : on f true z / 2 ^ s % 2 = 0 := by
      have : ¬ on f true z / 2 ^ s % 2 = 1 := fun e => by have := hb.1 e; cases this
      omega
    rw [this]; rfl
  · rw [hf] at hb
    rw [hb.2 rfl]; rfl
theorem over_not (f : Nat → Bool) {z s : Nat} (hz : z ≤ 3) (hs : s < z) (hf : f s = false) : bits .and .i64 (((2 ^ s : Nat) : Int)) ((on f true z : Nat) : Int) = 0 := by
  rcases (by omega : z = 1 ∨ z = 2 ∨ z = 3) with rfl | rfl | rfl <;> rcases (by omega : s = 0 ∨ s = 1 ∨ s = 2) with rfl | rfl | rfl <;> (first | omega | skip) <;>
    cases h0 : f 0 <;> cases h1 : f 1 <;> cases h2 : f 2 <;> (first | (simp [on, h0, h1, h2]; done) | (simp [on, h0, h1, h2]; decide) | (rw [h0] at hf; cases hf; done) | (rw [h1] at hf; cases hf; done) | (rw [h2] at hf; cases hf; done))
/-- Of those that are well each has as many, but for one. -/
theorem My.near {N : Nat} {a : Tn} {M : Nat → Int} (h : My a M) (ok : OkT N a) (hr : ∀ k, k < 3 → 0 ≤ M k ∧ M k ≤ 301) : ∃ q : Int, -1 ≤ q ∧ q ≤ 301 ∧ ∀ k, k < a.sz → a.f k = false → q ≤ M k ∧ M k ≤ q + 1 := by
  obtain ⟨q, hq, hM⟩ := h
  obtain ⟨k, hk, hf⟩ := ok.well
  have hz := ok.sz
  have h1 := hM k hk hf
  have h2 := hr k (by omega)
  refine ⟨q, hq, by split at h1 <;> omega, fun j hj hfj => ?_⟩
  have := hM j hj hfj
  split at this <;> omega
theorem My.start3 (_z : Nat) {a : Tn} (h : a.la + 1 = a.sz) : My a (m3 0 0 0) := by
  have : m3 0 0 0 = fun _ => 0 := by funext k; simp [m3]
  rw [this]
  exact My.start h
end Go.Proofs.Ytlkkbfcedjedoaa
