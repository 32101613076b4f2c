/- For TwinOnce: what a receiver knows while a batch comes in, plainly; the two twins and the frames that wait, side by side in memory. No conditions. -/
import Derived.Test.YtlkkbfcedjedoaaTo
namespace Go.Proofs.Ytlkkbfcedjedoaa
open Go.RowKit
/-- All up to D are seen, and those above E up to T. -/
def Sn (K : Int → Option Kw) (D E T : Int) : Prop := (T = 0 ∧ K 1 = none) ∨ (0 < T ∧ ∃ F, K 1 = some ⟨9, T, F⟩ ∧ ∀ m, F m = (decide (1 ≤ m ∧ m ≤ D) || decide (E < m ∧ m ≤ T)))
theorem Sn.new {K : Int → Option Kw} {D E T : Int} (h : Sn K D E T) (h0 : 0 ≤ D) (hDE : D < E) (hT : T = D ∨ E < T) (h64 : T - E < 64) : nwB K 1 9 E = true ∧ Sn (nwK K 1 9 E) D (E - 1) (max T E) := by
  rcases h with ⟨hz, hK⟩ | ⟨hz, F, hK, hF⟩
  · refine ⟨by simp [nwB, hK], .inr ⟨by omega, see (fun _ => false) E true, ?_, fun m => ?_⟩⟩
    · simp [nwK, hK, updq]
      omega
    · simp only [see, Bool.false_or, Bool.and_true]
      rw [Bool.eq_iff_iff]
      simp
      omega
  · have hFE : F E = false := by
      rw [hF]
      simp
      omega
    have hfr : fr T F E = true := by simp [fr, hFE]; omega
    refine ⟨by simp [nwB, hK, hfr], .inr ⟨by omega, see F E true, ?_, fun m => ?_⟩⟩
    · simp [nwK, hK, updq, hfr]
    · simp only [see, hF, Bool.and_true]
      rw [Bool.eq_iff_iff]
      simp
      omega
theorem Sn.old {K : Int → Option Kw} {D E T : Int} (h : Sn K D E T) (h0 : 0 ≤ E) (hE : E + 1 ≤ T) : nwB K 1 9 (E + 1) = false ∧ Sn (nwK K 1 9 (E + 1)) D E T := by
  rcases h with ⟨hz, hK⟩ | ⟨hz, F, hK, hF⟩
  · omega
  · have hFE : F (E + 1) = true := by
      rw [hF]
      simp
      omega
    have hfr : fr T F (E + 1) = false := by simp [fr, hFE]
    refine ⟨by simp [nwB, hK, hfr], .inr ⟨hz, F, ?_, hF⟩⟩
    simp [nwK, hK, updq, hfr, see_not]
    omega
theorem Sn.end_ {K : Int → Option Kw} {D T : Int} (h : Sn K D D T) (h0 : 0 ≤ D) (hT : D ≤ T) : Sn K T T T := by
  rcases h with h | ⟨hz, F, hK, hF⟩
  · exact .inl h
  · refine .inr ⟨hz, F, hK, fun m => ?_⟩
    rw [hF, Bool.eq_iff_iff]
    simp
    omega
/-- Any base will do where nothing was seen of the batch yet. -/
theorem Sn.start {K : Int → Option Kw} {D E : Int} (h : Sn K D D D) (hE : D ≤ E) : Sn K D E D := by
  rcases h with h | ⟨hz, F, hK, hF⟩
  · exact .inl h
  · refine .inr ⟨hz, F, hK, fun m => ?_⟩
    rw [hF, Bool.eq_iff_iff]
    simp
    omega
theorem and_nat (x : Int) (y : Nat) (hy : y < 2 ^ 63) : bits .and .i64 x y = (((x % 2 ^ 64).toNat &&& y : Nat) : Int) := by
  have e : ((BitVec.ofInt 64 x &&& BitVec.ofInt 64 (y : Int)).toNat) = (x % 2 ^ 64).toNat &&& y := by
    rw [BitVec.toNat_and, BitVec.toNat_ofInt, BitVec.toNat_ofInt]
    congr 1
    omega
  have hle : (x % 2 ^ 64).toNat &&& y ≤ y := Nat.and_le_right
  show IntKind.i64.wrap ((BitVec.ofInt 64 x &&& BitVec.ofInt 64 (y : Int)).toNat : Nat) = _
  rw [e, IntKind.wrap_i64]
  omega
theorem and1_any (x : Int) : bits .and .i64 x 1 = 0 ∨ bits .and .i64 x 1 = 1 := by
  have h := and_nat x 1 (by omega)
  have hle : (x % 2 ^ 64).toNat &&& 1 ≤ 1 := Nat.and_le_right
  rw [show ((1 : Nat) : Int) = 1 from rfl] at h
  rw [h]
  omega
/-- The bytes of the frame with the number n. -/
def fb (n : Nat) : List Int := paD 1 9 n [(n : Int) - 1, 0]
theorem okfb {n : Nat} (h1 : 1 ≤ n) (h2 : n ≤ 200) : okF 1 9 n [(n : Int) - 1, 0].length = true := by
  unfold okF
  simp
  omega
/-- A sender s and a receiver t, and the frames that wait: those behind the first D. -/
structure Ev (w0 w : World) (s t : Nat) (X Y : Nat → Prop) (a b : Tn) (Ks Kt : Int → Option Kw) (N : Nat) (v : Value) (vs : List Value) (D : Nat) : Prop where
  m : Mod (fun _ => False) w0 w
  ts : Tw w s X a Ks
  os : OkT N a
  as_ : a.nd = 1 ∧ a.lf = 9 ∧ a.sz = 3 ∧ a.se = D + vs.length
  tt : Tw w t Y b Kt
  ot : OkT N b
  bs : b.sz = 3
  dj : ∀ i, X i → ¬ Y i
  xg : ∀ i, X i → w0.heap.size ≤ i
  yg : ∀ i, Y i → w0.heap.size ≤ i
  row : w.ownsRow 0 22 1 v vs.length vs
  rowx : ∀ g, v.ownBlock = some g → w0.heap.size ≤ g ∧ ¬ X g ∧ ¬ Y g
  el : ∀ k, k < vs.length → Sl w (vs.getD k undef) (fb (D + k + 1))
  elx : ∀ k g, k < vs.length → (vs.getD k undef).ownBlock = some g → g < w.heap.size ∧ ¬ X g ∧ ¬ Y g ∧ v.ownBlock ≠ some g
theorem row_mod {S : Nat → Prop} {w w' : World} {v : Value} {n : Nat} {xs : List Value} {e : TypeId} (h : w.ownsRow 0 e 1 v n xs) (hm : Mod S w w') (hv : ∀ g, v.ownBlock = some g → ¬ S g) : w'.ownsRow 0 e 1 v n xs := by
  obtain ⟨h1, h2⟩ := h
  refine ⟨h1, ?_⟩
  rcases h2 with h2 | ⟨g, cap, cur, rfl, hb, hg, r⟩
  · exact Or.inl h2
  · exact Or.inr ⟨g, cap, cur, rfl, hb, hm.obj hg (hv g rfl), r⟩
/-- The receiver takes one that waits. -/
theorem Ev.unwrap {w0 w : World} {s t : Nat} {X Y : Nat → Prop} {a b : Tn} {Ks Kt : Int → Option Kw} {N : Nat} {v : Value} {vs : List Value} {D : Nat} (h : Ev w0 w s t X Y a b Ks Kt N v vs D) (hN : N < 1000000) (lane k : Nat) (hl : lane < 3) (hk : k < vs.length) (hD : D + k + 1 ≤ 200) :
    Calls Try.prog 23 #[.pointer (some ⟨t, 0, none⟩), .int .i64 lane, vs.getD k undef] w fun e w' => ∃ ao cap Y', e = .returned (.tuple #[.slice ao 2 cap, .bool (nwB Kt 1 9 ((D + k + 1 : Nat) : Int)), .int .i64 0]) ∧ Ev w0 w' s t X Y' a (b.came lane) Ks (nwK Kt 1 9 ((D + k + 1 : Nat) : Int)) (N + 1) v vs D := by
  have hok := okfb (n := D + k + 1) (by omega) hD
  obtain ⟨_, eD⟩ := paD_ok hok
  obtain ⟨o1, o2, o3, o4, o5⟩ := op_forth hok
  have hlen := paD_len (s := 1) (l := 9) (n := ((D + k + 1 : Nat) : Int)) (B := [((D + k + 1 : Nat) : Int) - 1, 0]) (by simp)
  rw [← eD] at o1 o2 o3 o4 o5
  have H := tUnwrap_ok h.tt (N := N) (by omega) h.ot lane (by rw [h.bs]; exact hl) (vs.getD k undef) (fb (D + k + 1)) (h.el k hk) (by unfold fb; omega) o1
  refine H.mono ?_
  rintro e w' ⟨v', Y', rfl, ho, hg, hT, hm, hG⟩
  have e2 : opN (fb (D + k + 1)) 0 = 1 := o2
  have e3 : opN (fb (D + k + 1)) 1 = 9 := o3
  have e4 : opN (fb (D + k + 1)) 2 = ((D + k + 1 : Nat) : Int) := o4
  have e5 : opB (fb (D + k + 1)) = [((D + k + 1 : Nat) : Int) - 1, 0] := o5
  rw [e2, e3, e4] at hT ⊢
  rw [e5] at ho
  obtain ⟨ao, cap, rfl⟩ := ho.shape
  have hYs : ∀ i, i < w.heap.size → ¬ Y i → ¬ Y' i := fun i hi hn hy => by
    rcases hG i hy with h1 | h1
    · exact hn h1
    · omega
  refine ⟨ao, cap, Y', rfl, ?_⟩
  refine ⟨h.m.trans hm (fun _ _ h => h) (fun i hi hy => by have := h.yg i hy; omega), h.ts.mod hm (fun i hi => h.dj i hi), h.os.mono (by omega), h.as_, hT, h.ot.came lane, h.bs, fun i hi => hYs i (h.ts.lt i hi) (h.dj i hi), h.xg, fun i hi => ?_, row_mod h.row hm (fun g hg => (h.rowx g hg).2.2), fun g hg => ⟨(h.rowx g hg).1, (h.rowx g hg).2.1, hYs g (World.ownsRow.lt h.row g hg).2 (h.rowx g hg).2.2⟩, fun k hk => (h.el k hk).mod hm (fun g hg => (h.elx k g hk hg).2.2.1), fun k g hk hg => ?_⟩
  · rcases hG i hi with h1 | h1
    · exact h.yg i h1
    · have := h.m.size; omega
  · obtain ⟨x1, x2, x3, x4⟩ := h.elx k g hk hg
    exact ⟨Nat.lt_of_lt_of_le x1 hm.size, x2, hYs g x1 x3, x4⟩
/-- What waits is none any more. -/
theorem Ev.gone {w0 w : World} {s t : Nat} {X Y : Nat → Prop} {a b : Tn} {Ks Kt : Int → Option Kw} {N : Nat} {v : Value} {vs : List Value} {D : Nat} (h : Ev w0 w s t X Y a b Ks Kt N v vs D) : Ev w0 w s t X Y a b Ks Kt N (.slice none 0 0) [] (D + vs.length) :=
  ⟨h.m, h.ts, h.os, ⟨h.as_.1, h.as_.2.1, h.as_.2.2.1, by rw [h.as_.2.2.2]; simp⟩, h.tt, h.ot, h.bs, h.dj, h.xg, h.yg, World.ownsRow_nil _ _ _ _, by intro g hg; simp [Value.ownBlock] at hg, by intro k hk; simp at hk, by intro k g hk; simp at hk⟩
theorem went_same (a : Tn) : a.went.nd = a.nd ∧ a.went.lf = a.lf ∧ a.went.sz = a.sz ∧ a.went.se = a.se := by
  cases h : a.ac <;> simp [Tn.went, h]
theorem over_rng {N : Nat} {a : Tn} (h : OkT N a) : 1 ≤ a.over ∧ a.over ≤ 7 := by
  have hn := nx_well h
  have hz := h.sz
  unfold Tn.over
  split
  · obtain ⟨k, hk, hf⟩ := h.well
    have h8 := on8 a.f false hz.2
    have hb := (on_bit a.f false hz.2 hk).2 hf
    refine ⟨?_, by omega⟩
    rcases Nat.eq_zero_or_pos (on a.f false a.sz) with e | e
    · rw [e] at hb; simp at hb
    · exact e
  · have : a.nx < 3 := by omega
    rcases (by omega : a.nx = 0 ∨ a.nx = 1 ∨ a.nx = 2) with e | e | e <;> rw [e] <;> decide
/-- The sender wraps one more. -/
theorem Ev.wrap {w0 w : World} {s t : Nat} {X Y : Nat → Prop} {a b : Tn} {Ks Kt : Int → Option Kw} {N : Nat} {v : Value} {vs : List Value} {D : Nat} (h : Ev w0 w s t X Y a b Ks Kt N v vs D) (hN : N < 1000000) (u : Value) (hu : Sl w u [((D + vs.length : Nat) : Int), 0]) (hD : D + vs.length + 1 ≤ 200) :
    Calls Try.prog 21 #[.pointer (some ⟨s, 0, none⟩), u] w fun e w' => ∃ ao n cap ov, e = .returned (.tuple #[.slice ao n cap, .int .i64 ((ov : Nat) : Int), .int .i64 0]) ∧ (1 ≤ ov ∧ ov ≤ 7) ∧ Sl w' (.slice ao n cap) (fb (D + vs.length + 1)) ∧ (∀ g, (Value.slice ao n cap).ownBlock = some g → w.heap.size ≤ g ∧ g < w'.heap.size) ∧ Tw w' s X a.wrap Ks ∧ Mod (fun i => i = s) w w' := by
  obtain ⟨q1, q2, q3, q4⟩ := h.as_
  refine (tWrap_ok h.ts (N := N) (by omega) h.os u _ hu (by simp)).mono ?_
  rintro e w' ⟨x, rfl, ho, hT, hm, hg⟩
  have hok := okfb (n := D + vs.length + 1) (by omega) hD
  obtain ⟨_, eD⟩ := paD_ok hok
  have e1 : Sm.sealed (fby a.nd a.lf ((a.se : Int) + 1) [((D + vs.length : Nat) : Int), 0]) = fb (D + vs.length + 1) := by
    rw [q1, q2, q4]
    unfold fb
    rw [eD]
    have e2 : (((D + vs.length : Nat) : Int) + 1) = ((D + vs.length + 1 : Nat) : Int) := by omega
    have e3 : ((D + vs.length + 1 : Nat) : Int) - 1 = ((D + vs.length : Nat) : Int) := by omega
    rw [e2, e3]
  rw [e1] at ho
  have hr : ∀ c ∈ fb (D + vs.length + 1), 0 ≤ c ∧ c ≤ 255 := paD_rng (by intro c hc; simp only [List.mem_cons, List.not_mem_nil, or_false] at hc; rcases hc with rfl | rfl <;> omega)
  obtain ⟨ao, cap, rfl⟩ := ho.shape
  exact ⟨ao, _, cap, a.ser.over, rfl, over_rng h.os.ser, ho.sl hr, fun g h' => ⟨hg g h', ho.lt g h'⟩, hT, hm⟩
theorem getD_snoc (vs : List Value) (x : Value) (k : Nat) (hk : k < vs.length) : (vs ++ [x]).getD k undef = vs.getD k undef := by
  rw [List.getD_eq_getElem?_getD, List.getD_eq_getElem?_getD, List.getElem?_append_left hk]
theorem getD_last (vs : List Value) (x : Value) : (vs ++ [x]).getD vs.length undef = x := by simp
/-- .. and it waits. -/
theorem Ev.push {w0 w w' w1 : World} {s t : Nat} {X Y : Nat → Prop} {a b : Tn} {Ks Kt : Int → Option Kw} {N : Nat} {v v1 x : Value} {vs : List Value} {D : Nat} (h : Ev w0 w s t X Y a b Ks Kt N v vs D)
    (hx : Sl w' x (fb (D + vs.length + 1))) (hxg : ∀ g, x.ownBlock = some g → w.heap.size ≤ g ∧ g < w'.heap.size) (hT : Tw w' s X a.wrap Ks) (hm : Mod (fun i => i = s) w w') {o : Obj}
    (hrow : w1.ownsRow 0 22 1 v1 (vs.length + 1) (vs ++ [x])) (hgrow : (w'.alloc o).grownBy w1 v.ownBlock) (hv1 : ∀ g, v1.ownBlock = some g → v.ownBlock = some g ∨ g = w'.heap.size + 1) :
    Ev w0 w1 s t X Y a.wrap b Ks Kt (N + 1) v1 (vs ++ [x]) D := by
  have hpx := h.ts.px
  have hm1 : Mod (fun k => v.ownBlock = some k) w' w1 := ((Mod.refl _ w').alloc o).grown hgrow (fun k hk _ => hk)
  have hs1 := hm.size
  have hs2 := hm1.size
  have hnX : ∀ g, v.ownBlock = some g → ¬ X g ∧ ¬ Y g := fun g hg => (h.rowx g hg).2
  obtain ⟨q1, q2, q3, q4⟩ := h.as_
  obtain ⟨p1, p2, p3, p4⟩ := went_same a.ser
  have hlen : (vs ++ [x]).length = vs.length + 1 := by simp
  have hYw : ∀ i, Y i → ¬ i = s := fun i hy e => h.dj s hpx (e ▸ hy)
  refine ⟨(h.m.trans hm (V := fun _ => False) (fun _ _ h => h) (fun i hi e => by have := h.xg s hpx; omega)).trans hm1 (fun _ _ h => h) (fun i hi e => by have := (h.rowx i e).1; omega), hT.mod hm1 (fun i hi e => (hnX i e).1 hi), h.os.wrap, ?_, (h.tt.mod hm hYw).mod hm1 (fun i hi e => (hnX i e).2 hi), h.ot.mono (by omega), h.bs, h.dj, h.xg, h.yg, by rw [hlen]; exact hrow, fun g hg => ?_, fun k hk => ?_, fun k g hk hg => ?_⟩
  · rw [hlen]
    exact ⟨p1.trans q1, p2.trans q2, p3.trans q3, p4.trans (by show a.se + 1 = _; omega)⟩
  · rcases hv1 g hg with h1 | h1
    · exact h.rowx g h1
    · have := h.m.size
      refine ⟨by omega, fun e => ?_, fun e => ?_⟩
      · have := h.ts.lt g e; omega
      · have := h.tt.lt g e; omega
  · by_cases e : k < vs.length
    · rw [getD_snoc _ _ _ e]
      exact ((h.el k e).mod hm (fun g hg e' => (h.elx k g e hg).2.1 (e' ▸ hpx))).mod hm1 (fun g hg e' => (h.elx k g e hg).2.2.2 e')
    · have e1 : k = vs.length := by rw [hlen] at hk; omega
      subst e1
      rw [getD_last]
      exact hx.mod hm1 (fun g hg e' => by have := hxg g hg; have := (World.ownsRow.lt h.row g e').2; omega)
  · by_cases e : k < vs.length
    · rw [getD_snoc _ _ _ e] at hg
      obtain ⟨x1, x2, x3, x4⟩ := h.elx k g e hg
      refine ⟨by omega, x2, x3, fun e' => ?_⟩
      rcases hv1 g e' with h1 | h1
      · exact x4 h1
      · omega
    · have e1 : k = vs.length := by rw [hlen] at hk; omega
      subst e1
      rw [getD_last] at hg
      have hq := hxg g hg
      refine ⟨by omega, fun e' => ?_, fun e' => ?_, fun e' => ?_⟩
      · have := h.ts.lt g e'; omega
      · have := h.tt.lt g e'; omega
      · rcases hv1 g e' with h1 | h1
        · have := (World.ownsRow.lt h.row g h1).2; omega
        · omega
theorem Ev.mod {w0 w w' : World} {s t : Nat} {X Y : Nat → Prop} {a b : Tn} {Ks Kt : Int → Option Kw} {N : Nat} {v : Value} {vs : List Value} {D : Nat} (h : Ev w0 w s t X Y a b Ks Kt N v vs D) (hm : Mod (fun _ => False) w w') : Ev w0 w' s t X Y a b Ks Kt N v vs D :=
  ⟨h.m.and hm, h.ts.mod hm (fun _ _ h => h), h.os, h.as_, h.tt.mod hm (fun _ _ h => h), h.ot, h.bs, h.dj, h.xg, h.yg, row_mod h.row hm (fun _ _ h => h), h.rowx, fun k hk => (h.el k hk).mod hm (fun _ _ h => h), fun k g hk hg => ⟨Nat.lt_of_lt_of_le (h.elx k g hk hg).1 hm.size, (h.elx k g hk hg).2⟩⟩
/-- One that waits, in its cell. -/
theorem Ev.cell {w0 w : World} {s t : Nat} {X Y : Nat → Prop} {a b : Tn} {Ks Kt : Int → Option Kw} {N : Nat} {v : Value} {vs : List Value} {D : Nat} (h : Ev w0 w s t X Y a b Ks Kt N v vs D) (k : Nat) (hk : k < vs.length) : ∃ g cap, v = .slice (some ⟨g, 0, none⟩) vs.length cap ∧ w.cell? ⟨g, k, none⟩ = some (vs.getD k undef) := by
  obtain ⟨g, cap, hv, _⟩ := World.ownsRow.form h.row (by omega)
  refine ⟨g, cap, hv, ?_⟩
  have hr := h.row
  rw [hv] at hr
  rw [World.ownsRow.cellAt hr k (by omega)]
  simp [hk]
end Go.Proofs.Ytlkkbfcedjedoaa
