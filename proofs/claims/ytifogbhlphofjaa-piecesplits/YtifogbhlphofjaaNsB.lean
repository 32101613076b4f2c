/- PieceSplits: Split answers as the chapter says, of all messages and payloads. No conditions beyond sizes that a slice has. -/
import Derived.Test.YtifogbhlphofjaaXw
import Derived.Test.YtifogbhlphofjaaXf
import Derived.Test.YtifogbhlphofjaaXj
import Derived.Test.YtifogbhlphofjaaXk
import Derived.Test.YtifogbhlphofjaaRw
import Derived.ProofKit
import Derived.OpenShut
import Derived.Deep.Slices
import Derived.Deep.Strs
import Derived.Lib.SmallJoins
import Derived.SizedLaws
namespace Go.Proofs.Ytifogbhlphofjaa
open Go.RowKit Go.Maps
/-- A block of bytes that may be written. -/
def By (w : World) (g n : Nat) : Prop := ∃ cur, w.heap[g]? = some (.cells cur 5 (0, 0)) ∧ ∀ j, j < n → ∃ c, cur[j]? = some (.int .u8 c)
theorem By.cell {w : World} {g n : Nat} (h : By w g n) {j : Nat} (hj : j < n) : ∃ c, w.cell? ⟨g, j, none⟩ = some (.int .u8 c) ∧ w.frozen? ⟨g, j, none⟩ = false := by
  obtain ⟨cur, h1, h2⟩ := h
  obtain ⟨c, hc⟩ := h2 j hj
  exact ⟨c, by simp [World.cell?, h1, hc], by simp [World.frozen?, h1]⟩
theorem By.set {w : World} {g n : Nat} (h : By w g n) (j : Nat) (c : Int) : By (w.setCell ⟨g, j, none⟩ (.int .u8 c)) g n := by
  obtain ⟨cur, h1, h2⟩ := h
  refine ⟨cur.setIfInBounds j (.int .u8 c), by simp [World.setCell, Array.getElem?_modify, h1], fun t ht => ?_⟩
  obtain ⟨d, hd⟩ := h2 t ht
  rw [Array.getElem?_setIfInBounds]
  by_cases e : j = t
  · subst e
    rw [if_pos rfl]
    have : j < cur.size := by
      rcases Nat.lt_or_ge j cur.size with h | h
      · exact h
      · rw [Array.getElem?_eq_none h] at hd; cases hd
    rw [if_pos this]
    exact ⟨c, rfl⟩
  · rw [if_neg e]
    exact ⟨d, hd⟩
theorem By.mod {S : Nat → Prop} {w w' : World} {g n : Nat} (h : By w g n) (hm : Mod S w w') (hg : ¬ S g) : By w' g n := by
  obtain ⟨cur, h1, h2⟩ := h
  exact ⟨cur, hm.obj h1 hg, h2⟩
theorem Own.by {w : World} {v : Value} {l : List Int} (h : Own w v l) {g : Nat} (hg : v.ownBlock = some g) : By w g l.length := by
  rcases h.2 with ⟨rfl, _⟩ | ⟨g', cap, cur, rfl, hb, hh, hn, hm, hs, ht⟩
  · simp [Value.ownBlock] at hg
  · simp only [Value.ownBlock, Option.some.injEq] at hg
    subst hg
    refine ⟨cur, hh, fun j hj => ⟨l.getD j 0, ?_⟩⟩
    have := World.ownsRow.cellAt h j (by simp; omega)
    have h2 := U_get l j hj
    rw [h2] at this
    simpa [World.cell?, hh] using this
/-- What is read while bodies are turned, one behind the other. -/
structure Rx (w : World) (G H : Nat) (m : Ms) (n : Nat) (pl : List Int) (V V' : Nat → Value) (j : Nat) : Prop where
  cells : ∀ i, i < n → w.rangeAt G (i * 13) (mcl (prt m n pl i) (V i))
  sl : ∀ i, j ≤ i → i < n → Sl w (V i) (chunk pl i)
  oth : Rp w H m n pl V'
  by' : ∀ i, i < n → ∀ b, (V i).ownBlock = some b → By w b (chunk pl i).length
theorem Rx.mono {w : World} {G H : Nat} {m : Ms} {n : Nat} {pl : List Int} {V V' : Nat → Value} {j k : Nat} (h : Rx w G H m n pl V V' j) (hk : j ≤ k) : Rx w G H m n pl V V' k :=
  ⟨h.cells, fun i hi hn => h.sl i (by omega) hn, h.oth, h.by'⟩
theorem Rx.mod {w w' : World} {G H : Nat} {m : Ms} {n : Nat} {pl : List Int} {V V' : Nat → Value} {j : Nat} (h : Rx w G H m n pl V V' j) (hm : Mod (fun _ => False) w w') : Rx w' G H m n pl V V' j :=
  ⟨fun i hi t c hc => hm.cell (h.cells i hi t c hc) (fun h => h), fun i hi hn => (h.sl i hi hn).mod hm (fun _ _ h => h), h.oth.mod hm (fun h => h) (fun _ _ _ _ h => h), fun i hi b hb => (h.by' i hi b hb).mod hm (fun h => h)⟩
theorem Rx.set {w : World} {G H B : Nat} {m : Ms} {n : Nat} {pl : List Int} {V V' : Nat → Value} {j g : Nat} (h : Rx w G H m n pl V V' (j + 1)) (hj : j < n) (hg : (V j).ownBlock = some g) (hap : ∀ i i', i < n → i' < n → i ≠ i' → ∀ b, (V i).ownBlock = some b → (V i').ownBlock ≠ some b) (hVV : ∀ j, j < n → ∀ b, (V j).ownBlock = some b → b < B ∧ b ≠ G) (hH : B ≤ H) (hV' : ∀ j, j < n → ∀ b, (V' j).ownBlock = some b → B ≤ b) (t : Nat) (c : Int) :
    Rx (w.setCell ⟨g, t, none⟩ (.int .u8 c)) G H m n pl V V' (j + 1) := by
  have hm := (Mod.refl (fun b => b = g) w).setCell ⟨g, t, none⟩ (.int .u8 c) (.inl rfl)
  obtain ⟨g1, g2⟩ := hVV j hj g hg
  refine ⟨fun i hi t' c' hc => hm.cell (h.cells i hi t' c' hc) (fun e => g2 e.symm), fun i hi hn => (h.sl i hi hn).mod hm (fun b hb e => ?_), h.oth.mod hm (fun e => by omega) (fun i hi b hb e => ?_), fun i hi b hb => ?_⟩
  · rw [e] at hb
    exact hap j i hj hn (by omega) g hg hb
  · have := hV' i hi b hb
    omega
  · by_cases e : b = g
    · subst e
      exact (h.by' i hi b hb).set t c
    · exact (h.by' i hi b hb).mod hm e
end Go.Proofs.Ytifogbhlphofjaa
namespace Go.Proofs.Ytifogbhlphofjaa
open Go.RowKit Go.Maps
set_option maxRecDepth 100000 in
set_option maxHeartbeats 8000000 in
theorem splits_bad (k o lf i p ps g : Int) (s : Bool) (st rs rr sq : Int) (ao : Option Addr) (cap : Nat) (l : List Int) (ap : Option Addr) (cp : Nat) (pl : List Int) (w : World) (hs : Sl w (.slice ao l.length cap) l) (hl : l.length ≤ 140737488351232) (hp : Sl w (.slice ap pl.length cp) pl) (hpl : pl.length ≤ 140737488351232) (hB : isB ⟨k, o, lf, i, p, ps, g, s, st, rs, rr, sq, l⟩ = false) :
    Calls Try.prog 3 #[.agg #[.int .i64 k, .int .i64 o, .int .i64 lf, .int .i64 i, .int .i64 p, .int .i64 ps, .int .i64 g, .bool s, .int .i64 st, .int .i64 rs, .int .i64 rr, .int .i64 sq, .slice ao l.length cap], .slice ap pl.length cp] w fun e w' => e = .returned (.bool true) ∧ Mod (fun _ => False) w w' := by
  have hA := (Mod.refl (fun _ => False) w).alloc (.cells #[.int .i64 k, .int .i64 o, .int .i64 lf, .int .i64 i, .int .i64 p, .int .i64 ps, .int .i64 g, .bool s, .int .i64 st, .int .i64 rs, .int .i64 rr, .int .i64 sq, .slice ao l.length cap] 28)
  have hB0 := Bk.new w #[.int .i64 k, .int .i64 o, .int .i64 lf, .int .i64 i, .int .i64 p, .int .i64 ps, .int .i64 g, .bool s, .int .i64 st, .int .i64 rs, .int .i64 rr, .int .i64 sq, .slice ao l.length cap] 28
  have HC := dCopy k o lf i p ps g s st rs rr sq ao cap l _ (hs.mod hA (fun _ _ h => h)) (by omega)
  skip
  obtain ⟨b0, hb0⟩ : ∃ b, b = w.heap.size := ⟨_, rfl⟩
  rw [← hb0] at hB0
  go_enter Try.func3, Try.ntmps3
  go_wp2_with (fail)
  refine HC.mono ?_
  rintro e w1 ⟨a2, k2, rfl, ho2, hm1, hn1⟩
  clear HC
  replace hB0 := hB0.mod hm1 (fun h => h)
  have hM1 := hA.trans hm1 (V := fun _ => False) (fun _ _ h => h) (fun _ _ h => h)
  have HCB := copy_any _ pl w1 (hp.mod hM1 (fun _ _ h => h)) (by omega)
  go_wp2_with (fail)
  refine HCB.mono ?_
  rintro e w2 ⟨v6, rfl, ho6, hm2, hn6⟩
  clear HCB
  obtain ⟨a6, k6, e6⟩ := ho6.shape
  subst e6
  rw [← hb0]
  have HB0 : Hid (b0 = w.heap.size) := hb0
  clear hb0
  have hM2 := hM1.trans hm2 (V := fun _ => False) (fun _ _ h => h) (fun _ _ h => h)
  replace hB0 := hB0.mod hm2 (fun h => h)
  replace ho2 := ho2.mod hm2 (fun _ _ h => h)
  have hB5 := Bk.new w2 #[.int .i64 k, .int .i64 o, .int .i64 lf, .int .i64 i, .int .i64 p, .int .i64 ps, .int .i64 g, .bool s, .int .i64 st, .int .i64 rs, .int .i64 rr, .int .i64 sq, .slice a2 l.length k2] 28
  have hmA := (Mod.refl (fun _ => False) w2).alloc (.cells #[.int .i64 k, .int .i64 o, .int .i64 lf, .int .i64 i, .int .i64 p, .int .i64 ps, .int .i64 g, .bool s, .int .i64 st, .int .i64 rs, .int .i64 rr, .int .i64 sq, .slice a2 l.length k2] 28)
  have hMA := hM2.alloc (.cells #[.int .i64 k, .int .i64 o, .int .i64 lf, .int .i64 i, .int .i64 p, .int .i64 ps, .int .i64 g, .bool s, .int .i64 st, .int .i64 rs, .int .i64 rr, .int .i64 sq, .slice a2 l.length k2] 28)
  replace hB0 := hB0.mod hmA (fun h => h)
  replace ho2 := ho2.mod hmA (fun _ _ h => h)
  replace ho6 := ho6.mod hmA (fun _ _ h => h)
  have h6lt' : ∀ b, (Value.slice a6 pl.length k6).ownBlock = some b → b < w2.heap.size + 1 := fun b hb => by have := ho6.lt b hb; simpa using this
  obtain ⟨b5, hb5⟩ : ∃ b, b = w2.heap.size := ⟨_, rfl⟩
  rw [← hb5] at hB5
  have hr2 : ∀ c ∈ (l : List Int), 0 ≤ c ∧ c ≤ 255 := hs.rng
  have hr6 : ∀ c ∈ pl, 0 ≤ c ∧ c ≤ 255 := hp.rng
  have hn6' : ∀ b, (Value.slice a6 pl.length k6).ownBlock = some b → w.heap.size ≤ b := fun b hb => Nat.le_trans hM1.size (hn6 b hb)
  have HSp := Split_bad k o lf i p ps g s st rs rr sq a2 k2 l a6 k6 pl _ (ho2.sl hr2) hB
  go_wp2_with (fail)
  rw [← hb5]
  have HB5 : Hid (b5 = w2.heap.size) := hb5
  clear hb5
  have hsz3 : (w2.alloc (.cells #[.int .i64 k, .int .i64 o, .int .i64 lf, .int .i64 i, .int .i64 p, .int .i64 ps, .int .i64 g, .bool s, .int .i64 st, .int .i64 rs, .int .i64 rr, .int .i64 sq, .slice a2 l.length k2] 28)).heap.size = w2.heap.size + 1 := by simp
  generalize w2.alloc (.cells #[.int .i64 k, .int .i64 o, .int .i64 lf, .int .i64 i, .int .i64 p, .int .i64 ps, .int .i64 g, .bool s, .int .i64 st, .int .i64 rs, .int .i64 rr, .int .i64 sq, .slice a2 l.length k2] 28) = w3 at *
  have h6lt : ∀ b, (Value.slice a6 pl.length k6).ownBlock = some b → b < w3.heap.size := fun b hb => by rw [hsz3]; exact h6lt' b hb
  clear hsz3 h6lt'
  refine HSp.mono ?_
  rintro e w4 ⟨rfl, hm4⟩
  clear HSp
  have hM4 := hMA.trans hm4 (V := fun _ => False) (fun _ _ h => h) (fun _ _ h => h)
  replace hB0 := hB0.mod hm4 (fun h => h)
  replace hB5 := hB5.mod hm4 (fun h => h)
  replace ho2 := ho2.mod hm4 (fun _ _ h => h)
  replace ho6 := ho6.mod hm4 (fun _ _ h => h)
  have c0 : w4.cell? ⟨b0, 0, none⟩ = some (.int .i64 k) := hB0.cellv (j := 0) rfl
  have c1 : w4.cell? ⟨b0, 1, none⟩ = some (.int .i64 o) := hB0.cellv (j := 1) rfl
  have c2 : w4.cell? ⟨b0, 2, none⟩ = some (.int .i64 lf) := hB0.cellv (j := 2) rfl
  have c3 : w4.cell? ⟨b0, 3, none⟩ = some (.int .i64 i) := hB0.cellv (j := 3) rfl
  have c4 : w4.cell? ⟨b0, 4, none⟩ = some (.int .i64 p) := hB0.cellv (j := 4) rfl
  have c5 : w4.cell? ⟨b0, 5, none⟩ = some (.int .i64 ps) := hB0.cellv (j := 5) rfl
  have c6 : w4.cell? ⟨b0, 6, none⟩ = some (.int .i64 g) := hB0.cellv (j := 6) rfl
  have c7 : w4.cell? ⟨b0, 7, none⟩ = some (.bool s) := hB0.cellv (j := 7) rfl
  have c8 : w4.cell? ⟨b0, 8, none⟩ = some (.int .i64 st) := hB0.cellv (j := 8) rfl
  have c9 : w4.cell? ⟨b0, 9, none⟩ = some (.int .i64 rs) := hB0.cellv (j := 9) rfl
  have c10 : w4.cell? ⟨b0, 10, none⟩ = some (.int .i64 rr) := hB0.cellv (j := 10) rfl
  have c11 : w4.cell? ⟨b0, 11, none⟩ = some (.int .i64 sq) := hB0.cellv (j := 11) rfl
  have c12 : w4.cell? ⟨b0, 12, none⟩ = some (.slice ao l.length cap) := hB0.cellv (j := 12) rfl
  have HDp := dSplit_bad k o lf i p ps g s st rs rr sq ao cap l ap cp pl w4 (hs.mod hM4 (fun _ _ h => h)) hB
  go_wp2_with (fail)
  refine HDp.mono ?_
  rintro e w5 ⟨rfl, hm5⟩
  have HSm : ∀ W, Mod (fun b => (Value.slice a6 pl.length k6).ownBlock = some b) w5 W → _ := fun W (_ : Mod (fun b => (Value.slice a6 pl.length k6).ownBlock = some b) w5 W) => same_nil W
  clear HDp c0 c1 c2 c3 c4 c5 c6 c7 c8 c9 c10 c11 c12
  have hM5 := hM4.trans hm5 (V := fun _ => False) (fun _ _ h => h) (fun _ _ h => h)
  replace hB0 := hB0.mod hm5 (fun h => h)
  replace hB5 := hB5.mod hm5 (fun h => h)
  replace ho2 := ho2.mod hm5 (fun _ _ h => h)
  replace ho6 := ho6.mod hm5 (fun _ _ h => h)
  go_wp2_with (fail)
  refine (HSm w5 (Mod.refl _ _)).mono ?_
  rintro e w6 ⟨rfl, hm6⟩
  have hM6 := hM5.trans hm6 (V := fun _ => False) (fun _ _ h => h) (fun _ _ h => h)
  replace hB0 := hB0.mod hm6 (fun h => h)
  replace hB5 := hB5.mod hm6 (fun h => h)
  replace ho2 := ho2.mod hm6 (fun _ _ h => h)
  replace ho6 := ho6.mod hm6 (fun _ _ h => h)
  have c0 : w6.cell? ⟨b0, 0, none⟩ = some (.int .i64 k) := hB0.cellv (j := 0) rfl
  have c1 : w6.cell? ⟨b0, 1, none⟩ = some (.int .i64 o) := hB0.cellv (j := 1) rfl
  have c2 : w6.cell? ⟨b0, 2, none⟩ = some (.int .i64 lf) := hB0.cellv (j := 2) rfl
  have c3 : w6.cell? ⟨b0, 3, none⟩ = some (.int .i64 i) := hB0.cellv (j := 3) rfl
  have c4 : w6.cell? ⟨b0, 4, none⟩ = some (.int .i64 p) := hB0.cellv (j := 4) rfl
  have c5 : w6.cell? ⟨b0, 5, none⟩ = some (.int .i64 ps) := hB0.cellv (j := 5) rfl
  have c6 : w6.cell? ⟨b0, 6, none⟩ = some (.int .i64 g) := hB0.cellv (j := 6) rfl
  have c7 : w6.cell? ⟨b0, 7, none⟩ = some (.bool s) := hB0.cellv (j := 7) rfl
  have c8 : w6.cell? ⟨b0, 8, none⟩ = some (.int .i64 st) := hB0.cellv (j := 8) rfl
  have c9 : w6.cell? ⟨b0, 9, none⟩ = some (.int .i64 rs) := hB0.cellv (j := 9) rfl
  have c10 : w6.cell? ⟨b0, 10, none⟩ = some (.int .i64 rr) := hB0.cellv (j := 10) rfl
  have c11 : w6.cell? ⟨b0, 11, none⟩ = some (.int .i64 sq) := hB0.cellv (j := 11) rfl
  have c12 : w6.cell? ⟨b0, 12, none⟩ = some (.slice ao l.length cap) := hB0.cellv (j := 12) rfl
  have d0 : w6.cell? ⟨b5, 0, none⟩ = some (.int .i64 k) := hB5.cellv (j := 0) rfl
  have d1 : w6.cell? ⟨b5, 1, none⟩ = some (.int .i64 o) := hB5.cellv (j := 1) rfl
  have d2 : w6.cell? ⟨b5, 2, none⟩ = some (.int .i64 lf) := hB5.cellv (j := 2) rfl
  have d3 : w6.cell? ⟨b5, 3, none⟩ = some (.int .i64 i) := hB5.cellv (j := 3) rfl
  have d4 : w6.cell? ⟨b5, 4, none⟩ = some (.int .i64 p) := hB5.cellv (j := 4) rfl
  have d5 : w6.cell? ⟨b5, 5, none⟩ = some (.int .i64 ps) := hB5.cellv (j := 5) rfl
  have d6 : w6.cell? ⟨b5, 6, none⟩ = some (.int .i64 g) := hB5.cellv (j := 6) rfl
  have d7 : w6.cell? ⟨b5, 7, none⟩ = some (.bool s) := hB5.cellv (j := 7) rfl
  have d8 : w6.cell? ⟨b5, 8, none⟩ = some (.int .i64 st) := hB5.cellv (j := 8) rfl
  have d9 : w6.cell? ⟨b5, 9, none⟩ = some (.int .i64 rs) := hB5.cellv (j := 9) rfl
  have d10 : w6.cell? ⟨b5, 10, none⟩ = some (.int .i64 rr) := hB5.cellv (j := 10) rfl
  have d11 : w6.cell? ⟨b5, 11, none⟩ = some (.int .i64 sq) := hB5.cellv (j := 11) rfl
  have d12 : w6.cell? ⟨b5, 12, none⟩ = some (.slice a2 l.length k2) := hB5.cellv (j := 12) rfl
  have HSS := Same_eq k o lf i p ps g s st rs rr sq a2 ao k2 cap l w6 (ho2.sl hr2) (hs.mod hM6 (fun _ _ h => h))
  skip
  go_wp2_with (fail)
  refine HSS.mono ?_
  rintro e w7 ⟨rfl, hm7⟩
  clear HSS c0 c1 c2 c3 c4 c5 c6 c7 c8 c9 c10 c11 c12 d0 d1 d2 d3 d4 d5 d6 d7 d8 d9 d10 d11 d12
  have hM7 := hM6.trans hm7 (V := fun _ => False) (fun _ _ h => h) (fun _ _ h => h)
  replace ho6 := ho6.mod hm7 (fun _ _ h => h)
  have HEq := EqBytes_any _ _ pl pl w7 (ho6.sl hr6) (hp.mod hM7 (fun _ _ h => h))
  simp only [decide_true] at HEq
  go_wp2_with (fail)
  refine HEq.mono ?_
  rintro e w8 ⟨rfl, hm8⟩
  clear HEq
  have hM8 := hM7.trans hm8 (V := fun _ => False) (fun _ _ h => h) (fun _ _ h => h)
  replace ho6 := ho6.mod hm8 (fun _ _ h => h)
  have hby : ∀ b, (Value.slice a6 pl.length k6).ownBlock = some b → By w8 b pl.length := fun b hb => ho6.by hb
  clear hB0 hB5 ho2
  have hM58 := hm6.trans (hm7.trans hm8 (V := fun _ => False) (fun _ _ h => h) (fun _ _ h => h)) (V := fun _ => False) (fun _ _ h => h) (fun _ _ h => h)
  have hfo : 0 < pl.length → ∃ g6, a6 = some ⟨g6, 0, none⟩ := fun h0 => by
    obtain ⟨g6, c6, e, _⟩ := ho6.form h0
    simp only [Value.slice.injEq] at e
    exact ⟨g6, e.1⟩
  clear ho6
  have hpl2 : pl.length ≤ 140737488351232 := by omega
  go_wp2_with (fail)
  go_loopw [11] (fun ci wr => ∃ j : Nat, ci = .int .i64 (j : Int) ∧ j ≤ pl.length ∧ (∀ b, (Value.slice a6 pl.length k6).ownBlock = some b → By wr b pl.length) ∧ Mod (fun b => (Value.slice a6 pl.length k6).ownBlock = some b) w8 wr) (fun ci _ => pl.length - (intOf ci).toNat)
  case atStart => exact ⟨0, rfl, Nat.zero_le _, hby, Mod.refl _ _⟩
  case round =>
    obtain ⟨j, rfl, hj, hbr, hmr⟩ := hrel
    clear hby
    by_cases hjn : j < pl.length
    · have hjn' : (j : Int) < (pl.length : Int) := by go_light; omega
      have hjb' : (j : Int) < 140737488351232 := by go_light; omega
      obtain ⟨g6, e6⟩ := hfo (Nat.lt_of_le_of_lt (Nat.zero_le _) hjn)
      subst e6
      have hbg := hbr g6 rfl
      obtain ⟨cc, ck, fz⟩ := hbg.cell hjn
      have HBG : Hid (By wr g6 pl.length) := hbg
      clear hbr hbg
      have HJ : Hid (j < pl.length) := hjn
      go_wp2_with (fail)
      go_roundw
      case rel => exact ⟨j + 1, by go_num, HJ.out, fun b hb => by
        simp only [Value.ownBlock, Option.some.injEq] at hb
        subst hb
        exact HBG.out.set _ _, hmr.setCell _ _ (.inl rfl)⟩
      case measure => simp [intOf]; have := HJ.out; go_light; omega
    · have ej : j = pl.length := by go_light; omega
      have hji : ¬ (j : Int) < (pl.length : Int) := by go_light; omega
      have HEJ : Hid (j = pl.length) := ej
      clear ej hjn hj
      have hm5r : Mod (fun b => (Value.slice a6 pl.length k6).ownBlock = some b) w5 wr := hM58.trans hmr (fun _ _ h => h.elim) (fun _ _ h => h)
      have hMr : Mod (fun _ => False) w wr := hM8.trans hmr (fun _ _ h => h) (fun b hb e => absurd hb (Nat.not_lt.2 (hn6' b e)))
      go_wp2_with (fail)
      refine (HSm wr hm5r).mono ?_
      rintro e wa ⟨rfl, hma⟩
      have hMa := hMr.trans hma (V := fun _ => False) (fun _ _ h => h) (fun _ _ h => h)
      clear hbr hmr
      go_wp2_with (fail)
      go_loopw [12, 13] (fun ci c13 wz => ci = .int .i64 0 ∧ wz = wa) (fun _ _ _ => 0)
      case atStart => exact ⟨rfl, rfl⟩
      case round =>
        obtain ⟨rfl, ew⟩ := hrel
        subst ew
        go_wp2_with (fail)
        refine (works_any _).mono ?_
        rintro e wb ⟨rfl, hmb⟩
        go_wp2_with (fail)
        go_ret
        exact ⟨rfl, hMa.trans hmb (fun _ _ h => h) (fun _ _ h => h)⟩
end Go.Proofs.Ytifogbhlphofjaa
namespace Go.Proofs.Ytifogbhlphofjaa
open Go.RowKit Go.Maps
set_option maxRecDepth 100000 in
set_option maxHeartbeats 8000000 in
theorem splits_long (k o lf i p ps g : Int) (s : Bool) (st rs rr sq : Int) (ao : Option Addr) (cap : Nat) (l : List Int) (ap : Option Addr) (cp : Nat) (pl : List Int) (w : World) (hs : Sl w (.slice ao l.length cap) l) (hl : l.length ≤ 140737488351232) (hp : Sl w (.slice ap pl.length cp) pl) (hpl : pl.length ≤ 140737488351232) (hB : isB ⟨k, o, lf, i, p, ps, g, s, st, rs, rr, sq, l⟩ = true) (hL : 200 < pl.length) :
    Calls Try.prog 3 #[.agg #[.int .i64 k, .int .i64 o, .int .i64 lf, .int .i64 i, .int .i64 p, .int .i64 ps, .int .i64 g, .bool s, .int .i64 st, .int .i64 rs, .int .i64 rr, .int .i64 sq, .slice ao l.length cap], .slice ap pl.length cp] w fun e w' => e = .returned (.bool true) ∧ Mod (fun _ => False) w w' := by
  have hA := (Mod.refl (fun _ => False) w).alloc (.cells #[.int .i64 k, .int .i64 o, .int .i64 lf, .int .i64 i, .int .i64 p, .int .i64 ps, .int .i64 g, .bool s, .int .i64 st, .int .i64 rs, .int .i64 rr, .int .i64 sq, .slice ao l.length cap] 28)
  have hB0 := Bk.new w #[.int .i64 k, .int .i64 o, .int .i64 lf, .int .i64 i, .int .i64 p, .int .i64 ps, .int .i64 g, .bool s, .int .i64 st, .int .i64 rs, .int .i64 rr, .int .i64 sq, .slice ao l.length cap] 28
  have HC := dCopy k o lf i p ps g s st rs rr sq ao cap l _ (hs.mod hA (fun _ _ h => h)) (by omega)
  skip
  obtain ⟨b0, hb0⟩ : ∃ b, b = w.heap.size := ⟨_, rfl⟩
  rw [← hb0] at hB0
  go_enter Try.func3, Try.ntmps3
  go_wp2_with (fail)
  refine HC.mono ?_
  rintro e w1 ⟨a2, k2, rfl, ho2, hm1, hn1⟩
  clear HC
  replace hB0 := hB0.mod hm1 (fun h => h)
  have hM1 := hA.trans hm1 (V := fun _ => False) (fun _ _ h => h) (fun _ _ h => h)
  have HCB := copy_any _ pl w1 (hp.mod hM1 (fun _ _ h => h)) (by omega)
  go_wp2_with (fail)
  refine HCB.mono ?_
  rintro e w2 ⟨v6, rfl, ho6, hm2, hn6⟩
  clear HCB
  obtain ⟨a6, k6, e6⟩ := ho6.shape
  subst e6
  rw [← hb0]
  have HB0 : Hid (b0 = w.heap.size) := hb0
  clear hb0
  have hM2 := hM1.trans hm2 (V := fun _ => False) (fun _ _ h => h) (fun _ _ h => h)
  replace hB0 := hB0.mod hm2 (fun h => h)
  replace ho2 := ho2.mod hm2 (fun _ _ h => h)
  have hB5 := Bk.new w2 #[.int .i64 k, .int .i64 o, .int .i64 lf, .int .i64 i, .int .i64 p, .int .i64 ps, .int .i64 g, .bool s, .int .i64 st, .int .i64 rs, .int .i64 rr, .int .i64 sq, .slice a2 l.length k2] 28
  have hmA := (Mod.refl (fun _ => False) w2).alloc (.cells #[.int .i64 k, .int .i64 o, .int .i64 lf, .int .i64 i, .int .i64 p, .int .i64 ps, .int .i64 g, .bool s, .int .i64 st, .int .i64 rs, .int .i64 rr, .int .i64 sq, .slice a2 l.length k2] 28)
  have hMA := hM2.alloc (.cells #[.int .i64 k, .int .i64 o, .int .i64 lf, .int .i64 i, .int .i64 p, .int .i64 ps, .int .i64 g, .bool s, .int .i64 st, .int .i64 rs, .int .i64 rr, .int .i64 sq, .slice a2 l.length k2] 28)
  replace hB0 := hB0.mod hmA (fun h => h)
  replace ho2 := ho2.mod hmA (fun _ _ h => h)
  replace ho6 := ho6.mod hmA (fun _ _ h => h)
  have h6lt' : ∀ b, (Value.slice a6 pl.length k6).ownBlock = some b → b < w2.heap.size + 1 := fun b hb => by have := ho6.lt b hb; simpa using this
  obtain ⟨b5, hb5⟩ : ∃ b, b = w2.heap.size := ⟨_, rfl⟩
  rw [← hb5] at hB5
  have hr2 : ∀ c ∈ (l : List Int), 0 ≤ c ∧ c ≤ 255 := hs.rng
  have hr6 : ∀ c ∈ pl, 0 ≤ c ∧ c ≤ 255 := hp.rng
  have hn6' : ∀ b, (Value.slice a6 pl.length k6).ownBlock = some b → w.heap.size ≤ b := fun b hb => Nat.le_trans hM1.size (hn6 b hb)
  have HSp := Split_long k o lf i p ps g s st rs rr sq a2 k2 l a6 k6 pl _ (ho2.sl hr2) hB hL
  go_wp2_with (fail)
  rw [← hb5]
  have HB5 : Hid (b5 = w2.heap.size) := hb5
  clear hb5
  have hsz3 : (w2.alloc (.cells #[.int .i64 k, .int .i64 o, .int .i64 lf, .int .i64 i, .int .i64 p, .int .i64 ps, .int .i64 g, .bool s, .int .i64 st, .int .i64 rs, .int .i64 rr, .int .i64 sq, .slice a2 l.length k2] 28)).heap.size = w2.heap.size + 1 := by simp
  generalize w2.alloc (.cells #[.int .i64 k, .int .i64 o, .int .i64 lf, .int .i64 i, .int .i64 p, .int .i64 ps, .int .i64 g, .bool s, .int .i64 st, .int .i64 rs, .int .i64 rr, .int .i64 sq, .slice a2 l.length k2] 28) = w3 at *
  have h6lt : ∀ b, (Value.slice a6 pl.length k6).ownBlock = some b → b < w3.heap.size := fun b hb => by rw [hsz3]; exact h6lt' b hb
  clear hsz3 h6lt'
  refine HSp.mono ?_
  rintro e w4 ⟨rfl, hm4⟩
  clear HSp
  have hM4 := hMA.trans hm4 (V := fun _ => False) (fun _ _ h => h) (fun _ _ h => h)
  replace hB0 := hB0.mod hm4 (fun h => h)
  replace hB5 := hB5.mod hm4 (fun h => h)
  replace ho2 := ho2.mod hm4 (fun _ _ h => h)
  replace ho6 := ho6.mod hm4 (fun _ _ h => h)
  have c0 : w4.cell? ⟨b0, 0, none⟩ = some (.int .i64 k) := hB0.cellv (j := 0) rfl
  have c1 : w4.cell? ⟨b0, 1, none⟩ = some (.int .i64 o) := hB0.cellv (j := 1) rfl
  have c2 : w4.cell? ⟨b0, 2, none⟩ = some (.int .i64 lf) := hB0.cellv (j := 2) rfl
  have c3 : w4.cell? ⟨b0, 3, none⟩ = some (.int .i64 i) := hB0.cellv (j := 3) rfl
  have c4 : w4.cell? ⟨b0, 4, none⟩ = some (.int .i64 p) := hB0.cellv (j := 4) rfl
  have c5 : w4.cell? ⟨b0, 5, none⟩ = some (.int .i64 ps) := hB0.cellv (j := 5) rfl
  have c6 : w4.cell? ⟨b0, 6, none⟩ = some (.int .i64 g) := hB0.cellv (j := 6) rfl
  have c7 : w4.cell? ⟨b0, 7, none⟩ = some (.bool s) := hB0.cellv (j := 7) rfl
  have c8 : w4.cell? ⟨b0, 8, none⟩ = some (.int .i64 st) := hB0.cellv (j := 8) rfl
  have c9 : w4.cell? ⟨b0, 9, none⟩ = some (.int .i64 rs) := hB0.cellv (j := 9) rfl
  have c10 : w4.cell? ⟨b0, 10, none⟩ = some (.int .i64 rr) := hB0.cellv (j := 10) rfl
  have c11 : w4.cell? ⟨b0, 11, none⟩ = some (.int .i64 sq) := hB0.cellv (j := 11) rfl
  have c12 : w4.cell? ⟨b0, 12, none⟩ = some (.slice ao l.length cap) := hB0.cellv (j := 12) rfl
  have HDp := dSplit_long k o lf i p ps g s st rs rr sq ao cap l ap cp pl w4 (hs.mod hM4 (fun _ _ h => h)) hB hL
  go_wp2_with (fail)
  refine HDp.mono ?_
  rintro e w5 ⟨rfl, hm5⟩
  have HSm : ∀ W, Mod (fun b => (Value.slice a6 pl.length k6).ownBlock = some b) w5 W → _ := fun W (_ : Mod (fun b => (Value.slice a6 pl.length k6).ownBlock = some b) w5 W) => same_nil W
  clear HDp c0 c1 c2 c3 c4 c5 c6 c7 c8 c9 c10 c11 c12
  have hM5 := hM4.trans hm5 (V := fun _ => False) (fun _ _ h => h) (fun _ _ h => h)
  replace hB0 := hB0.mod hm5 (fun h => h)
  replace hB5 := hB5.mod hm5 (fun h => h)
  replace ho2 := ho2.mod hm5 (fun _ _ h => h)
  replace ho6 := ho6.mod hm5 (fun _ _ h => h)
  go_wp2_with (fail)
  refine (HSm w5 (Mod.refl _ _)).mono ?_
  rintro e w6 ⟨rfl, hm6⟩
  have hM6 := hM5.trans hm6 (V := fun _ => False) (fun _ _ h => h) (fun _ _ h => h)
  replace hB0 := hB0.mod hm6 (fun h => h)
  replace hB5 := hB5.mod hm6 (fun h => h)
  replace ho2 := ho2.mod hm6 (fun _ _ h => h)
  replace ho6 := ho6.mod hm6 (fun _ _ h => h)
  have c0 : w6.cell? ⟨b0, 0, none⟩ = some (.int .i64 k) := hB0.cellv (j := 0) rfl
  have c1 : w6.cell? ⟨b0, 1, none⟩ = some (.int .i64 o) := hB0.cellv (j := 1) rfl
  have c2 : w6.cell? ⟨b0, 2, none⟩ = some (.int .i64 lf) := hB0.cellv (j := 2) rfl
  have c3 : w6.cell? ⟨b0, 3, none⟩ = some (.int .i64 i) := hB0.cellv (j := 3) rfl
  have c4 : w6.cell? ⟨b0, 4, none⟩ = some (.int .i64 p) := hB0.cellv (j := 4) rfl
  have c5 : w6.cell? ⟨b0, 5, none⟩ = some (.int .i64 ps) := hB0.cellv (j := 5) rfl
  have c6 : w6.cell? ⟨b0, 6, none⟩ = some (.int .i64 g) := hB0.cellv (j := 6) rfl
  have c7 : w6.cell? ⟨b0, 7, none⟩ = some (.bool s) := hB0.cellv (j := 7) rfl
  have c8 : w6.cell? ⟨b0, 8, none⟩ = some (.int .i64 st) := hB0.cellv (j := 8) rfl
  have c9 : w6.cell? ⟨b0, 9, none⟩ = some (.int .i64 rs) := hB0.cellv (j := 9) rfl
  have c10 : w6.cell? ⟨b0, 10, none⟩ = some (.int .i64 rr) := hB0.cellv (j := 10) rfl
  have c11 : w6.cell? ⟨b0, 11, none⟩ = some (.int .i64 sq) := hB0.cellv (j := 11) rfl
  have c12 : w6.cell? ⟨b0, 12, none⟩ = some (.slice ao l.length cap) := hB0.cellv (j := 12) rfl
  have d0 : w6.cell? ⟨b5, 0, none⟩ = some (.int .i64 k) := hB5.cellv (j := 0) rfl
  have d1 : w6.cell? ⟨b5, 1, none⟩ = some (.int .i64 o) := hB5.cellv (j := 1) rfl
  have d2 : w6.cell? ⟨b5, 2, none⟩ = some (.int .i64 lf) := hB5.cellv (j := 2) rfl
  have d3 : w6.cell? ⟨b5, 3, none⟩ = some (.int .i64 i) := hB5.cellv (j := 3) rfl
  have d4 : w6.cell? ⟨b5, 4, none⟩ = some (.int .i64 p) := hB5.cellv (j := 4) rfl
  have d5 : w6.cell? ⟨b5, 5, none⟩ = some (.int .i64 ps) := hB5.cellv (j := 5) rfl
  have d6 : w6.cell? ⟨b5, 6, none⟩ = some (.int .i64 g) := hB5.cellv (j := 6) rfl
  have d7 : w6.cell? ⟨b5, 7, none⟩ = some (.bool s) := hB5.cellv (j := 7) rfl
  have d8 : w6.cell? ⟨b5, 8, none⟩ = some (.int .i64 st) := hB5.cellv (j := 8) rfl
  have d9 : w6.cell? ⟨b5, 9, none⟩ = some (.int .i64 rs) := hB5.cellv (j := 9) rfl
  have d10 : w6.cell? ⟨b5, 10, none⟩ = some (.int .i64 rr) := hB5.cellv (j := 10) rfl
  have d11 : w6.cell? ⟨b5, 11, none⟩ = some (.int .i64 sq) := hB5.cellv (j := 11) rfl
  have d12 : w6.cell? ⟨b5, 12, none⟩ = some (.slice a2 l.length k2) := hB5.cellv (j := 12) rfl
  have HSS := Same_eq k o lf i p ps g s st rs rr sq a2 ao k2 cap l w6 (ho2.sl hr2) (hs.mod hM6 (fun _ _ h => h))
  skip
  go_wp2_with (fail)
  refine HSS.mono ?_
  rintro e w7 ⟨rfl, hm7⟩
  clear HSS c0 c1 c2 c3 c4 c5 c6 c7 c8 c9 c10 c11 c12 d0 d1 d2 d3 d4 d5 d6 d7 d8 d9 d10 d11 d12
  have hM7 := hM6.trans hm7 (V := fun _ => False) (fun _ _ h => h) (fun _ _ h => h)
  replace ho6 := ho6.mod hm7 (fun _ _ h => h)
  have HEq := EqBytes_any _ _ pl pl w7 (ho6.sl hr6) (hp.mod hM7 (fun _ _ h => h))
  simp only [decide_true] at HEq
  go_wp2_with (fail)
  refine HEq.mono ?_
  rintro e w8 ⟨rfl, hm8⟩
  clear HEq
  have hM8 := hM7.trans hm8 (V := fun _ => False) (fun _ _ h => h) (fun _ _ h => h)
  replace ho6 := ho6.mod hm8 (fun _ _ h => h)
  have hby : ∀ b, (Value.slice a6 pl.length k6).ownBlock = some b → By w8 b pl.length := fun b hb => ho6.by hb
  clear hB0 hB5 ho2
  have hM58 := hm6.trans (hm7.trans hm8 (V := fun _ => False) (fun _ _ h => h) (fun _ _ h => h)) (V := fun _ => False) (fun _ _ h => h) (fun _ _ h => h)
  have hfo : 0 < pl.length → ∃ g6, a6 = some ⟨g6, 0, none⟩ := fun h0 => by
    obtain ⟨g6, c6, e, _⟩ := ho6.form h0
    simp only [Value.slice.injEq] at e
    exact ⟨g6, e.1⟩
  clear ho6
  have hpl2 : pl.length ≤ 140737488351232 := by omega
  go_wp2_with (fail)
  go_loopw [11] (fun ci wr => ∃ j : Nat, ci = .int .i64 (j : Int) ∧ j ≤ pl.length ∧ (∀ b, (Value.slice a6 pl.length k6).ownBlock = some b → By wr b pl.length) ∧ Mod (fun b => (Value.slice a6 pl.length k6).ownBlock = some b) w8 wr) (fun ci _ => pl.length - (intOf ci).toNat)
  case atStart => exact ⟨0, rfl, Nat.zero_le _, hby, Mod.refl _ _⟩
  case round =>
    obtain ⟨j, rfl, hj, hbr, hmr⟩ := hrel
    clear hby
    by_cases hjn : j < pl.length
    · have hjn' : (j : Int) < (pl.length : Int) := by go_light; omega
      have hjb' : (j : Int) < 140737488351232 := by go_light; omega
      obtain ⟨g6, e6⟩ := hfo (Nat.lt_of_le_of_lt (Nat.zero_le _) hjn)
      subst e6
      have hbg := hbr g6 rfl
      obtain ⟨cc, ck, fz⟩ := hbg.cell hjn
      have HBG : Hid (By wr g6 pl.length) := hbg
      clear hbr hbg
      have HJ : Hid (j < pl.length) := hjn
      go_wp2_with (fail)
      go_roundw
      case rel => exact ⟨j + 1, by go_num, HJ.out, fun b hb => by
        simp only [Value.ownBlock, Option.some.injEq] at hb
        subst hb
        exact HBG.out.set _ _, hmr.setCell _ _ (.inl rfl)⟩
      case measure => simp [intOf]; have := HJ.out; go_light; omega
    · have ej : j = pl.length := by go_light; omega
      have hji : ¬ (j : Int) < (pl.length : Int) := by go_light; omega
      have HEJ : Hid (j = pl.length) := ej
      clear ej hjn hj
      have hm5r : Mod (fun b => (Value.slice a6 pl.length k6).ownBlock = some b) w5 wr := hM58.trans hmr (fun _ _ h => h.elim) (fun _ _ h => h)
      have hMr : Mod (fun _ => False) w wr := hM8.trans hmr (fun _ _ h => h) (fun b hb e => absurd hb (Nat.not_lt.2 (hn6' b e)))
      go_wp2_with (fail)
      refine (HSm wr hm5r).mono ?_
      rintro e wa ⟨rfl, hma⟩
      have hMa := hMr.trans hma (V := fun _ => False) (fun _ _ h => h) (fun _ _ h => h)
      clear hbr hmr
      go_wp2_with (fail)
      go_loopw [12, 13] (fun ci c13 wz => ci = .int .i64 0 ∧ wz = wa) (fun _ _ _ => 0)
      case atStart => exact ⟨rfl, rfl⟩
      case round =>
        obtain ⟨rfl, ew⟩ := hrel
        subst ew
        go_wp2_with (fail)
        refine (works_any _).mono ?_
        rintro e wb ⟨rfl, hmb⟩
        go_wp2_with (fail)
        go_ret
        exact ⟨rfl, hMa.trans hmb (fun _ _ h => h) (fun _ _ h => h)⟩
end Go.Proofs.Ytifogbhlphofjaa
namespace Go.Proofs.Ytifogbhlphofjaa
open Go.RowKit Go.Maps
set_option maxRecDepth 100000 in
set_option maxHeartbeats 8000000 in
theorem splits_ok (o lf i g : Int) (s : Bool) (ao : Option Addr) (cap : Nat) (ap : Option Addr) (cp : Nat) (pl : List Int) (w : World) (hs : Sl w (.slice ao 0 cap) []) (hp : Sl w (.slice ap pl.length cp) pl) (hB : isB ⟨1, o, lf, i, 0, 0, g, s, 0, 0, 0, 0, []⟩ = true) (hC0 : chk ⟨1, o, lf, i, 0, 1, g, s, 0, 0, 0, 0, []⟩ = 0) (hpl : pl.length ≤ 200) :
    Calls Try.prog 3 #[.agg #[.int .i64 1, .int .i64 o, .int .i64 lf, .int .i64 i, .int .i64 0, .int .i64 0, .int .i64 g, .bool s, .int .i64 0, .int .i64 0, .int .i64 0, .int .i64 0, .slice ao 0 cap], .slice ap pl.length cp] w fun e w' => e = .returned (.bool true) ∧ Mod (fun _ => False) w w' := by
  have hA := (Mod.refl (fun _ => False) w).alloc (.cells #[.int .i64 1, .int .i64 o, .int .i64 lf, .int .i64 i, .int .i64 0, .int .i64 0, .int .i64 g, .bool s, .int .i64 0, .int .i64 0, .int .i64 0, .int .i64 0, .slice ao 0 cap] 28)
  have hB0 := Bk.new w #[.int .i64 1, .int .i64 o, .int .i64 lf, .int .i64 i, .int .i64 0, .int .i64 0, .int .i64 g, .bool s, .int .i64 0, .int .i64 0, .int .i64 0, .int .i64 0, .slice ao 0 cap] 28
  have HC := dCopy 1 o lf i 0 0 g s 0 0 0 0 ao cap [] _ (hs.mod hA (fun _ _ h => h)) (by simp)
  simp only [List.length_nil] at HC
  obtain ⟨b0, hb0⟩ : ∃ b, b = w.heap.size := ⟨_, rfl⟩
  rw [← hb0] at hB0
  go_enter Try.func3, Try.ntmps3
  go_wp2_with (fail)
  refine HC.mono ?_
  rintro e w1 ⟨a2, k2, rfl, ho2, hm1, hn1⟩
  clear HC
  replace hB0 := hB0.mod hm1 (fun h => h)
  have hM1 := hA.trans hm1 (V := fun _ => False) (fun _ _ h => h) (fun _ _ h => h)
  have HCB := copy_any _ pl w1 (hp.mod hM1 (fun _ _ h => h)) (by omega)
  go_wp2_with (fail)
  refine HCB.mono ?_
  rintro e w2 ⟨v6, rfl, ho6, hm2, hn6⟩
  clear HCB
  obtain ⟨a6, k6, e6⟩ := ho6.shape
  subst e6
  rw [← hb0]
  have HB0 : Hid (b0 = w.heap.size) := hb0
  clear hb0
  have hM2 := hM1.trans hm2 (V := fun _ => False) (fun _ _ h => h) (fun _ _ h => h)
  replace hB0 := hB0.mod hm2 (fun h => h)
  replace ho2 := ho2.mod hm2 (fun _ _ h => h)
  have hB5 := Bk.new w2 #[.int .i64 1, .int .i64 o, .int .i64 lf, .int .i64 i, .int .i64 0, .int .i64 0, .int .i64 g, .bool s, .int .i64 0, .int .i64 0, .int .i64 0, .int .i64 0, .slice a2 0 k2] 28
  have hmA := (Mod.refl (fun _ => False) w2).alloc (.cells #[.int .i64 1, .int .i64 o, .int .i64 lf, .int .i64 i, .int .i64 0, .int .i64 0, .int .i64 g, .bool s, .int .i64 0, .int .i64 0, .int .i64 0, .int .i64 0, .slice a2 0 k2] 28)
  have hMA := hM2.alloc (.cells #[.int .i64 1, .int .i64 o, .int .i64 lf, .int .i64 i, .int .i64 0, .int .i64 0, .int .i64 g, .bool s, .int .i64 0, .int .i64 0, .int .i64 0, .int .i64 0, .slice a2 0 k2] 28)
  replace hB0 := hB0.mod hmA (fun h => h)
  replace ho2 := ho2.mod hmA (fun _ _ h => h)
  replace ho6 := ho6.mod hmA (fun _ _ h => h)
  have h6lt' : ∀ b, (Value.slice a6 pl.length k6).ownBlock = some b → b < w2.heap.size + 1 := fun b hb => by have := ho6.lt b hb; simpa using this
  obtain ⟨b5, hb5⟩ : ∃ b, b = w2.heap.size := ⟨_, rfl⟩
  rw [← hb5] at hB5
  have hr2 : ∀ c ∈ ([] : List Int), 0 ≤ c ∧ c ≤ 255 := hs.rng
  have hr6 : ∀ c ∈ pl, 0 ≤ c ∧ c ≤ 255 := hp.rng
  have hn6' : ∀ b, (Value.slice a6 pl.length k6).ownBlock = some b → w.heap.size ≤ b := fun b hb => Nat.le_trans hM1.size (hn6 b hb)
  have HSp := Split_ok 1 o lf i 0 0 g s 0 0 0 0 a2 k2 [] a6 k6 pl _ (ho2.sl hr2) (ho6.sl hr6) hB hpl
  simp only [List.length_nil] at HSp
  go_wp2_with (fail)
  rw [← hb5]
  have HB5 : Hid (b5 = w2.heap.size) := hb5
  clear hb5
  have hsz3 : (w2.alloc (.cells #[.int .i64 1, .int .i64 o, .int .i64 lf, .int .i64 i, .int .i64 0, .int .i64 0, .int .i64 g, .bool s, .int .i64 0, .int .i64 0, .int .i64 0, .int .i64 0, .slice a2 0 k2] 28)).heap.size = w2.heap.size + 1 := by simp
  generalize w2.alloc (.cells #[.int .i64 1, .int .i64 o, .int .i64 lf, .int .i64 i, .int .i64 0, .int .i64 0, .int .i64 g, .bool s, .int .i64 0, .int .i64 0, .int .i64 0, .int .i64 0, .slice a2 0 k2] 28) = w3 at *
  have h6lt : ∀ b, (Value.slice a6 pl.length k6).ownBlock = some b → b < w3.heap.size := fun b hb => by rw [hsz3]; exact h6lt' b hb
  clear hsz3 h6lt'
  refine HSp.mono ?_
  rintro e w4 ⟨G, V, Z, rfl, hPa, hG4, hm4⟩
  clear HSp
  have hM4 := hMA.trans hm4 (V := fun _ => False) (fun _ _ h => h) (fun _ _ h => h)
  replace hB0 := hB0.mod hm4 (fun h => h)
  replace hB5 := hB5.mod hm4 (fun h => h)
  replace ho2 := ho2.mod hm4 (fun _ _ h => h)
  replace ho6 := ho6.mod hm4 (fun _ _ h => h)
  have c0 : w4.cell? ⟨b0, 0, none⟩ = some (.int .i64 1) := hB0.cellv (j := 0) rfl
  have c1 : w4.cell? ⟨b0, 1, none⟩ = some (.int .i64 o) := hB0.cellv (j := 1) rfl
  have c2 : w4.cell? ⟨b0, 2, none⟩ = some (.int .i64 lf) := hB0.cellv (j := 2) rfl
  have c3 : w4.cell? ⟨b0, 3, none⟩ = some (.int .i64 i) := hB0.cellv (j := 3) rfl
  have c4 : w4.cell? ⟨b0, 4, none⟩ = some (.int .i64 0) := hB0.cellv (j := 4) rfl
  have c5 : w4.cell? ⟨b0, 5, none⟩ = some (.int .i64 0) := hB0.cellv (j := 5) rfl
  have c6 : w4.cell? ⟨b0, 6, none⟩ = some (.int .i64 g) := hB0.cellv (j := 6) rfl
  have c7 : w4.cell? ⟨b0, 7, none⟩ = some (.bool s) := hB0.cellv (j := 7) rfl
  have c8 : w4.cell? ⟨b0, 8, none⟩ = some (.int .i64 0) := hB0.cellv (j := 8) rfl
  have c9 : w4.cell? ⟨b0, 9, none⟩ = some (.int .i64 0) := hB0.cellv (j := 9) rfl
  have c10 : w4.cell? ⟨b0, 10, none⟩ = some (.int .i64 0) := hB0.cellv (j := 10) rfl
  have c11 : w4.cell? ⟨b0, 11, none⟩ = some (.int .i64 0) := hB0.cellv (j := 11) rfl
  have c12 : w4.cell? ⟨b0, 12, none⟩ = some (.slice ao 0 cap) := hB0.cellv (j := 12) rfl
  have HDp := dSplit_ok o lf i g s ao cap ap cp pl w4 (hs.mod hM4 (fun _ _ h => h)) (hp.mod hM4 (fun _ _ h => h)) hC0 hpl
  go_wp2_with (fail)
  refine HDp.mono ?_
  rintro e w5 ⟨yv, V', rfl, hDp, hm5⟩
  obtain ⟨n, hn⟩ : ∃ n, n = pcn pl.length := ⟨_, rfl⟩
  rw [← hn] at hPa hDp
  have hn15 : 1 ≤ n ∧ n ≤ 5 := by rw [hn]; unfold pcn; omega
  rw [← hn]
  clear hn
  obtain ⟨H, yc, ey⟩ : ∃ H yc, yv = .slice (some ⟨H, 0, none⟩) n yc := by
    rcases hDp.row.2 with ⟨_, h0⟩ | ⟨g', cap', cur, e', _⟩
    · exact absurd h0 (by omega)
    · exact ⟨g', cap', e'⟩
  subst ey
  clear HDp c0 c1 c2 c3 c4 c5 c6 c7 c8 c9 c10 c11 c12
  have hM5 := hM4.trans hm5 (V := fun _ => False) (fun _ _ h => h) (fun _ _ h => h)
  replace hB0 := hB0.mod hm5 (fun h => h)
  replace hB5 := hB5.mod hm5 (fun h => h)
  replace ho2 := ho2.mod hm5 (fun _ _ h => h)
  replace ho6 := ho6.mod hm5 (fun _ _ h => h)
  have hkV : ∀ j, j < n → ∀ b, (V j).ownBlock = some b → w3.heap.size ≤ b ∧ b < w4.heap.size ∧ b ≠ G := fun j hj b hb => ⟨(hPa.own j hj).2 b hb, (hPa.own j hj).1.lt b hb, fun e => by
    obtain ⟨cur, hc⟩ := (hPa.own j hj).1.kind hb
    rw [e, hPa.bk.at'] at hc
    simp at hc⟩
  have hH5 : w4.heap.size ≤ H := hDp.new H rfl
  have hsh : ∀ j, j < n → ∃ ao kp, V j = .slice ao (chunk pl j).length kp ∧ (0 < (chunk pl j).length → ∃ gb, ao = some ⟨gb, 0, none⟩) := fun j hj => by
    obtain ⟨a, k, e⟩ := (hPa.own j hj).1.shape
    refine ⟨a, k, e, fun h0 => ?_⟩
    obtain ⟨gb, c, e', _⟩ := (hPa.own j hj).1.form h0
    rw [e] at e'
    simp only [Value.slice.injEq] at e'
    exact ⟨gb, e'.1⟩
  have hap := hPa.apart
  have hVV : ∀ j, j < n → ∀ b, (V j).ownBlock = some b → b < w4.heap.size ∧ b ≠ G := fun j hj b hb => (hkV j hj b hb).2
  have hV'b : ∀ j, j < n → ∀ b, (V' j).ownBlock = some b → w4.heap.size ≤ b := fun j hj b hb => (hDp.own j hj).2 b hb
  have hbyV : ∀ j, j < n → ∀ b, (V j).ownBlock = some b → By w5 b (chunk pl j).length := fun j hj b hb => ((hPa.own j hj).1.mod hm5 (fun _ _ h => h)).by hb
  have hRx : Rp w5 G ⟨1, o, lf, i, 0, 0, g, s, 0, 0, 0, 0, []⟩ n pl V := ⟨fun j hj t c hc => hm5.cell (by rw [hPa.bk.cell]; exact hPa.cells j hj t c hc) (fun h => h), fun j hj => ((hPa.own j hj).1.mod hm5 (fun _ _ h => h)).sl (chunk_rng hr6 j)⟩
  have hRy : Rp w5 H ⟨1, o, lf, i, 0, 0, g, s, 0, 0, 0, 0, []⟩ n pl V' := ⟨fun j hj t c hc => by
    have h := World.ownsRow.cellAt hDp.row (j * 13 + t) (by
      have ht : t < 13 := by
        rcases Nat.lt_or_ge t 13 with h | h
        · exact h
        · rw [List.getElem?_eq_none (by exact h)] at hc; cases hc
      omega)
    rw [h]
    exact fl_get _ n pl V' n j hj t c hc, fun j hj => (hDp.own j hj).1.sl (chunk_rng hr6 j)⟩
  have HSm : ∀ W, Mod (fun b => (Value.slice a6 pl.length k6).ownBlock = some b) w5 W → _ := fun W (hm : Mod (fun b => (Value.slice a6 pl.length k6).ownBlock = some b) w5 W) => same_parts o lf i g s n pl G H n yc V V' W hn15.2 (hRx.mod hm (fun e => absurd (h6lt _ e) (Nat.not_lt.2 hG4)) (fun j hj b hb e => absurd (h6lt b e) (Nat.not_lt.2 (hkV j hj b hb).1))) (hRy.mod hm (fun e => absurd (h6lt _ e) (Nat.not_lt.2 (Nat.le_trans hm4.size hH5))) (fun j hj b hb e => absurd (h6lt b e) (Nat.not_lt.2 (Nat.le_trans hm4.size ((hDp.own j hj).2 b hb)))))
  go_wp2_with (fail)
  refine (HSm w5 (Mod.refl _ _)).mono ?_
  rintro e w6 ⟨rfl, hm6⟩
  have hM6 := hM5.trans hm6 (V := fun _ => False) (fun _ _ h => h) (fun _ _ h => h)
  replace hB0 := hB0.mod hm6 (fun h => h)
  replace hB5 := hB5.mod hm6 (fun h => h)
  replace ho2 := ho2.mod hm6 (fun _ _ h => h)
  replace ho6 := ho6.mod hm6 (fun _ _ h => h)
  have c0 : w6.cell? ⟨b0, 0, none⟩ = some (.int .i64 1) := hB0.cellv (j := 0) rfl
  have c1 : w6.cell? ⟨b0, 1, none⟩ = some (.int .i64 o) := hB0.cellv (j := 1) rfl
  have c2 : w6.cell? ⟨b0, 2, none⟩ = some (.int .i64 lf) := hB0.cellv (j := 2) rfl
  have c3 : w6.cell? ⟨b0, 3, none⟩ = some (.int .i64 i) := hB0.cellv (j := 3) rfl
  have c4 : w6.cell? ⟨b0, 4, none⟩ = some (.int .i64 0) := hB0.cellv (j := 4) rfl
  have c5 : w6.cell? ⟨b0, 5, none⟩ = some (.int .i64 0) := hB0.cellv (j := 5) rfl
  have c6 : w6.cell? ⟨b0, 6, none⟩ = some (.int .i64 g) := hB0.cellv (j := 6) rfl
  have c7 : w6.cell? ⟨b0, 7, none⟩ = some (.bool s) := hB0.cellv (j := 7) rfl
  have c8 : w6.cell? ⟨b0, 8, none⟩ = some (.int .i64 0) := hB0.cellv (j := 8) rfl
  have c9 : w6.cell? ⟨b0, 9, none⟩ = some (.int .i64 0) := hB0.cellv (j := 9) rfl
  have c10 : w6.cell? ⟨b0, 10, none⟩ = some (.int .i64 0) := hB0.cellv (j := 10) rfl
  have c11 : w6.cell? ⟨b0, 11, none⟩ = some (.int .i64 0) := hB0.cellv (j := 11) rfl
  have c12 : w6.cell? ⟨b0, 12, none⟩ = some (.slice ao 0 cap) := hB0.cellv (j := 12) rfl
  have d0 : w6.cell? ⟨b5, 0, none⟩ = some (.int .i64 1) := hB5.cellv (j := 0) rfl
  have d1 : w6.cell? ⟨b5, 1, none⟩ = some (.int .i64 o) := hB5.cellv (j := 1) rfl
  have d2 : w6.cell? ⟨b5, 2, none⟩ = some (.int .i64 lf) := hB5.cellv (j := 2) rfl
  have d3 : w6.cell? ⟨b5, 3, none⟩ = some (.int .i64 i) := hB5.cellv (j := 3) rfl
  have d4 : w6.cell? ⟨b5, 4, none⟩ = some (.int .i64 0) := hB5.cellv (j := 4) rfl
  have d5 : w6.cell? ⟨b5, 5, none⟩ = some (.int .i64 0) := hB5.cellv (j := 5) rfl
  have d6 : w6.cell? ⟨b5, 6, none⟩ = some (.int .i64 g) := hB5.cellv (j := 6) rfl
  have d7 : w6.cell? ⟨b5, 7, none⟩ = some (.bool s) := hB5.cellv (j := 7) rfl
  have d8 : w6.cell? ⟨b5, 8, none⟩ = some (.int .i64 0) := hB5.cellv (j := 8) rfl
  have d9 : w6.cell? ⟨b5, 9, none⟩ = some (.int .i64 0) := hB5.cellv (j := 9) rfl
  have d10 : w6.cell? ⟨b5, 10, none⟩ = some (.int .i64 0) := hB5.cellv (j := 10) rfl
  have d11 : w6.cell? ⟨b5, 11, none⟩ = some (.int .i64 0) := hB5.cellv (j := 11) rfl
  have d12 : w6.cell? ⟨b5, 12, none⟩ = some (.slice a2 0 k2) := hB5.cellv (j := 12) rfl
  have HSS := Same_eq 1 o lf i 0 0 g s 0 0 0 0 a2 ao k2 cap [] w6 (ho2.sl hr2) (hs.mod hM6 (fun _ _ h => h))
  simp only [List.length_nil] at HSS
  go_wp2_with (fail)
  refine HSS.mono ?_
  rintro e w7 ⟨rfl, hm7⟩
  clear HSS c0 c1 c2 c3 c4 c5 c6 c7 c8 c9 c10 c11 c12 d0 d1 d2 d3 d4 d5 d6 d7 d8 d9 d10 d11 d12
  have hM7 := hM6.trans hm7 (V := fun _ => False) (fun _ _ h => h) (fun _ _ h => h)
  replace ho6 := ho6.mod hm7 (fun _ _ h => h)
  have HEq := EqBytes_any _ _ pl pl w7 (ho6.sl hr6) (hp.mod hM7 (fun _ _ h => h))
  simp only [decide_true] at HEq
  go_wp2_with (fail)
  refine HEq.mono ?_
  rintro e w8 ⟨rfl, hm8⟩
  clear HEq
  have hM8 := hM7.trans hm8 (V := fun _ => False) (fun _ _ h => h) (fun _ _ h => h)
  replace ho6 := ho6.mod hm8 (fun _ _ h => h)
  have hby : ∀ b, (Value.slice a6 pl.length k6).ownBlock = some b → By w8 b pl.length := fun b hb => ho6.by hb
  clear hB0 hB5 ho2
  have hM58 := hm6.trans (hm7.trans hm8 (V := fun _ => False) (fun _ _ h => h) (fun _ _ h => h)) (V := fun _ => False) (fun _ _ h => h) (fun _ _ h => h)
  have hfo : 0 < pl.length → ∃ g6, a6 = some ⟨g6, 0, none⟩ := fun h0 => by
    obtain ⟨g6, c6, e, _⟩ := ho6.form h0
    simp only [Value.slice.injEq] at e
    exact ⟨g6, e.1⟩
  clear ho6
  have hpl2 : pl.length ≤ 140737488351232 := by omega
  go_wp2_with (fail)
  go_loopw [11] (fun ci wr => ∃ j : Nat, ci = .int .i64 (j : Int) ∧ j ≤ pl.length ∧ (∀ b, (Value.slice a6 pl.length k6).ownBlock = some b → By wr b pl.length) ∧ Mod (fun b => (Value.slice a6 pl.length k6).ownBlock = some b) w8 wr) (fun ci _ => pl.length - (intOf ci).toNat)
  case atStart => exact ⟨0, rfl, Nat.zero_le _, hby, Mod.refl _ _⟩
  case round =>
    obtain ⟨j, rfl, hj, hbr, hmr⟩ := hrel
    clear hby
    by_cases hjn : j < pl.length
    · have hjn' : (j : Int) < (pl.length : Int) := by go_light; omega
      have hjb' : (j : Int) < 140737488351232 := by go_light; omega
      obtain ⟨g6, e6⟩ := hfo (Nat.lt_of_le_of_lt (Nat.zero_le _) hjn)
      subst e6
      have hbg := hbr g6 rfl
      obtain ⟨cc, ck, fz⟩ := hbg.cell hjn
      have HBG : Hid (By wr g6 pl.length) := hbg
      clear hbr hbg
      have HJ : Hid (j < pl.length) := hjn
      go_wp2_with (fail)
      go_roundw
      case rel => exact ⟨j + 1, by go_num, HJ.out, fun b hb => by
        simp only [Value.ownBlock, Option.some.injEq] at hb
        subst hb
        exact HBG.out.set _ _, hmr.setCell _ _ (.inl rfl)⟩
      case measure => simp [intOf]; have := HJ.out; go_light; omega
    · have ej : j = pl.length := by go_light; omega
      have hji : ¬ (j : Int) < (pl.length : Int) := by go_light; omega
      have HEJ : Hid (j = pl.length) := ej
      clear ej hjn hj
      have hm5r : Mod (fun b => (Value.slice a6 pl.length k6).ownBlock = some b) w5 wr := hM58.trans hmr (fun _ _ h => h.elim) (fun _ _ h => h)
      have hMr : Mod (fun _ => False) w wr := hM8.trans hmr (fun _ _ h => h) (fun b hb e => absurd hb (Nat.not_lt.2 (hn6' b e)))
      go_wp2_with (fail)
      refine (HSm wr hm5r).mono ?_
      rintro e wa ⟨rfl, hma⟩
      have hMa := hMr.trans hma (V := fun _ => False) (fun _ _ h => h) (fun _ _ h => h)
      clear hbr hmr
      go_wp2_with (fail)
      have hRxa : Rx wa G H ⟨1, o, lf, i, 0, 0, g, s, 0, 0, 0, 0, []⟩ n pl V V' 0 := by
        have hx := (hRx.mod hm5r (fun e => absurd (h6lt _ e) (Nat.not_lt.2 hG4)) (fun j hj b hb e => absurd (h6lt b e) (Nat.not_lt.2 (hkV j hj b hb).1))).mod hma (fun h => h) (fun _ _ _ _ h => h)
        have hy := (hRy.mod hm5r (fun e => absurd (h6lt _ e) (Nat.not_lt.2 (Nat.le_trans hm4.size hH5))) (fun j hj b hb e => absurd (h6lt b e) (Nat.not_lt.2 (Nat.le_trans hm4.size (hV'b j hj b hb))))).mod hma (fun h => h) (fun _ _ _ _ h => h)
        exact ⟨hx.cells, fun i _ hi => hx.sl i hi, hy, fun i hi b hb => ((hbyV i hi b hb).mod hm5r (fun e => absurd (h6lt b e) (Nat.not_lt.2 (hkV i hi b hb).1))).mod hma (fun h => h)⟩
      have hnewV : ∀ j, j < n → ∀ b, (V j).ownBlock = some b → w.heap.size ≤ b := fun j hj b hb => Nat.le_trans hMA.size (hkV j hj b hb).1
      obtain ⟨B4, hB4⟩ : ∃ B4, B4 = w4.heap.size := ⟨_, rfl⟩
      rw [← hB4] at hVV hH5 hV'b
      have n5 := hn15.2
      clear hB4 hRx hRy hbyV hkV hPa hDp hfo hM58 HSm hm5r hMr hma h6lt hM8 hM7 hM6 hM5 hM4 hMA hM2 hM1 hA hm1 hm2 hm4 hm5 hm6 hm7 hm8 hmA hs hp hn6 hn6' hn1
      go_loopw [12, 13] (fun ci c13 wq => ∃ j : Nat, ci = .int .i64 (j : Int) ∧ j ≤ n ∧ Rx wq G H ⟨1, o, lf, i, 0, 0, g, s, 0, 0, 0, 0, []⟩ n pl V V' j ∧ Mod (fun _ => False) w wq) (fun ci _ _ => n - (intOf ci).toNat)
      case atStart => exact ⟨0, rfl, Nat.zero_le _, hRxa, hMa⟩
      case round =>
        obtain ⟨wO, rfl⟩ : ∃ wO, wO = wr := ⟨_, rfl⟩
        obtain ⟨j, rfl, hj, hRj, hMj⟩ := hrel
        clear hRxa hMa
        by_cases hjn : j < n
        · have hjn' : (j : Int) < (n : Int) := by go_light; omega
          have hj5 : (j : Int) < 5 := by go_light; omega
          obtain ⟨aV, kV, eV, hgV⟩ := hsh j hjn
          obtain ⟨c, hcc⟩ : ∃ c, c = chunk pl j := ⟨_, rfl⟩
          rw [← hcc] at eV hgV
          have hcl : c.length ≤ 48 := by rw [hcc]; simp [chunk]; go_light; omega
          have HCC : Hid (c = chunk pl j) := hcc
          clear hcc
          have HJN : Hid (j < n) := hjn
          go_wp2_with (fail)
          go_loopw [13] (fun c13 wz => ∃ t : Nat, c13 = .int .i64 (t : Int) ∧ t ≤ c.length ∧ Rx wz G H ⟨1, o, lf, i, 0, 0, g, s, 0, 0, 0, 0, []⟩ n pl V V' (j + 1) ∧ Mod (fun _ => False) w wz) (fun c13 _ => c.length - (intOf c13).toNat)
          case atStart => exact ⟨0, rfl, Nat.zero_le _, hRj.mono (Nat.le_succ _), hMj⟩
          case round =>
            obtain ⟨t, rfl, ht, hRt, hMt⟩ := hrel
            clear hRj hMj
            have e12 : wr.cell? ⟨G, j * 13 + 12, none⟩ = some (.slice aV c.length kV) := by
              have h := hRt.cells j HJN.out 12 _ (by rfl)
              rw [eV] at h
              exact h
            by_cases htn : t < c.length
            · have htn' : (t : Int) < (c.length : Int) := by go_light; omega
              have ht48 : (t : Int) < 48 := by go_light; omega
              obtain ⟨gb, eg⟩ := hgV (Nat.lt_of_le_of_lt (Nat.zero_le _) htn)
              subst eg
              have hown : (V j).ownBlock = some gb := by rw [eV]; rfl
              have hbg := hRt.by' j HJN.out gb hown
              rw [← HCC.out] at hbg
              obtain ⟨cc, ck, fz⟩ := hbg.cell htn
              have HTN : Hid (t < c.length) := htn
              have hRd := hRt.mod ((Mod.refl (fun _ => False) wr).drew)
              have hst := fun x => hRd.set (B := B4) HJN.out hown hap hVV hH5 hV'b t x
              have hMd := hMt.drew
              have hge := hnewV j HJN.out gb hown
              have HST : Hid (∀ x, Rx (wr.drew.setCell ⟨gb, t, none⟩ (.int .u8 x)) G H ⟨1, o, lf, i, 0, 0, g, s, 0, 0, 0, 0, []⟩ n pl V V' (j + 1)) := hst
              have HMS : Hid (∀ x, Mod (fun _ => False) w (wr.drew.setCell ⟨gb, t, none⟩ (.int .u8 x))) := fun x => hMd.setCell _ _ (.inr hge)
              clear hst hRd hMd hge hRt hMt hbg htn ht hsh hap hVV hV'b hnewV
              go_wp2_with (fail)
              go_region
              go_wp2_with (fail)
              go_roundw
              case rel => exact ⟨t + 1, by go_num, HTN.out, HST.out _, HMS.out _⟩
              case measure => simp [intOf]; have := HTN.out; go_light; omega
            · have hti : ¬ (t : Int) < (c.length : Int) := by go_light; omega
              clear htn ht
              go_upto_region 19 with (fail)
              by_cases hj1 : j + 1 < n
              · have hj1' : (j : Int) + 1 < (n : Int) := by go_light; omega
                have hc := hRt.cells (j + 1) hj1
                have hd := hRt.oth.cells (j + 1) hj1
                have hs1 := hRt.sl (j + 1) (Nat.le_refl _) hj1
                have hs2 := hRt.oth.sl (j + 1) hj1
                obtain ⟨cn, hcc⟩ : ∃ c, c = chunk pl (j + 1) := ⟨_, rfl⟩
                rw [← hcc] at hs1 hs2
                obtain ⟨aA, kA, eA, _⟩ := hs1.form
                obtain ⟨aB, kB, eB, _⟩ := hs2.form
                rw [eA] at hc hs1
                rw [eB] at hd hs2
                have HS1 := Same_eq 1 o lf i ((j + 1 : Nat) : Int) (n : Int) g s 0 0 0 0 aA aB kA kB cn wr.drew (hs1.mod ((Mod.refl (fun _ => False) wr).drew) (fun _ _ h => h)) (hs2.mod ((Mod.refl (fun _ => False) wr).drew) (fun _ _ h => h))
                have hji1 : (((j + 1 : Nat) : Nat) : Int) = (j : Int) + 1 := rfl
                have p0 : wr.cell? ⟨G, (j + 1) * 13, none⟩ = some (.int .i64 1) := by
                  have h := hc 0 _ (by rfl)
                  first | exact h | (rw [hcc]; exact h)
                have p1 : wr.cell? ⟨G, (j + 1) * 13 + 1, none⟩ = some (.int .i64 o) := by
                  have h := hc 1 _ (by rfl)
                  first | exact h | (rw [hcc]; exact h)
                have p2 : wr.cell? ⟨G, (j + 1) * 13 + 2, none⟩ = some (.int .i64 lf) := by
                  have h := hc 2 _ (by rfl)
                  first | exact h | (rw [hcc]; exact h)
                have p3 : wr.cell? ⟨G, (j + 1) * 13 + 3, none⟩ = some (.int .i64 i) := by
                  have h := hc 3 _ (by rfl)
                  first | exact h | (rw [hcc]; exact h)
                have p4 : wr.cell? ⟨G, (j + 1) * 13 + 4, none⟩ = some (.int .i64 ((j + 1 : Nat) : Int)) := by
                  have h := hc 4 _ (by rfl)
                  first | exact h | (rw [hcc]; exact h)
                have p5 : wr.cell? ⟨G, (j + 1) * 13 + 5, none⟩ = some (.int .i64 (n : Int)) := by
                  have h := hc 5 _ (by rfl)
                  first | exact h | (rw [hcc]; exact h)
                have p6 : wr.cell? ⟨G, (j + 1) * 13 + 6, none⟩ = some (.int .i64 g) := by
                  have h := hc 6 _ (by rfl)
                  first | exact h | (rw [hcc]; exact h)
                have p7 : wr.cell? ⟨G, (j + 1) * 13 + 7, none⟩ = some (.bool s) := by
                  have h := hc 7 _ (by rfl)
                  first | exact h | (rw [hcc]; exact h)
                have p8 : wr.cell? ⟨G, (j + 1) * 13 + 8, none⟩ = some (.int .i64 0) := by
                  have h := hc 8 _ (by rfl)
                  first | exact h | (rw [hcc]; exact h)
                have p9 : wr.cell? ⟨G, (j + 1) * 13 + 9, none⟩ = some (.int .i64 0) := by
                  have h := hc 9 _ (by rfl)
                  first | exact h | (rw [hcc]; exact h)
                have p10 : wr.cell? ⟨G, (j + 1) * 13 + 10, none⟩ = some (.int .i64 0) := by
                  have h := hc 10 _ (by rfl)
                  first | exact h | (rw [hcc]; exact h)
                have p11 : wr.cell? ⟨G, (j + 1) * 13 + 11, none⟩ = some (.int .i64 0) := by
                  have h := hc 11 _ (by rfl)
                  first | exact h | (rw [hcc]; exact h)
                have p12 : wr.cell? ⟨G, (j + 1) * 13 + 12, none⟩ = some (.slice aA cn.length kA) := by
                  have h := hc 12 _ (by rfl)
                  first | exact h | (rw [hcc]; exact h)
                have r0 : wr.cell? ⟨H, (j + 1) * 13, none⟩ = some (.int .i64 1) := by
                  have h := hd 0 _ (by rfl)
                  first | exact h | (rw [hcc]; exact h)
                have r1 : wr.cell? ⟨H, (j + 1) * 13 + 1, none⟩ = some (.int .i64 o) := by
                  have h := hd 1 _ (by rfl)
                  first | exact h | (rw [hcc]; exact h)
                have r2 : wr.cell? ⟨H, (j + 1) * 13 + 2, none⟩ = some (.int .i64 lf) := by
                  have h := hd 2 _ (by rfl)
                  first | exact h | (rw [hcc]; exact h)
                have r3 : wr.cell? ⟨H, (j + 1) * 13 + 3, none⟩ = some (.int .i64 i) := by
                  have h := hd 3 _ (by rfl)
                  first | exact h | (rw [hcc]; exact h)
                have r4 : wr.cell? ⟨H, (j + 1) * 13 + 4, none⟩ = some (.int .i64 ((j + 1 : Nat) : Int)) := by
                  have h := hd 4 _ (by rfl)
                  first | exact h | (rw [hcc]; exact h)
                have r5 : wr.cell? ⟨H, (j + 1) * 13 + 5, none⟩ = some (.int .i64 (n : Int)) := by
                  have h := hd 5 _ (by rfl)
                  first | exact h | (rw [hcc]; exact h)
                have r6 : wr.cell? ⟨H, (j + 1) * 13 + 6, none⟩ = some (.int .i64 g) := by
                  have h := hd 6 _ (by rfl)
                  first | exact h | (rw [hcc]; exact h)
                have r7 : wr.cell? ⟨H, (j + 1) * 13 + 7, none⟩ = some (.bool s) := by
                  have h := hd 7 _ (by rfl)
                  first | exact h | (rw [hcc]; exact h)
                have r8 : wr.cell? ⟨H, (j + 1) * 13 + 8, none⟩ = some (.int .i64 0) := by
                  have h := hd 8 _ (by rfl)
                  first | exact h | (rw [hcc]; exact h)
                have r9 : wr.cell? ⟨H, (j + 1) * 13 + 9, none⟩ = some (.int .i64 0) := by
                  have h := hd 9 _ (by rfl)
                  first | exact h | (rw [hcc]; exact h)
                have r10 : wr.cell? ⟨H, (j + 1) * 13 + 10, none⟩ = some (.int .i64 0) := by
                  have h := hd 10 _ (by rfl)
                  first | exact h | (rw [hcc]; exact h)
                have r11 : wr.cell? ⟨H, (j + 1) * 13 + 11, none⟩ = some (.int .i64 0) := by
                  have h := hd 11 _ (by rfl)
                  first | exact h | (rw [hcc]; exact h)
                have r12 : wr.cell? ⟨H, (j + 1) * 13 + 12, none⟩ = some (.slice aB cn.length kB) := by
                  have h := hd 12 _ (by rfl)
                  first | exact h | (rw [hcc]; exact h)
                have HRT : Hid (Rx wr G H ⟨1, o, lf, i, 0, 0, g, s, 0, 0, 0, 0, []⟩ n pl V V' (j + 1)) := hRt
                have HMT : Hid (Mod (fun _ => False) w wr) := hMt
                have HCN : Hid (cn = chunk pl (j + 1)) := hcc
                have HJ1 : Hid (j + 1 < n) := hj1
                rw [hji1] at HS1 p4 r4
                have hw1 : IntKind.i64.wrap ((j : Int) + 1) = (j : Int) + 1 := by rw [IntKind.wrap_i64]; go_light; omega
                have h0j : (0 : Int) ≤ (j : Int) + 1 := by go_light; omega
                have h0n : (((j : Int) + 1)).toNat = j + 1 := by go_light; omega
                clear hcc hc hd hs1 hs2 eA eB hRt hMt hji1 hj1 e12 hsh hap hVV hV'b hnewV hgV eV
                go_region_held3 (fun y => y.cell? ⟨G, (j + 1) * 13, none⟩ = some (.int .i64 1) ∧ y.cell? ⟨G, (j + 1) * 13 + 1, none⟩ = some (.int .i64 o) ∧ y.cell? ⟨G, (j + 1) * 13 + 2, none⟩ = some (.int .i64 lf) ∧ y.cell? ⟨G, (j + 1) * 13 + 3, none⟩ = some (.int .i64 i) ∧ y.cell? ⟨G, (j + 1) * 13 + 4, none⟩ = some (.int .i64 ((j : Int) + 1)) ∧ y.cell? ⟨G, (j + 1) * 13 + 5, none⟩ = some (.int .i64 (n : Int)) ∧ y.cell? ⟨G, (j + 1) * 13 + 6, none⟩ = some (.int .i64 g) ∧ y.cell? ⟨G, (j + 1) * 13 + 7, none⟩ = some (.bool s) ∧ y.cell? ⟨G, (j + 1) * 13 + 8, none⟩ = some (.int .i64 0) ∧ y.cell? ⟨G, (j + 1) * 13 + 9, none⟩ = some (.int .i64 0) ∧ y.cell? ⟨G, (j + 1) * 13 + 10, none⟩ = some (.int .i64 0) ∧ y.cell? ⟨G, (j + 1) * 13 + 11, none⟩ = some (.int .i64 0) ∧ y.cell? ⟨G, (j + 1) * 13 + 12, none⟩ = some (.slice aA cn.length kA) ∧ y.cell? ⟨H, (j + 1) * 13, none⟩ = some (.int .i64 1) ∧ y.cell? ⟨H, (j + 1) * 13 + 1, none⟩ = some (.int .i64 o) ∧ y.cell? ⟨H, (j + 1) * 13 + 2, none⟩ = some (.int .i64 lf) ∧ y.cell? ⟨H, (j + 1) * 13 + 3, none⟩ = some (.int .i64 i) ∧ y.cell? ⟨H, (j + 1) * 13 + 4, none⟩ = some (.int .i64 ((j : Int) + 1)) ∧ y.cell? ⟨H, (j + 1) * 13 + 5, none⟩ = some (.int .i64 (n : Int)) ∧ y.cell? ⟨H, (j + 1) * 13 + 6, none⟩ = some (.int .i64 g) ∧ y.cell? ⟨H, (j + 1) * 13 + 7, none⟩ = some (.bool s) ∧ y.cell? ⟨H, (j + 1) * 13 + 8, none⟩ = some (.int .i64 0) ∧ y.cell? ⟨H, (j + 1) * 13 + 9, none⟩ = some (.int .i64 0) ∧ y.cell? ⟨H, (j + 1) * 13 + 10, none⟩ = some (.int .i64 0) ∧ y.cell? ⟨H, (j + 1) * 13 + 11, none⟩ = some (.int .i64 0) ∧ y.cell? ⟨H, (j + 1) * 13 + 12, none⟩ = some (.slice aB cn.length kB)) (first | with_reducible exact ⟨p0, p1, p2, p3, p4, p5, p6, p7, p8, p9, p10, p11, p12, r0, r1, r2, r3, r4, r5, r6, r7, r8, r9, r10, r11, r12⟩ | go_keep) ((go_at_call 13; refine HS1.mono ?_; rintro e wj ⟨rfl, hmj⟩; replace p0 : wj.cell? ⟨G, (j + 1) * 13, none⟩ = some (.int .i64 1) := hmj.cell p0 (fun h => h); replace p1 : wj.cell? ⟨G, (j + 1) * 13 + 1, none⟩ = some (.int .i64 o) := hmj.cell p1 (fun h => h); replace p2 : wj.cell? ⟨G, (j + 1) * 13 + 2, none⟩ = some (.int .i64 lf) := hmj.cell p2 (fun h => h); replace p3 : wj.cell? ⟨G, (j + 1) * 13 + 3, none⟩ = some (.int .i64 i) := hmj.cell p3 (fun h => h); replace p4 : wj.cell? ⟨G, (j + 1) * 13 + 4, none⟩ = some (.int .i64 ((j : Int) + 1)) := hmj.cell p4 (fun h => h); replace p5 : wj.cell? ⟨G, (j + 1) * 13 + 5, none⟩ = some (.int .i64 (n : Int)) := hmj.cell p5 (fun h => h); replace p6 : wj.cell? ⟨G, (j + 1) * 13 + 6, none⟩ = some (.int .i64 g) := hmj.cell p6 (fun h => h); replace p7 : wj.cell? ⟨G, (j + 1) * 13 + 7, none⟩ = some (.bool s) := hmj.cell p7 (fun h => h); replace p8 : wj.cell? ⟨G, (j + 1) * 13 + 8, none⟩ = some (.int .i64 0) := hmj.cell p8 (fun h => h); replace p9 : wj.cell? ⟨G, (j + 1) * 13 + 9, none⟩ = some (.int .i64 0) := hmj.cell p9 (fun h => h); replace p10 : wj.cell? ⟨G, (j + 1) * 13 + 10, none⟩ = some (.int .i64 0) := hmj.cell p10 (fun h => h); replace p11 : wj.cell? ⟨G, (j + 1) * 13 + 11, none⟩ = some (.int .i64 0) := hmj.cell p11 (fun h => h); replace p12 : wj.cell? ⟨G, (j + 1) * 13 + 12, none⟩ = some (.slice aA cn.length kA) := hmj.cell p12 (fun h => h); replace r0 : wj.cell? ⟨H, (j + 1) * 13, none⟩ = some (.int .i64 1) := hmj.cell r0 (fun h => h); replace r1 : wj.cell? ⟨H, (j + 1) * 13 + 1, none⟩ = some (.int .i64 o) := hmj.cell r1 (fun h => h); replace r2 : wj.cell? ⟨H, (j + 1) * 13 + 2, none⟩ = some (.int .i64 lf) := hmj.cell r2 (fun h => h); replace r3 : wj.cell? ⟨H, (j + 1) * 13 + 3, none⟩ = some (.int .i64 i) := hmj.cell r3 (fun h => h); replace r4 : wj.cell? ⟨H, (j + 1) * 13 + 4, none⟩ = some (.int .i64 ((j : Int) + 1)) := hmj.cell r4 (fun h => h); replace r5 : wj.cell? ⟨H, (j + 1) * 13 + 5, none⟩ = some (.int .i64 (n : Int)) := hmj.cell r5 (fun h => h); replace r6 : wj.cell? ⟨H, (j + 1) * 13 + 6, none⟩ = some (.int .i64 g) := hmj.cell r6 (fun h => h); replace r7 : wj.cell? ⟨H, (j + 1) * 13 + 7, none⟩ = some (.bool s) := hmj.cell r7 (fun h => h); replace r8 : wj.cell? ⟨H, (j + 1) * 13 + 8, none⟩ = some (.int .i64 0) := hmj.cell r8 (fun h => h); replace r9 : wj.cell? ⟨H, (j + 1) * 13 + 9, none⟩ = some (.int .i64 0) := hmj.cell r9 (fun h => h); replace r10 : wj.cell? ⟨H, (j + 1) * 13 + 10, none⟩ = some (.int .i64 0) := hmj.cell r10 (fun h => h); replace r11 : wj.cell? ⟨H, (j + 1) * 13 + 11, none⟩ = some (.int .i64 0) := hmj.cell r11 (fun h => h); replace r12 : wj.cell? ⟨H, (j + 1) * 13 + 12, none⟩ = some (.slice aB cn.length kB) := hmj.cell r12 (fun h => h)))
                all_goals
                  clear p0 p1 p2 p3 p4 p5 p6 p7 p8 p9 p10 p11 p12 r0 r1 r2 r3 r4 r5 r6 r7 r8 r9 r10 r11 r12
                  have HMJ : Hid (Mod (fun _ => False) wr wj) := ((Mod.refl (fun _ => False) wr).drew).trans hmj (fun _ _ h => h) (fun _ _ h => h)
                  clear hmj
                  go_wp2_with (fail)
                  go_roundw
                  case rel => exact ⟨j + 1, by go_num, Nat.le_of_lt HJ1.out, HRT.out.mod HMJ.out, HMT.out.trans HMJ.out (fun _ _ h => h) (fun _ _ h => h)⟩
                  case measure => simp [intOf]; have := HJN.out; go_light; omega
              · have hj1' : ¬ (j : Int) + 1 < (n : Int) := by go_light; omega
                have HRT : Hid (Rx wr G H ⟨1, o, lf, i, 0, 0, g, s, 0, 0, 0, 0, []⟩ n pl V V' (j + 1)) := hRt
                have HMT : Hid (Mod (fun _ => False) w wr) := hMt
                clear hRt hMt hsh hap hVV hV'b hnewV hgV
                have hw1 : IntKind.i64.wrap ((j : Int) + 1) = (j : Int) + 1 := by rw [IntKind.wrap_i64]; go_light; omega
                go_region
                go_wp2_with (fail)
                go_roundw
                case rel => exact ⟨j + 1, by go_num, HJN.out, HRT.out.mod ((Mod.refl (fun _ => False) wr).drew), HMT.out.drew⟩
                case measure => simp [intOf]; have := HJN.out; go_light; omega
        · have hji : ¬ (j : Int) < (n : Int) := by go_light; omega
          clear hRj
          go_wp2_with (fail)
          refine (works_any _).mono ?_
          rintro e wb ⟨rfl, hmb⟩
          go_wp2_with (fail)
          go_ret
          exact ⟨rfl, hMj.trans hmb (fun _ _ h => h) (fun _ _ h => h)⟩
end Go.Proofs.Ytifogbhlphofjaa
namespace Go.Proofs.Ytifogbhlphofjaa
open Go.RowKit Go.Maps
theorem splits_walk (k o lf i p ps g : Int) (s : Bool) (st rs rr sq : Int) (ao : Option Addr) (cap : Nat) (l : List Int) (v : Value) (pl : List Int) (w : World) (hs : Sl w (.slice ao l.length cap) l) (hl : l.length ≤ 140737488351232) (hp : Sl w v pl) (hpl : pl.length ≤ 140737488351232) :
    Calls Try.prog 3 #[.agg #[.int .i64 k, .int .i64 o, .int .i64 lf, .int .i64 i, .int .i64 p, .int .i64 ps, .int .i64 g, .bool s, .int .i64 st, .int .i64 rs, .int .i64 rr, .int .i64 sq, .slice ao l.length cap], v] w fun e w' => e = .returned (.bool true) ∧ Mod (fun _ => False) w w' := by
  obtain ⟨ap, cp, rfl, _⟩ := hp.form
  rcases hB : isB ⟨k, o, lf, i, p, ps, g, s, st, rs, rr, sq, l⟩ with _ | _
  · exact splits_bad k o lf i p ps g s st rs rr sq ao cap l ap cp pl w hs hl hp hpl hB
  · by_cases hL : 200 < pl.length
    · exact splits_long k o lf i p ps g s st rs rr sq ao cap l ap cp pl w hs hl hp hpl hB hL
    · obtain ⟨rfl, rfl, rfl, rfl, rfl, rfl, rfl, rfl, h6⟩ := isB_true hB
      exact splits_ok o lf i g s ao cap ap cp pl w hs hp hB h6 (by omega)
namespace pieceSplits
open Go.ChangeShapes Go.WideShapes Go.ChangeAt Go.RowKit
set_option maxRecDepth 100000 in
theorem lifted (os : Os) (started : os.Started) (H : Type) (enc : TypeId × Value → H) :
    ReturnsInHanded {} Try.checked os 3 .any (Rows.pieceSplitsSpec.pre6 enc Try.prog Try.f3 Rows.pieceSplitsRow.domain false) (Rows.pieceSplitsSpec.post enc Try.prog Try.f3 false true false false) := by
  refine returnsInHanded_of_change_sized (C := Try.checked) own started (by kernel_rfl) Try.func3
    (ChangeSpec.witness6 (enc := enc) (C := Try.checked) false ⟨#[], #[.agg #[.int .i64 0, .int .i64 0, .int .i64 0, .int .i64 0, .int .i64 0, .int .i64 0, .int .i64 0, .bool false, .int .i64 0, .int .i64 0, .int .i64 0, .int .i64 0, .slice none 0 0], .slice none 0 0], []⟩ 8 (by kernel_rfl) (by kernel_rfl) (by kernel_rfl) (by kernel_rfl)) ?_
  intro W base args ds gs before hval0 hW hcnd hsz0 _
  have hval : ∀ (j : Nat) t v, Try.f3.params[j]? = some t → args[j]? = some v → Value.okWide Try.prog W .any base t v := hval0
  have hsz : (DataW.weightsEach Try.prog (Try.f3.params.toList ++ Rows.pieceSplitsSpec.plain.varTypes Try.prog) (ds ++ gs)).all (· ≤ reachBytes) = true := hsz0
  have hW' := hW
  obtain ⟨p, q, hA0, hV, rfl, hfz, hnd⟩ := hW
  have hA : DataW.TrodAll enc Try.prog W 0 (fun _ => true) true Try.f3.params.toList args.toList ds p := hA0
  rw [Try.params3] at hA hval hsz
  obtain ⟨v0, vs0, d0, ds0, p0, q0, hargs, rfl, rfl, h0, r0⟩ := trodAll_cons hA
  obtain ⟨v1, vs1, d1, ds1, p1, q1, rfl, rfl, rfl, h1, r1⟩ := trodAll_cons r0
  obtain ⟨rfl, rfl, rfl⟩ := trodAll_nil r1
  obtain rfl : args = #[v0, v1] := by cases args; simp_all
  obtain ⟨rfl, rfl⟩ := trodVars_none hV
  have k0 := h0
  have lt0 : ∀ x ∈ p0, x.block < W.heap.size := by obtain ⟨m, hm⟩ := k0; exact DataW.trod_lt m _ _ _ hm
  obtain ⟨mk0, mo0, ml0, mi0, mp0, mq0, mg0, ms0, mt0, mr0, mrr0, msq0, mao0, mcap0, B0, rfl, hB0, _, hw0⟩ := open_msg (hval 0 28 v0 rfl rfl) h0
  have hL0 : B0.length ≤ 140737488351232 := hw0 _ (by
    rw [List.all_eq_true] at hsz ⊢
    intro x hx
    exact hsz x (DataW.weights_mem_each (t := 28) (j := 0) rfl rfl x hx))
  have k1 := h1
  have lt1 : ∀ x ∈ p1, x.block < W.heap.size := by obtain ⟨m, hm⟩ := k1; exact DataW.trod_lt m _ _ _ hm
  have hs1 := okWide_slice Try.underlying26 (hval 1 26 v1 rfl rfl)
  obtain ⟨B1, hB1, hL1⟩ : ∃ B, Sl W v1 B ∧ B.length ≤ 140737488351232 := by
    obtain ⟨ao, len, cap, rfl⟩ := hs1
    obtain ⟨fuel, hf⟩ := h1
    obtain ⟨B, hB, hx⟩ := sl_of_trod (c := .slice ao len cap) (by simpa [Value.cells] using hf)
    refine ⟨B, hB, ?_⟩
    simp only at hx
    rcases hx with ⟨rfl, rfl⟩ | ⟨e, s, rfl, hlen⟩
    · simp
    · have := sized_slice hsz (j := 1) (t := 26) (e := 5) rfl rfl Try.underlying26
      rw [bytes5] at this
      simp only [reachBytes] at this
      omega
  clear hA0 hval0
  refine (splits_walk mk0 mo0 ml0 mi0 mp0 mq0 mg0 ms0 mt0 mr0 mrr0 msq0 mao0 mcap0 B0 v1 B1 W hB0 hL0 hB1 hL1).mono fun e W' ⟨he, hm⟩ => ?_
  subst he
  have bel : Below W.heap.size W W' := hm.below _ (Nat.le_refl _) (fun _ h => h.elim)
  exact ⟨_, rfl, _, _, _, [], _, [], hW', trodAll_mk1 (shut_bool Try.underlying4 _), (trodAll_cons_mk (Below.trod laidOut (by kernel_rfl) (of_decide_eq_true (by kernel_rfl)) k0 bel lt0) (trodAll_cons_mk (Below.trod laidOut (by kernel_rfl) (of_decide_eq_true (by kernel_rfl)) k1 bel lt1) trodAll_mk0)), rfl, bel.frame _, fun h => by cases h⟩

theorem over : Rows.pieceSplitsRow.holds Try.pinned (OpenSpec.ofChange Rows.pieceSplitsSpec) :=
  OpenClaim.holds_of_wide 3 Try.f3 rfl rfl rfl rfl rfl rfl rfl ⟨rfl, rfl, rfl, rfl, rfl⟩ rfl rfl rfl rfl rfl (by kernel_rfl) Try.func3 (by kernel_rfl)
    (of_decide_eq_true (by kernel_rfl)) (by unfold Func.isWrapper; first | (rw [if_pos (by decide +kernel)]; kernel_rfl) | (rw [if_neg (by decide +kernel)]; exact ⟨rfl, rfl⟩))
    (fun os started H enc _ => lifted os started H enc)
end pieceSplits
theorem pieceSplits_holds : Rows.PieceSplitsSaid := pieceSplits.over
end Go.Proofs.Ytifogbhlphofjaa
