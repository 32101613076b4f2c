/- Contract of parcel's Pack. Conditions: sizes that a slice of bytes has. Contracts of packet's small functions: isNode, isWithin, isNumber, isRing, hasNumbers, fieldsOf, isKind, canAsk. No conditions beyond sizes that a slice has. -/
import Derived.Test.YtajhpnfpjickbaaK04
import Derived.Test.YtajhpnfpjickbaaK06
import Derived.Test.YtajhpnfpjickbaaK07
import Derived.Test.YtajhpnfpjickbaaK08
import Derived.Test.YtajhpnfpjickbaaK16
import Derived.Deep.RegionHeld3
namespace Go.Proofs.Ytajhpnfpjickbaa
open Go.RowKit
theorem ints_new (w : World) (vs : List Int) : ∀ j, j < vs.length → (w.alloc (.cells (vs.map (Value.int .i64)).toArray 3)).cell? ⟨w.heap.size, 0 + j, none⟩ = some (.int .i64 (vs.getD j 0)) := by
  intro j hj
  have := heap_alloc_new w (.cells (vs.map (Value.int .i64)).toArray 3)
  rw [Nat.zero_add]
  unfold World.cell?
  dsimp only
  rw [this]
  simp [hj]
theorem Fr.fresh {w w1 : World} {v v' : Value} (h : Fr w1 v v') (hv : ∀ g, v.ownBlock = some g → w.heap.size ≤ g) (hs : w.heap.size ≤ w1.heap.size) : ∀ g, v'.ownBlock = some g → w.heap.size ≤ g := fun g hg => by
  rcases h g hg with h1 | h1
  · exact hv g h1
  · omega

set_option maxRecDepth 100000 in
set_option maxHeartbeats 2000000 in
theorem Pack_any (k o lf i p ps g : Int) (s : Bool) (st rs rr sq : Int) (ao : Option Addr) (cap : Nat) (l : List Int) (w : World) (hs : Sl w (.slice ao l.length cap) l) :
    Calls Try.prog 13 #[.agg #[.int .i64 k, .int .i64 o, .int .i64 lf, .int .i64 i, .int .i64 p, .int .i64 ps, .int .i64 g, .bool s, .int .i64 st, .int .i64 rs, .int .i64 rr, .int .i64 sq, .slice ao l.length cap]] w fun e w' => ∃ v1, e = .returned (.tuple #[v1, .int .i64 (chk ⟨k, o, lf, i, p, ps, g, s, st, rs, rr, sq, l⟩)]) ∧ Mod (fun _ => False) w w' ∧
      (chk ⟨k, o, lf, i, p, ps, g, s, st, rs, rr, sq, l⟩ = 0 → Own w' v1 (pk ⟨k, o, lf, i, p, ps, g, s, st, rs, rr, sq, l⟩) ∧ (∀ g, v1.ownBlock = some g → w.heap.size ≤ g)) ∧ (chk ⟨k, o, lf, i, p, ps, g, s, st, rs, rr, sq, l⟩ ≠ 0 → v1 = .slice none 0 0) := by
  have HC := fun W h => Check_any k o lf i p ps g s st rs rr sq ao cap l W h
  have hm0 := MB.new w k o lf i p ps g s st rs rr sq (.slice ao l.length cap)
  have hA := (Mod.refl (fun _ => False) w).alloc (.cells #[.int .i64 k, .int .i64 o, .int .i64 lf, .int .i64 i, .int .i64 p, .int .i64 ps, .int .i64 g, .bool s, .int .i64 st, .int .i64 rs, .int .i64 rr, .int .i64 sq, .slice ao l.length cap] 28)
  have hs0 := hs.mod hA (fun _ _ h => h)
  have hbn : l ≠ [] → ∀ g, (Value.slice ao l.length cap).ownBlock = some g → g < w.heap.size := hs.lt
  by_cases hc : chk ⟨k, o, lf, i, p, ps, g, s, st, rs, rr, sq, l⟩ = 0
  case neg =>
    generalize chk ⟨k, o, lf, i, p, ps, g, s, st, rs, rr, sq, l⟩ = E at HC hc ⊢
    have hen : (E != 0) = true := by simp [hc]
    go_enter Try.func13, Try.ntmps13
    go_wp2_with (fail)
    refine (HC _ hs0).mono ?_
    rintro e w1 ⟨rfl, hm1⟩
    go_wp2
    go_ret2
    exact ⟨_, rfl, hA.trans hm1 (V := fun _ => False) (fun _ _ h => h) (fun _ _ h => h), fun h => absurd h hc, fun _ => rfl⟩
  case pos =>
    obtain ⟨n8, n4⟩ := chk_nums hc
    have hl := (chk_parts hc).1
    dsimp only at hl
    rw [hc] at HC ⊢
    clear hc
    cases s with
    | true =>
      have hpk : pk ⟨k, o, lf, i, p, ps, g, true, st, rs, rr, sq, l⟩ = packs [k, o, lf, i, p, ps, g, 1] ++ (packs [st, rs, rr, sq] ++ (enc l.length ++ l)) := rfl
      rw [hpk]
      clear hpk
      have N8 : Nums [k, o, lf, i, p, ps, g, 1] := n8
      have N4 : Nums [st, rs, rr, sq] := n4
      clear n8 n4
      have hl8 : (packs [k, o, lf, i, p, ps, g, 1]).length ≤ 64 := packs_len [k, o, lf, i, p, ps, g, 1]
      have hl4 : (packs [st, rs, rr, sq]).length ≤ 32 := packs_len [st, rs, rr, sq]
      have hle := enc_len l.length
      go_enter Try.func13, Try.ntmps13
      go_wp2_with (fail)
      refine (HC _ hs0).mono ?_
      rintro e w1 ⟨rfl, hm1⟩
      have hA1 := hA.trans hm1 (V := fun _ => False) (fun _ _ h => h) (fun _ _ h => h)
      have hsz1 : w.heap.size < w1.heap.size := by have := hm1.size; simp at this; omega
      have hb1 := hm0.mod hm1 (fun h => h)
      obtain ⟨a0, a1, a2, a3, a4, a5, a6, a7, a8, a9, a10, a11, a12⟩ := hb1.cells
      clear HC hs0 hm1 hA hm0
      go_wp2_with (fail)
      refine (write_any _).mono ?_
      rintro e w2 ⟨rfl, hw2, hm2⟩
      have hA2 := hA1.trans hm2 (V := fun _ => False) (fun _ _ h => h) (fun _ _ h => h)
      have hb2 := hb1.mod hm2 (fun h => h)
      have hp2 := lt_of_block hw2.blk
      clear a0 a1 a2 a3 a4 a5 a6 a7 a8 a9 a10 a11 a12
      obtain ⟨a0, a1, a2, a3, a4, a5, a6, a7, a8, a9, a10, a11, a12⟩ := hb2.cells
      go_wp2_with (fail)
      have hM3 := (Mod.refl (fun _ => False) w2).alloc (.cells #[.int .i64 k, .int .i64 o, .int .i64 lf, .int .i64 i, .int .i64 p, .int .i64 ps, .int .i64 g, .int .i64 1] 3)
      refine (put_all w1.heap.size (.slice none 0 0) [] [k, o, lf, i, p, ps, g, 1] w2.heap.size 0 8 (w2.alloc (.cells #[.int .i64 k, .int .i64 o, .int .i64 lf, .int .i64 i, .int .i64 p, .int .i64 ps, .int .i64 g, .int .i64 1] 3)) (hw2.mod hM3 (fun h => h) (fun _ _ h => h)) N8 (by omega) (by simp [Value.ownBlock]) (ints_new w2 [k, o, lf, i, p, ps, g, 1]) (by simp) (by simp)).mono ?_
      rintro e w3 ⟨rfl, v3, hw3, hm3, hf3⟩
      have hA3 : Mod (fun _ => False) w w3 := (hA2.alloc _).trans hm3 (fun _ _ h => h) (by rintro q hq (h | h); omega; simp [Value.ownBlock] at h)
      have hb3 := (hb2.mod hM3 (fun h => h)).mod hm3 (by rintro (h | h); omega; simp [Value.ownBlock] at h)
      have hp3 := lt_of_block hw3.blk
      have hv3 := hw3.own.lt
      have hfr3 : ∀ g, v3.ownBlock = some g → w1.heap.size ≤ g := hf3.fresh (w := w1) (by intro g hg; simp [Value.ownBlock] at hg) (by have := hM3.size; omega)
      generalize hQ3 : ([] ++ packs [k, o, lf, i, p, ps, g, 1] : List Int) = Q3 at hw3
      have HQ3 : Hid (([] ++ packs [k, o, lf, i, p, ps, g, 1] : List Int) = Q3) := hQ3
      have hlq3 : Q3.length ≤ 64 := by rw [← hQ3]; simpa using hl8
      clear hQ3 hw2 hm2 hm3 hf3 hM3 hb1 hb2 a0 a1 a2 a3 a4 a5 a6 a7 a8 a9 a10 a11 a12
      obtain ⟨a0, a1, a2, a3, a4, a5, a6, a7, a8, a9, a10, a11, a12⟩ := hb3.cells
      go_wp2_with (fail)
      have hM4 := (Mod.refl (fun _ => False) w3).alloc (.cells #[.int .i64 st, .int .i64 rs, .int .i64 rr, .int .i64 sq] 3)
      refine (put_all w1.heap.size v3 Q3 [st, rs, rr, sq] w3.heap.size 0 4 (w3.alloc (.cells #[.int .i64 st, .int .i64 rs, .int .i64 rr, .int .i64 sq] 3)) (hw3.mod hM4 (fun h => h) (fun _ _ h => h)) N4 (by omega) (fun e => by have := hv3 _ e; omega) (ints_new w3 [st, rs, rr, sq]) (by simp; omega) (by simp)).mono ?_
      rintro e w4 ⟨rfl, v4, hw4, hm4, hf4⟩
      have hA4 : Mod (fun _ => False) w w4 := (hA3.alloc _).trans hm4 (fun _ _ h => h) (by rintro q hq (h | h); omega; have := hfr3 q h; omega)
      have hb4 := (hb3.mod hM4 (fun h => h)).mod hm4 (by rintro (h | h); omega; have := hfr3 _ h; omega)
      have hfr4 : ∀ g, v4.ownBlock = some g → w1.heap.size ≤ g := hf4.fresh (w := w1) hfr3 (by have := hM4.size; omega)
      generalize hQ4 : Q3 ++ packs [st, rs, rr, sq] = Q4 at hw4
      have HQ4 : Hid (Q3 ++ packs [st, rs, rr, sq] = Q4) := hQ4
      have hlq4 : Q4.length ≤ 96 := by rw [← hQ4, List.length_append]; omega
      clear hQ4 hw3 hm4 hf4 hM4 hb3 a0 a1 a2 a3 a4 a5 a6 a7 a8 a9 a10 a11 a12
      obtain ⟨a0, a1, a2, a3, a4, a5, a6, a7, a8, a9, a10, a11, a12⟩ := hb4.cells
      have hs4 := hs.mod hA4 (fun _ _ h => h)
      go_wp2_with (fail)
      refine (WOctets_any w1.heap.size v4 (.slice ao l.length cap) Q4 l w4 hw4 hs4 (fun hne g hg => ⟨by have := hbn hne g hg; omega, fun e => by have := hbn hne g hg; have := hfr4 g e; omega⟩) (by omega)).mono ?_
      rintro e w5 ⟨rfl, v5, hw5, hm5, hf5⟩
      have hA5 : Mod (fun _ => False) w w5 := hA4.trans hm5 (fun _ _ h => h) (by rintro q hq (h | h); omega; have := hfr4 q h; omega)
      generalize hQ5 : Q4 ++ enc l.length ++ l = Q5 at hw5
      have HQ5 : Hid (Q4 ++ enc l.length ++ l = Q5) := hQ5
      have hlq5 : Q5.length ≤ 140737488355328 := by rw [← hQ5, List.length_append, List.length_append]; omega
      clear hQ5 a0 a1 a2 a3 a4 a5 a6 a7 a8 a9 a10 a11 a12
      go_wp2_with (fail)
      refine (Bytes_any w1.heap.size v5 Q5 w5 hw5 hlq5).mono ?_
      rintro e w6 ⟨v6, rfl, ho6, hm6, hf6⟩
      go_wp2
      go_ret2
      refine ⟨_, rfl, hA5.trans hm6 (V := fun _ => False) (fun _ _ h => h) (fun _ _ h => h), fun _ => ⟨?_, fun g hg => by have := hf6 g hg; have := hA5.size; omega⟩, fun h => absurd rfl h⟩
      have e5 : packs [k, o, lf, i, p, ps, g, 1] ++ (packs [st, rs, rr, sq] ++ (enc l.length ++ l)) = Q5 := by rw [← HQ5.out, ← HQ4.out, ← HQ3.out]; simp
      rw [e5]
      exact ho6
    | false =>
      have hpk : pk ⟨k, o, lf, i, p, ps, g, false, st, rs, rr, sq, l⟩ = packs [k, o, lf, i, p, ps, g, 0] ++ (packs [st, rs, rr, sq] ++ (enc l.length ++ l)) := rfl
      rw [hpk]
      clear hpk
      have N8 : Nums [k, o, lf, i, p, ps, g, 0] := n8
      have N4 : Nums [st, rs, rr, sq] := n4
      clear n8 n4
      have hl8 : (packs [k, o, lf, i, p, ps, g, 0]).length ≤ 64 := packs_len [k, o, lf, i, p, ps, g, 0]
      have hl4 : (packs [st, rs, rr, sq]).length ≤ 32 := packs_len [st, rs, rr, sq]
      have hle := enc_len l.length
      go_enter Try.func13, Try.ntmps13
      go_wp2_with (fail)
      refine (HC _ hs0).mono ?_
      rintro e w1 ⟨rfl, hm1⟩
      have hA1 := hA.trans hm1 (V := fun _ => False) (fun _ _ h => h) (fun _ _ h => h)
      have hsz1 : w.heap.size < w1.heap.size := by have := hm1.size; simp at this; omega
      have hb1 := hm0.mod hm1 (fun h => h)
      obtain ⟨a0, a1, a2, a3, a4, a5, a6, a7, a8, a9, a10, a11, a12⟩ := hb1.cells
      clear HC hs0 hm1 hA hm0
      go_wp2_with (fail)
      refine (write_any _).mono ?_
      rintro e w2 ⟨rfl, hw2, hm2⟩
      have hA2 := hA1.trans hm2 (V := fun _ => False) (fun _ _ h => h) (fun _ _ h => h)
      have hb2 := hb1.mod hm2 (fun h => h)
      have hp2 := lt_of_block hw2.blk
      clear a0 a1 a2 a3 a4 a5 a6 a7 a8 a9 a10 a11 a12
      obtain ⟨a0, a1, a2, a3, a4, a5, a6, a7, a8, a9, a10, a11, a12⟩ := hb2.cells
      go_wp2_with (fail)
      have hM3 := (Mod.refl (fun _ => False) w2).alloc (.cells #[.int .i64 k, .int .i64 o, .int .i64 lf, .int .i64 i, .int .i64 p, .int .i64 ps, .int .i64 g, .int .i64 0] 3)
      refine (put_all w1.heap.size (.slice none 0 0) [] [k, o, lf, i, p, ps, g, 0] w2.heap.size 0 8 (w2.alloc (.cells #[.int .i64 k, .int .i64 o, .int .i64 lf, .int .i64 i, .int .i64 p, .int .i64 ps, .int .i64 g, .int .i64 0] 3)) (hw2.mod hM3 (fun h => h) (fun _ _ h => h)) N8 (by omega) (by simp [Value.ownBlock]) (ints_new w2 [k, o, lf, i, p, ps, g, 0]) (by simp) (by simp)).mono ?_
      rintro e w3 ⟨rfl, v3, hw3, hm3, hf3⟩
      have hA3 : Mod (fun _ => False) w w3 := (hA2.alloc _).trans hm3 (fun _ _ h => h) (by rintro q hq (h | h); omega; simp [Value.ownBlock] at h)
      have hb3 := (hb2.mod hM3 (fun h => h)).mod hm3 (by rintro (h | h); omega; simp [Value.ownBlock] at h)
      have hp3 := lt_of_block hw3.blk
      have hv3 := hw3.own.lt
      have hfr3 : ∀ g, v3.ownBlock = some g → w1.heap.size ≤ g := hf3.fresh (w := w1) (by intro g hg; simp [Value.ownBlock] at hg) (by have := hM3.size; omega)
      generalize hQ3 : ([] ++ packs [k, o, lf, i, p, ps, g, 0] : List Int) = Q3 at hw3
      have HQ3 : Hid (([] ++ packs [k, o, lf, i, p, ps, g, 0] : List Int) = Q3) := hQ3
      have hlq3 : Q3.length ≤ 64 := by rw [← hQ3]; simpa using hl8
      clear hQ3 hw2 hm2 hm3 hf3 hM3 hb1 hb2 a0 a1 a2 a3 a4 a5 a6 a7 a8 a9 a10 a11 a12
      obtain ⟨a0, a1, a2, a3, a4, a5, a6, a7, a8, a9, a10, a11, a12⟩ := hb3.cells
      go_wp2_with (fail)
      have hM4 := (Mod.refl (fun _ => False) w3).alloc (.cells #[.int .i64 st, .int .i64 rs, .int .i64 rr, .int .i64 sq] 3)
      refine (put_all w1.heap.size v3 Q3 [st, rs, rr, sq] w3.heap.size 0 4 (w3.alloc (.cells #[.int .i64 st, .int .i64 rs, .int .i64 rr, .int .i64 sq] 3)) (hw3.mod hM4 (fun h => h) (fun _ _ h => h)) N4 (by omega) (fun e => by have := hv3 _ e; omega) (ints_new w3 [st, rs, rr, sq]) (by simp; omega) (by simp)).mono ?_
      rintro e w4 ⟨rfl, v4, hw4, hm4, hf4⟩
      have hA4 : Mod (fun _ => False) w w4 := (hA3.alloc _).trans hm4 (fun _ _ h => h) (by rintro q hq (h | h); omega; have := hfr3 q h; omega)
      have hb4 := (hb3.mod hM4 (fun h => h)).mod hm4 (by rintro (h | h); omega; have := hfr3 _ h; omega)
      have hfr4 : ∀ g, v4.ownBlock = some g → w1.heap.size ≤ g := hf4.fresh (w := w1) hfr3 (by have := hM4.size; omega)
      generalize hQ4 : Q3 ++ packs [st, rs, rr, sq] = Q4 at hw4
      have HQ4 : Hid (Q3 ++ packs [st, rs, rr, sq] = Q4) := hQ4
      have hlq4 : Q4.length ≤ 96 := by rw [← hQ4, List.length_append]; omega
      clear hQ4 hw3 hm4 hf4 hM4 hb3 a0 a1 a2 a3 a4 a5 a6 a7 a8 a9 a10 a11 a12
      obtain ⟨a0, a1, a2, a3, a4, a5, a6, a7, a8, a9, a10, a11, a12⟩ := hb4.cells
      have hs4 := hs.mod hA4 (fun _ _ h => h)
      go_wp2_with (fail)
      refine (WOctets_any w1.heap.size v4 (.slice ao l.length cap) Q4 l w4 hw4 hs4 (fun hne g hg => ⟨by have := hbn hne g hg; omega, fun e => by have := hbn hne g hg; have := hfr4 g e; omega⟩) (by omega)).mono ?_
      rintro e w5 ⟨rfl, v5, hw5, hm5, hf5⟩
      have hA5 : Mod (fun _ => False) w w5 := hA4.trans hm5 (fun _ _ h => h) (by rintro q hq (h | h); omega; have := hfr4 q h; omega)
      generalize hQ5 : Q4 ++ enc l.length ++ l = Q5 at hw5
      have HQ5 : Hid (Q4 ++ enc l.length ++ l = Q5) := hQ5
      have hlq5 : Q5.length ≤ 140737488355328 := by rw [← hQ5, List.length_append, List.length_append]; omega
      clear hQ5 a0 a1 a2 a3 a4 a5 a6 a7 a8 a9 a10 a11 a12
      go_wp2_with (fail)
      refine (Bytes_any w1.heap.size v5 Q5 w5 hw5 hlq5).mono ?_
      rintro e w6 ⟨v6, rfl, ho6, hm6, hf6⟩
      go_wp2
      go_ret2
      refine ⟨_, rfl, hA5.trans hm6 (V := fun _ => False) (fun _ _ h => h) (fun _ _ h => h), fun _ => ⟨?_, fun g hg => by have := hf6 g hg; have := hA5.size; omega⟩, fun h => absurd rfl h⟩
      have e5 : packs [k, o, lf, i, p, ps, g, 0] ++ (packs [st, rs, rr, sq] ++ (enc l.length ++ l)) = Q5 := by rw [← HQ5.out, ← HQ4.out, ← HQ3.out]; simp
      rw [e5]
      exact ho6
end Go.Proofs.Ytajhpnfpjickbaa
namespace Go.Proofs.Ytajhpnfpjickbaa
open Go.RowKit
theorem pkNode (n : Int) (w : World) : Calls Try.prog 112 #[.int .i64 n] w fun e w' => e = .returned (.bool (nd n)) ∧ w' = w := by
  have h : 1 ≤ n ∨ n < 1 := by omega
  rcases h with h | h
  all_goals
    go_enter Try.func112, Try.ntmps112
    go_wp2
    go_ret
    refine ⟨?_, rfl⟩
    simp [nd, h]
    try omega
theorem pkWithin (v a b : Int) (w : World) : Calls Try.prog 135 #[.int .i64 v, .int .i64 a, .int .i64 b] w fun e w' => e = .returned (.bool (win v a b)) ∧ w' = w := by
  have h : a ≤ v ∨ v < a := by omega
  rcases h with h | h
  all_goals
    go_enter Try.func135, Try.ntmps135
    go_wp2
    go_ret
    refine ⟨?_, rfl⟩
    simp [win, h]
    try omega
theorem win_nm (v : Int) : win v 0 9007199254740991 = nm v := by
  rw [win, nm, Bool.eq_iff_iff]
  simp
theorem pkNumber (v : Int) (w : World) : Calls Try.prog 134 #[.int .i64 v] w fun e w' => e = .returned (.bool (nm v)) ∧ w' = w := by
  have H := pkWithin v 0 9007199254740991
  rw [win_nm] at H
  generalize nm v = c at H ⊢
  go_enter Try.func134, Try.ntmps134
  go_wp2_with (fail)
  refine (H _).mono ?_
  rintro e w' ⟨rfl, rfl⟩
  go_wp2
  go_ret
  exact ⟨rfl, rfl⟩
theorem pkRing (q r : Int) (w : World) : Calls Try.prog 117 #[.agg #[.int .i64 q, .int .i64 r]] w fun e w' => e = .returned (.bool (isr q r)) ∧ Mod (fun _ => False) w w' := by
  have hA := ((Mod.refl (fun _ => False) w).alloc (.cells #[.int .i64 q, .int .i64 r] 23)).alloc (.cells #[.int .i64 0, .int .i64 0] 23)
  have H := CheckRing q r
  have ER := eqRing q r 0 0
  have hi : isr q r = (!(decide (q = 0) && decide (r = 0)) && (cr q r == 0)) := by
    rw [isr, Bool.eq_iff_iff]
    simp
  rw [hi]
  generalize (decide (q = 0) && decide (r = 0)) = z at ER ⊢
  generalize cr q r = c at H ⊢
  clear hi
  cases z
  · by_cases hc : c = 0
    · subst hc
      go_enter Try.func117, Try.ntmps117
      go_wp2_with (fail)
      refine (H _).mono ?_
      rintro e w1 ⟨rfl, hm1⟩
      go_wp2
      go_ret
      exact ⟨rfl, hA.trans hm1 (V := fun _ => False) (fun _ _ h => h) (fun _ _ h => h)⟩
    · have hcb : (c == 0) = false := by simp [hc]
      rw [hcb]
      go_enter Try.func117, Try.ntmps117
      go_wp2_with (fail)
      refine (H _).mono ?_
      rintro e w1 ⟨rfl, hm1⟩
      go_wp2
      go_ret
      exact ⟨rfl, hA.trans hm1 (V := fun _ => False) (fun _ _ h => h) (fun _ _ h => h)⟩
  · go_enter Try.func117, Try.ntmps117
    go_wp2
    go_ret
    exact ⟨rfl, hA⟩
theorem hsn_drop {l : List Int} {k : Nat} {x : Int} (h : l[k]? = some x) : hsn (l.drop k) = (x != 0 || hsn (l.drop (k + 1))) := by
  obtain ⟨hk, rfl⟩ := List.getElem?_eq_some_iff.1 h
  rw [List.drop_eq_getElem_cons hk]
  rfl
theorem hasNumbers_any (b : Nat) (l : List Int) (cap : Nat) (w : World) (hl : l.length ≤ 64) (hc : ∀ j, j < l.length → w.cell? ⟨b, 0 + j, none⟩ = some (.int .i64 (l.getD j 0))) :
    Calls Try.prog 132 #[.slice (some ⟨b, 0, none⟩) l.length cap] w fun e w' => e = .returned (.bool (hsn l)) ∧ w' = w := by
  have hd : Hid (hsn l = hsn (l.drop 0)) := rfl
  generalize hsn l = R at hd ⊢
  go_enter Try.func132, Try.ntmps132
  go_wp2
  go_loopw [7] (fun i wr => ∃ k : Nat, i = .int .i64 k ∧ k ≤ l.length ∧ Hid (R = hsn (l.drop k)) ∧ wr = w) (fun i _ => l.length - (intOf i).toNat)
  case atStart => exact ⟨0, rfl, by omega, hd, rfl⟩
  case round =>
    obtain ⟨k, rfl, hk, hR, rfl⟩ := hrel
    by_cases hlt : k < l.length
    · obtain ⟨x, hx⟩ : ∃ x, l[k]? = some x := ⟨_, List.getElem?_eq_getElem hlt⟩
      have hcx := hc k hlt
      have hg : l.getD k 0 = x := by rw [List.getD_eq_getElem?_getD, hx]; rfl
      rw [hg, Nat.zero_add] at hcx
      have hs := hsn_drop hx
      have hki : (k : Int) < l.length := by omega
      rw [hs] at hR
      clear hs hg hx hc
      by_cases h0 : x = 0
      · subst h0
        have HR : Hid (R = hsn (l.drop (k + 1))) := by show _ = _; have := hR.out; simpa using this
        clear hR
        go_wp2
        go_roundw
        case rel => exact ⟨k + 1, by go_num, by omega, HR, by first | rfl | trivial⟩
        case measure => simp [intOf]; omega
      · have hb : (x != 0) = true := by simp [h0]
        have HR : Hid (R = true) := by show _ = _; have := hR.out; rw [hb] at this; simpa using this
        clear hR
        go_wp2
        have hRT := HR.out
        subst hRT
        go_ret
        exact ⟨rfl, rfl⟩
    · have HR : Hid (R = false) := by have := hR.out; rw [List.drop_eq_nil_of_le (by omega)] at this; exact this
      clear hR
      go_wp2
      have hRT := HR.out
      subst hRT
      go_ret
      exact ⟨rfl, rfl⟩
end Go.Proofs.Ytajhpnfpjickbaa
