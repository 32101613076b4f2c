/- Contract of parcel's Pack. Conditions: sizes that a slice of bytes has. -/
import Derived.Test.YthiijonmnebjgaaGreatCv
namespace Go.Proofs.YthiijonmnebjgaaGreat
open Go.RowKit
theorem ints_new (w : World) (vs : List Int) : ∀ j, j < vs.length → (w.alloc (.cells (vs.map (Value.int .i64)).toArray 3)).cell? ⟨w.heap.size, 0 + j, none⟩ = some (.int .i64 (vs.getD j 0)) := by
  intro j hj
  have := heap_alloc_new w (.cells (vs.map (Value.int .i64)).toArray 3)
  rw [Nat.zero_add]
  unfold World.cell?
  dsimp only
  rw [this]
  simp [hj]
theorem Fr.fresh {w w1 : World} {v v' : Value} (h : Fr w1 v v') (hv : ∀ g, v.ownBlock = some g → w.heap.size ≤ g) (hs : w.heap.size ≤ w1.heap.size) : ∀ g, v'.ownBlock = some g → w.heap.size ≤ g := fun g hg => by
  rcases h g hg with h1 | h1
  · exact hv g h1
  · omega

set_option maxRecDepth 100000 in
set_option maxHeartbeats 2000000 in
theorem Pack_any (k o lf i p ps g : Int) (s : Bool) (st rs rr sq : Int) (ao : Option Addr) (cap : Nat) (l : List Int) (w : World) (hs : Sl w (.slice ao l.length cap) l) :
    Calls Tryz.prog 50 #[.agg #[.int .i64 k, .int .i64 o, .int .i64 lf, .int .i64 i, .int .i64 p, .int .i64 ps, .int .i64 g, .bool s, .int .i64 st, .int .i64 rs, .int .i64 rr, .int .i64 sq, .slice ao l.length cap]] w fun e w' => ∃ v1, e = .returned (.tuple #[v1, .int .i64 (chk ⟨k, o, lf, i, p, ps, g, s, st, rs, rr, sq, l⟩)]) ∧ Mod (fun _ => False) w w' ∧
      (chk ⟨k, o, lf, i, p, ps, g, s, st, rs, rr, sq, l⟩ = 0 → Own w' v1 (pk ⟨k, o, lf, i, p, ps, g, s, st, rs, rr, sq, l⟩) ∧ (∀ g, v1.ownBlock = some g → w.heap.size ≤ g)) ∧ (chk ⟨k, o, lf, i, p, ps, g, s, st, rs, rr, sq, l⟩ ≠ 0 → v1 = .slice none 0 0) := by
  have HC := fun W h => Check_any k o lf i p ps g s st rs rr sq ao cap l W h
  have hm0 := MB.new w k o lf i p ps g s st rs rr sq (.slice ao l.length cap)
  have hA := (Mod.refl (fun _ => False) w).alloc (.cells #[.int .i64 k, .int .i64 o, .int .i64 lf, .int .i64 i, .int .i64 p, .int .i64 ps, .int .i64 g, .bool s, .int .i64 st, .int .i64 rs, .int .i64 rr, .int .i64 sq, .slice ao l.length cap] 43)
  have hs0 := hs.mod hA (fun _ _ h => h)
  have hbn : l ≠ [] → ∀ g, (Value.slice ao l.length cap).ownBlock = some g → g < w.heap.size := hs.lt
  by_cases hc : chk ⟨k, o, lf, i, p, ps, g, s, st, rs, rr, sq, l⟩ = 0
  case neg =>
    generalize chk ⟨k, o, lf, i, p, ps, g, s, st, rs, rr, sq, l⟩ = E at HC hc ⊢
    have hen : (E != 0) = true := by simp [hc]
    go_enter Tryz.func50, Tryz.ntmps50
    go_wp2_with (fail)
    refine (HC _ hs0).mono ?_
    rintro e w1 ⟨rfl, hm1⟩
    go_wp2
    go_ret2
    exact ⟨_, rfl, hA.trans hm1 (V := fun _ => False) (fun _ _ h => h) (fun _ _ h => h), fun h => absurd h hc, fun _ => rfl⟩
  case pos =>
    obtain ⟨n8, n4⟩ := chk_nums hc
    have hl := (chk_parts hc).1
    dsimp only at hl
    rw [hc] at HC ⊢
    clear hc
    cases s with
    | true =>
      have hpk : pk ⟨k, o, lf, i, p, ps, g, true, st, rs, rr, sq, l⟩ = packs [k, o, lf, i, p, ps, g, 1] ++ (packs [st, rs, rr, sq] ++ (enc l.length ++ l)) := rfl
      rw [hpk]
      clear hpk
      have N8 : Nums [k, o, lf, i, p, ps, g, 1] := n8
      have N4 : Nums [st, rs, rr, sq] := n4
      clear n8 n4
      have hl8 : (packs [k, o, lf, i, p, ps, g, 1]).length ≤ 64 := packs_len [k, o, lf, i, p, ps, g, 1]
      have hl4 : (packs [st, rs, rr, sq]).length ≤ 32 := packs_len [st, rs, rr, sq]
      have hle := enc_len l.length
      go_enter Tryz.func50, Tryz.ntmps50
      go_wp2_with (fail)
      refine (HC _ hs0).mono ?_
      rintro e w1 ⟨rfl, hm1⟩
      have hA1 := hA.trans hm1 (V := fun _ => False) (fun _ _ h => h) (fun _ _ h => h)
      have hsz1 : w.heap.size < w1.heap.size := by have := hm1.size; simp at this; omega
      have hb1 := hm0.mod hm1 (fun h => h)
      obtain ⟨a0, a1, a2, a3, a4, a5, a6, a7, a8, a9, a10, a11, a12⟩ := hb1.cells
      clear HC hs0 hm1 hA hm0
      go_wp2_with (fail)
      refine (write_any _).mono ?_
      rintro e w2 ⟨rfl, hw2, hm2⟩
      have hA2 := hA1.trans hm2 (V := fun _ => False) (fun _ _ h => h) (fun _ _ h => h)
      have hb2 := hb1.mod hm2 (fun h => h)
      have hp2 := lt_of_block hw2.blk
      clear a0 a1 a2 a3 a4 a5 a6 a7 a8 a9 a10 a11 a12
      obtain ⟨a0, a1, a2, a3, a4, a5, a6, a7, a8, a9, a10, a11, a12⟩ := hb2.cells
      go_wp2_with (fail)
      have hM3 := (Mod.refl (fun _ => False) w2).alloc (.cells #[.int .i64 k, .int .i64 o, .int .i64 lf, .int .i64 i, .int .i64 p, .int .i64 ps, .int .i64 g, .int .i64 1] 3)
      refine (put_all w1.heap.size (.slice none 0 0) [] [k, o, lf, i, p, ps, g, 1] w2.heap.size 0 8 (w2.alloc (.cells #[.int .i64 k, .int .i64 o, .int .i64 lf, .int .i64 i, .int .i64 p, .int .i64 ps, .int .i64 g, .int .i64 1] 3)) (hw2.mod hM3 (fun h => h) (fun _ _ h => h)) N8 (by omega) (by simp [Value.ownBlock]) (ints_new w2 [k, o, lf, i, p, ps, g, 1]) (by simp) (by simp)).mono ?_
      rintro e w3 ⟨rfl, v3, hw3, hm3, hf3⟩
      have hA3 : Mod (fun _ => False) w w3 := (hA2.alloc _).trans hm3 (fun _ _ h => h) (by rintro q hq (h | h); omega; simp [Value.ownBlock] at h)
      have hb3 := (hb2.mod hM3 (fun h => h)).mod hm3 (by rintro (h | h); omega; simp [Value.ownBlock] at h)
      have hp3 := lt_of_block hw3.blk
      have hv3 := hw3.own.lt
      have hfr3 : ∀ g, v3.ownBlock = some g → w1.heap.size ≤ g := hf3.fresh (w := w1) (by intro g hg; simp [Value.ownBlock] at hg) (by have := hM3.size; omega)
      generalize hQ3 : ([] ++ packs [k, o, lf, i, p, ps, g, 1] : List Int) = Q3 at hw3
      have HQ3 : Hid (([] ++ packs [k, o, lf, i, p, ps, g, 1] : List Int) = Q3) := hQ3
      have hlq3 : Q3.length ≤ 64 := by rw [← hQ3]; simpa using hl8
      clear hQ3 hw2 hm2 hm3 hf3 hM3 hb1 hb2 a0 a1 a2 a3 a4 a5 a6 a7 a8 a9 a10 a11 a12
      obtain ⟨a0, a1, a2, a3, a4, a5, a6, a7, a8, a9, a10, a11, a12⟩ := hb3.cells
      go_wp2_with (fail)
      have hM4 := (Mod.refl (fun _ => False) w3).alloc (.cells #[.int .i64 st, .int .i64 rs, .int .i64 rr, .int .i64 sq] 3)
      refine (put_all w1.heap.size v3 Q3 [st, rs, rr, sq] w3.heap.size 0 4 (w3.alloc (.cells #[.int .i64 st, .int .i64 rs, .int .i64 rr, .int .i64 sq] 3)) (hw3.mod hM4 (fun h => h) (fun _ _ h => h)) N4 (by omega) (fun e => by have := hv3 _ e; omega) (ints_new w3 [st, rs, rr, sq]) (by simp; omega) (by simp)).mono ?_
      rintro e w4 ⟨rfl, v4, hw4, hm4, hf4⟩
      have hA4 : Mod (fun _ => False) w w4 := (hA3.alloc _).trans hm4 (fun _ _ h => h) (by rintro q hq (h | h); omega; have := hfr3 q h; omega)
      have hb4 := (hb3.mod hM4 (fun h => h)).mod hm4 (by rintro (h | h); omega; have := hfr3 _ h; omega)
      have hfr4 : ∀ g, v4.ownBlock = some g → w1.heap.size ≤ g := hf4.fresh (w := w1) hfr3 (by have := hM4.size; omega)
      generalize hQ4 : Q3 ++ packs [st, rs, rr, sq] = Q4 at hw4
      have HQ4 : Hid (Q3 ++ packs [st, rs, rr, sq] = Q4) := hQ4
      have hlq4 : Q4.length ≤ 96 := by rw [← hQ4, List.length_append]; omega
      clear hQ4 hw3 hm4 hf4 hM4 hb3 a0 a1 a2 a3 a4 a5 a6 a7 a8 a9 a10 a11 a12
      obtain ⟨a0, a1, a2, a3, a4, a5, a6, a7, a8, a9, a10, a11, a12⟩ := hb4.cells
      have hs4 := hs.mod hA4 (fun _ _ h => h)
      go_wp2_with (fail)
      refine (WOctets_any w1.heap.size v4 (.slice ao l.length cap) Q4 l w4 hw4 hs4 (fun hne g hg => ⟨by have := hbn hne g hg; omega, fun e => by have := hbn hne g hg; have := hfr4 g e; omega⟩) (by omega)).mono ?_
      rintro e w5 ⟨rfl, v5, hw5, hm5, hf5⟩
      have hA5 : Mod (fun _ => False) w w5 := hA4.trans hm5 (fun _ _ h => h) (by rintro q hq (h | h); omega; have := hfr4 q h; omega)
      generalize hQ5 : Q4 ++ enc l.length ++ l = Q5 at hw5
      have HQ5 : Hid (Q4 ++ enc l.length ++ l = Q5) := hQ5
      have hlq5 : Q5.length ≤ 140737488355328 := by rw [← hQ5, List.length_append, List.length_append]; omega
      clear hQ5 a0 a1 a2 a3 a4 a5 a6 a7 a8 a9 a10 a11 a12
      go_wp2_with (fail)
      refine (Bytes_any w1.heap.size v5 Q5 w5 hw5 hlq5).mono ?_
      rintro e w6 ⟨v6, rfl, ho6, hm6, hf6⟩
      go_wp2
      go_ret2
      refine ⟨_, rfl, hA5.trans hm6 (V := fun _ => False) (fun _ _ h => h) (fun _ _ h => h), fun _ => ⟨?_, fun g hg => by have := hf6 g hg; have := hA5.size; omega⟩, fun h => absurd rfl h⟩
      have e5 : packs [k, o, lf, i, p, ps, g, 1] ++ (packs [st, rs, rr, sq] ++ (enc l.length ++ l)) = Q5 := by rw [← HQ5.out, ← HQ4.out, ← HQ3.out]; simp
      rw [e5]
      exact ho6
    | false =>
      have hpk : pk ⟨k, o, lf, i, p, ps, g, false, st, rs, rr, sq, l⟩ = packs [k, o, lf, i, p, ps, g, 0] ++ (packs [st, rs, rr, sq] ++ (enc l.length ++ l)) := rfl
      rw [hpk]
      clear hpk
      have N8 : Nums [k, o, lf, i, p, ps, g, 0] := n8
      have N4 : Nums [st, rs, rr, sq] := n4
      clear n8 n4
      have hl8 : (packs [k, o, lf, i, p, ps, g, 0]).length ≤ 64 := packs_len [k, o, lf, i, p, ps, g, 0]
      have hl4 : (packs [st, rs, rr, sq]).length ≤ 32 := packs_len [st, rs, rr, sq]
      have hle := enc_len l.length
      go_enter Tryz.func50, Tryz.ntmps50
      go_wp2_with (fail)
      refine (HC _ hs0).mono ?_
      rintro e w1 ⟨rfl, hm1⟩
      have hA1 := hA.trans hm1 (V := fun _ => False) (fun _ _ h => h) (fun _ _ h => h)
      have hsz1 : w.heap.size < w1.heap.size := by have := hm1.size; simp at this; omega
      have hb1 := hm0.mod hm1 (fun h => h)
      obtain ⟨a0, a1, a2, a3, a4, a5, a6, a7, a8, a9, a10, a11, a12⟩ := hb1.cells
      clear HC hs0 hm1 hA hm0
      go_wp2_with (fail)
      refine (write_any _).mono ?_
      rintro e w2 ⟨rfl, hw2, hm2⟩
      have hA2 := hA1.trans hm2 (V := fun _ => False) (fun _ _ h => h) (fun _ _ h => h)
      have hb2 := hb1.mod hm2 (fun h => h)
      have hp2 := lt_of_block hw2.blk
      clear a0 a1 a2 a3 a4 a5 a6 a7 a8 a9 a10 a11 a12
      obtain ⟨a0, a1, a2, a3, a4, a5, a6, a7, a8, a9, a10, a11, a12⟩ := hb2.cells
      go_wp2_with (fail)
      have hM3 := (Mod.refl (fun _ => False) w2).alloc (.cells #[.int .i64 k, .int .i64 o, .int .i64 lf, .int .i64 i, .int .i64 p, .int .i64 ps, .int .i64 g, .int .i64 0] 3)
      refine (put_all w1.heap.size (.slice none 0 0) [] [k, o, lf, i, p, ps, g, 0] w2.heap.size 0 8 (w2.alloc (.cells #[.int .i64 k, .int .i64 o, .int .i64 lf, .int .i64 i, .int .i64 p, .int .i64 ps, .int .i64 g, .int .i64 0] 3)) (hw2.mod hM3 (fun h => h) (fun _ _ h => h)) N8 (by omega) (by simp [Value.ownBlock]) (ints_new w2 [k, o, lf, i, p, ps, g, 0]) (by simp) (by simp)).mono ?_
      rintro e w3 ⟨rfl, v3, hw3, hm3, hf3⟩
      have hA3 : Mod (fun _ => False) w w3 := (hA2.alloc _).trans hm3 (fun _ _ h => h) (by rintro q hq (h | h); omega; simp [Value.ownBlock] at h)
      have hb3 := (hb2.mod hM3 (fun h => h)).mod hm3 (by rintro (h | h); omega; simp [Value.ownBlock] at h)
      have hp3 := lt_of_block hw3.blk
      have hv3 := hw3.own.lt
      have hfr3 : ∀ g, v3.ownBlock = some g → w1.heap.size ≤ g := hf3.fresh (w := w1) (by intro g hg; simp [Value.ownBlock] at hg) (by have := hM3.size; omega)
      generalize hQ3 : ([] ++ packs [k, o, lf, i, p, ps, g, 0] : List Int) = Q3 at hw3
      have HQ3 : Hid (([] ++ packs [k, o, lf, i, p, ps, g, 0] : List Int) = Q3) := hQ3
      have hlq3 : Q3.length ≤ 64 := by rw [← hQ3]; simpa using hl8
      clear hQ3 hw2 hm2 hm3 hf3 hM3 hb1 hb2 a0 a1 a2 a3 a4 a5 a6 a7 a8 a9 a10 a11 a12
      obtain ⟨a0, a1, a2, a3, a4, a5, a6, a7, a8, a9, a10, a11, a12⟩ := hb3.cells
      go_wp2_with (fail)
      have hM4 := (Mod.refl (fun _ => False) w3).alloc (.cells #[.int .i64 st, .int .i64 rs, .int .i64 rr, .int .i64 sq] 3)
      refine (put_all w1.heap.size v3 Q3 [st, rs, rr, sq] w3.heap.size 0 4 (w3.alloc (.cells #[.int .i64 st, .int .i64 rs, .int .i64 rr, .int .i64 sq] 3)) (hw3.mod hM4 (fun h => h) (fun _ _ h => h)) N4 (by omega) (fun e => by have := hv3 _ e; omega) (ints_new w3 [st, rs, rr, sq]) (by simp; omega) (by simp)).mono ?_
      rintro e w4 ⟨rfl, v4, hw4, hm4, hf4⟩
      have hA4 : Mod (fun _ => False) w w4 := (hA3.alloc _).trans hm4 (fun _ _ h => h) (by rintro q hq (h | h); omega; have := hfr3 q h; omega)
      have hb4 := (hb3.mod hM4 (fun h => h)).mod hm4 (by rintro (h | h); omega; have := hfr3 _ h; omega)
      have hfr4 : ∀ g, v4.ownBlock = some g → w1.heap.size ≤ g := hf4.fresh (w := w1) hfr3 (by have := hM4.size; omega)
      generalize hQ4 : Q3 ++ packs [st, rs, rr, sq] = Q4 at hw4
      have HQ4 : Hid (Q3 ++ packs [st, rs, rr, sq] = Q4) := hQ4
      have hlq4 : Q4.length ≤ 96 := by rw [← hQ4, List.length_append]; omega
      clear hQ4 hw3 hm4 hf4 hM4 hb3 a0 a1 a2 a3 a4 a5 a6 a7 a8 a9 a10 a11 a12
      obtain ⟨a0, a1, a2, a3, a4, a5, a6, a7, a8, a9, a10, a11, a12⟩ := hb4.cells
      have hs4 := hs.mod hA4 (fun _ _ h => h)
      go_wp2_with (fail)
      refine (WOctets_any w1.heap.size v4 (.slice ao l.length cap) Q4 l w4 hw4 hs4 (fun hne g hg => ⟨by have := hbn hne g hg; omega, fun e => by have := hbn hne g hg; have := hfr4 g e; omega⟩) (by omega)).mono ?_
      rintro e w5 ⟨rfl, v5, hw5, hm5, hf5⟩
      have hA5 : Mod (fun _ => False) w w5 := hA4.trans hm5 (fun _ _ h => h) (by rintro q hq (h | h); omega; have := hfr4 q h; omega)
      generalize hQ5 : Q4 ++ enc l.length ++ l = Q5 at hw5
      have HQ5 : Hid (Q4 ++ enc l.length ++ l = Q5) := hQ5
      have hlq5 : Q5.length ≤ 140737488355328 := by rw [← hQ5, List.length_append, List.length_append]; omega
      clear hQ5 a0 a1 a2 a3 a4 a5 a6 a7 a8 a9 a10 a11 a12
      go_wp2_with (fail)
      refine (Bytes_any w1.heap.size v5 Q5 w5 hw5 hlq5).mono ?_
      rintro e w6 ⟨v6, rfl, ho6, hm6, hf6⟩
      go_wp2
      go_ret2
      refine ⟨_, rfl, hA5.trans hm6 (V := fun _ => False) (fun _ _ h => h) (fun _ _ h => h), fun _ => ⟨?_, fun g hg => by have := hf6 g hg; have := hA5.size; omega⟩, fun h => absurd rfl h⟩
      have e5 : packs [k, o, lf, i, p, ps, g, 0] ++ (packs [st, rs, rr, sq] ++ (enc l.length ++ l)) = Q5 := by rw [← HQ5.out, ← HQ4.out, ← HQ3.out]; simp
      rw [e5]
      exact ho6
end Go.Proofs.YthiijonmnebjgaaGreat
