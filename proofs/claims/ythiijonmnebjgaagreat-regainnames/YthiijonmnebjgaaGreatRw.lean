/- Contracts of the document's bytes, Pack and Copy. Conditions: sizes that a slice of bytes has. -/
import Derived.Test.YthiijonmnebjgaaGreatRx
import Derived.Test.YthiijonmnebjgaaGreatGa
import Derived.Test.YthiijonmnebjgaaGreatCw
namespace Go.Proofs.YthiijonmnebjgaaGreat
open Go.RowKit
theorem packs_take {vs : List Int} {j x : Nat} (h : vs[j]? = some (x : Int)) : packs (vs.take (j + 1)) = packs (vs.take j) ++ enc x := by
  rw [List.take_add_one, h, packs_app]
  simp [packs]
set_option maxRecDepth 100000 in
set_option maxHeartbeats 4000000 in
theorem dBytes (k o lf i p ps g : Int) (s : Bool) (st rs rr sq : Int) (ao : Option Addr) (cap : Nat) (l : List Int) (w : World) (hs : Sl w (.slice ao l.length cap) l) (n8 : Nums (Ms.n8 ⟨k, o, lf, i, p, ps, g, s, st, rs, rr, sq, l⟩)) (n4 : Nums (Ms.n4 ⟨k, o, lf, i, p, ps, g, s, st, rs, rr, sq, l⟩)) (hl : l.length ≤ 160) :
    Calls Tryz.prog 55 #[.agg #[.int .i64 k, .int .i64 o, .int .i64 lf, .int .i64 i, .int .i64 p, .int .i64 ps, .int .i64 g, .bool s, .int .i64 st, .int .i64 rs, .int .i64 rr, .int .i64 sq, .slice ao l.length cap]] w fun e w' => ∃ v1, e = .returned v1 ∧ Own w' v1 (pk ⟨k, o, lf, i, p, ps, g, s, st, rs, rr, sq, l⟩) ∧ Mod (fun _ => False) w w' ∧ (∀ g, v1.ownBlock = some g → w.heap.size ≤ g) := by
  cases s with
  | false =>
    have hA := (Mod.refl (fun _ => False) w).alloc (.cells #[.int .i64 k, .int .i64 o, .int .i64 lf, .int .i64 i, .int .i64 p, .int .i64 ps, .int .i64 g, .bool false, .int .i64 st, .int .i64 rs, .int .i64 rr, .int .i64 sq, .slice ao l.length cap] 43)
    have hb0 := MB.new w k o lf i p ps g false st rs rr sq (.slice ao l.length cap)
    have hpk : pk ⟨k, o, lf, i, p, ps, g, false, st, rs, rr, sq, l⟩ = packs [k, o, lf, i, p, ps, g, 0, st, rs, rr, sq] ++ enc l.length ++ l := by
      show packs [k, o, lf, i, p, ps, g, 0] ++ (packs [st, rs, rr, sq] ++ (enc l.length ++ l)) = _
      rw [show [k, o, lf, i, p, ps, g, 0, st, rs, rr, sq] = [k, o, lf, i, p, ps, g, 0] ++ [st, rs, rr, sq] from rfl, packs_app]
      simp
    rw [hpk]
    have hN : Nums [k, o, lf, i, p, ps, g, 0, st, rs, rr, sq] := by
      intro x hx
      rw [show [k, o, lf, i, p, ps, g, 0, st, rs, rr, sq] = [k, o, lf, i, p, ps, g, 0] ++ [st, rs, rr, sq] from rfl, List.mem_append] at hx
      rcases hx with hx | hx
      · exact n8 x hx
      · exact n4 x hx
    have hI := ints_new (w.alloc (.cells #[.int .i64 k, .int .i64 o, .int .i64 lf, .int .i64 i, .int .i64 p, .int .i64 ps, .int .i64 g, .bool false, .int .i64 st, .int .i64 rs, .int .i64 rr, .int .i64 sq, .slice ao l.length cap] 43)) [k, o, lf, i, p, ps, g, 0, st, rs, rr, sq]
    have hB := hA.alloc (.cells #[.int .i64 k, .int .i64 o, .int .i64 lf, .int .i64 i, .int .i64 p, .int .i64 ps, .int .i64 g, .int .i64 0, .int .i64 st, .int .i64 rs, .int .i64 rr, .int .i64 sq] 3)
    have hb1 := hb0.mod ((Mod.refl (fun _ => False) (w.alloc (.cells #[.int .i64 k, .int .i64 o, .int .i64 lf, .int .i64 i, .int .i64 p, .int .i64 ps, .int .i64 g, .bool false, .int .i64 st, .int .i64 rs, .int .i64 rr, .int .i64 sq, .slice ao l.length cap] 43))).alloc (.cells #[.int .i64 k, .int .i64 o, .int .i64 lf, .int .i64 i, .int .i64 p, .int .i64 ps, .int .i64 g, .int .i64 0, .int .i64 st, .int .i64 rs, .int .i64 rr, .int .i64 sq] 3)) (fun h => h)
    have hsz : ((w.alloc (.cells #[.int .i64 k, .int .i64 o, .int .i64 lf, .int .i64 i, .int .i64 p, .int .i64 ps, .int .i64 g, .bool false, .int .i64 st, .int .i64 rs, .int .i64 rr, .int .i64 sq, .slice ao l.length cap] 43)).alloc (.cells #[.int .i64 k, .int .i64 o, .int .i64 lf, .int .i64 i, .int .i64 p, .int .i64 ps, .int .i64 g, .int .i64 0, .int .i64 st, .int .i64 rs, .int .i64 rr, .int .i64 sq] 3)).heap.size = w.heap.size + 2 := by simp
    have hsz1 : (w.alloc (.cells #[.int .i64 k, .int .i64 o, .int .i64 lf, .int .i64 i, .int .i64 p, .int .i64 ps, .int .i64 g, .bool false, .int .i64 st, .int .i64 rs, .int .i64 rr, .int .i64 sq, .slice ao l.length cap] 43)).heap.size = w.heap.size + 1 := by simp
    rw [hsz1] at hI
    change ∀ j, j < 12 → ((w.alloc (.cells #[.int .i64 k, .int .i64 o, .int .i64 lf, .int .i64 i, .int .i64 p, .int .i64 ps, .int .i64 g, .bool false, .int .i64 st, .int .i64 rs, .int .i64 rr, .int .i64 sq, .slice ao l.length cap] 43)).alloc (.cells #[.int .i64 k, .int .i64 o, .int .i64 lf, .int .i64 i, .int .i64 p, .int .i64 ps, .int .i64 g, .int .i64 0, .int .i64 st, .int .i64 rs, .int .i64 rr, .int .i64 sq] 3)).cell? ⟨w.heap.size + 1, 0 + j, none⟩ = _ at hI
    obtain ⟨vs, hvs⟩ : ∃ vs : List Int, [k, o, lf, i, p, ps, g, 0, st, rs, rr, sq] = vs := ⟨_, rfl⟩
    have hvl : vs.length = 12 := by rw [← hvs]; rfl
    rw [hvs] at hI hN ⊢
    have hle := packs_len vs
    rw [hvl] at hle
    have htk : packs vs = packs (vs.take 12) := by rw [List.take_of_length_le (by omega)]
    have hle2 := enc_len l.length
    have HI : Hid (∀ j, j < 12 → _) := hI
    have HN : Hid (Nums vs) := hN
    clear hN hI hpk n8 n4 hvs hb0 hA
    go_enter Tryz.func55, Tryz.ntmps55
    go_wp2_with (fail)
    generalize (w.alloc (.cells #[.int .i64 k, .int .i64 o, .int .i64 lf, .int .i64 i, .int .i64 p, .int .i64 ps, .int .i64 g, .bool false, .int .i64 st, .int .i64 rs, .int .i64 rr, .int .i64 sq, .slice ao l.length cap] 43)).alloc (.cells #[.int .i64 k, .int .i64 o, .int .i64 lf, .int .i64 i, .int .i64 p, .int .i64 ps, .int .i64 g, .int .i64 0, .int .i64 st, .int .i64 rs, .int .i64 rr, .int .i64 sq] 3) = w2 at *
    refine (gWrite _).mono ?_
    rintro e w3 ⟨rfl, hw3, hm3⟩
    rw [hsz] at hw3
    rw [hsz]
    have hM3 := hB.trans hm3 (V := fun _ => False) (fun _ _ h => h) (fun _ _ h => h)
    have HI3 : Hid (∀ j, j < 12 → w3.cell? ⟨w.heap.size + 1, j, none⟩ = some (.int .i64 (vs.getD j 0))) := fun j hj => hm3.cell (by have := HI.out j hj; rwa [Nat.zero_add] at this) (fun h => h)
    have hb3 := hb1.mod hm3 (fun h => h)
    have hs3 := hs.mod hM3 (fun _ _ h => h)
    have hw3' : Wg w3 (w.heap.size + 2) (.slice none 0 0) (packs (vs.take 0)) := hw3
    clear HI hB hm3 hb1 hw3
    go_wp2
    go_loopw [6] (fun x wr => ∃ (j : Nat) (v' : Value), x = .int .i64 j ∧ j ≤ 12 ∧ Hid (Wg wr (w.heap.size + 2) v' (packs (vs.take j))) ∧ Hid (Mod (fun q => w.heap.size + 2 ≤ q) w3 wr) ∧ Hid (∀ q, v'.ownBlock = some q → w.heap.size + 2 < q)) (fun x _ => 12 - (intOf x).toNat)
    case atStart => exact ⟨0, _, rfl, by omega, hw3', Mod.refl _ _, by show ∀ q, _; intro q hq; simp [Value.ownBlock] at hq⟩
    case round =>
      obtain ⟨j, v', rfl, hj, hw, hm, hv⟩ := hrel
      by_cases hlt : j < 12
      · have hx := nums_getD HN.out j
        obtain ⟨x, hxe⟩ : ∃ x : Nat, vs.getD j 0 = x := ⟨(vs.getD j 0).toNat, by omega⟩
        have hc := hm.out.cell (HI3.out j hlt) (by show ¬ (w.heap.size + 2 ≤ w.heap.size + 1); omega)
        rw [hxe] at hc hx
        have hget : vs[j]? = some (x : Int) := by
          rw [List.getD_eq_getElem?_getD, List.getElem?_eq_getElem (by omega)] at hxe
          rw [List.getElem?_eq_getElem (by omega)]
          simpa using hxe
        have hpt : Hid (packs (vs.take (j + 1)) = _) := packs_take hget
        have hpl := packs_len (vs.take j)
        have htl : (vs.take j).length ≤ 12 := by rw [List.length_take]; omega
        have HG := gPut_go (w.heap.size + 2) v' (packs (vs.take j)) x wr hw.out (by omega) (by omega)
        have hsw : w.heap.size + 2 < wr.heap.size := lt_of_block hw.out.blk
        have hji : (j : Int) < 12 := by omega
        clear hxe hget hpl htl hx hw
        go_wp2_with (fail)
        refine HG.mono ?_
        rintro e w4 ⟨rfl, v4, hw4, hm4, hf4⟩
        have HW4 : Hid (Wg _ _ _ _) := hw4
        have HM4 : Hid (Mod (fun q => w.heap.size + 2 ≤ q) w3 w4) := hm.out.trans hm4 (fun _ _ h => h) (fun q _ h => by rcases h with h | h; omega; have := hv.out q h; omega)
        have HV4 : Hid (∀ q, v4.ownBlock = some q → w.heap.size + 2 < q) := fun q hq => by rcases hf4 q hq with h | h; exact hv.out q h; omega
        clear hw4 hm4 hf4 hm hv HG
        go_wp2
        go_roundw
        case rel => exact ⟨j + 1, v4, by go_num, by omega, by show Wg _ _ _ _; rw [hpt.out]; exact HW4.out, HM4, HV4⟩
        case measure => simp [intOf]; omega
      · obtain rfl : j = 12 := by omega
        rw [← htk] at hw
        obtain ⟨a0, a1, a2, a3, a4, a5, a6, a7, a8, a9, a10, a11, a12⟩ := (hb3.mod hm.out (by omega)).cells
        have hs5 := hs3.mod2 hm.out (fun hl q hq h => by have := hs.lt hl q hq; omega)
        have HO := gOctets (w.heap.size + 2) v' (.slice ao l.length cap) (packs vs) l wr hw.out hs5 (fun hl q hq => ⟨by have := hs.lt hl q hq; omega, fun e => by have := hs.lt hl q hq; have := hv.out q e; omega⟩) (by omega) (by omega)
        have HF : Hid (Mod (fun q => w.heap.size + 2 ≤ q) w3 wr) := hm
        clear hw hm hw3' hb3
        go_wp2_with (fail)
        refine HO.mono ?_
        rintro e w5 ⟨rfl, v5, hw5, hm5, hf5⟩
        have HB := gBytes _ v5 _ w5 hw5 (by simp only [List.length_append]; omega)
        have HM5 : Hid (Mod (fun _ => False) w w5) := (hM3.trans HF.out (V := fun _ => False) (fun _ _ h => h) (fun q hq h => by omega)).trans hm5 (V := fun _ => False) (fun _ _ h => h) (fun q hq h => by rcases h with h | h; omega; have := hv.out q h; omega)
        clear HO hw5 hm5 hf5 a0 a1 a2 a3 a4 a5 a6 a7 a8 a9 a10 a11 a12
        go_wp2_with (fail)
        refine HB.mono ?_
        rintro e w6 ⟨v6, rfl, ho6, hm6, hf6⟩
        have hz := HM5.out.size
        go_wp2
        go_ret
        exact ⟨_, rfl, ho6, HM5.out.trans hm6 (V := fun _ => False) (fun _ _ h => h) (fun _ _ h => h), fun q hq => by have := hf6 q hq; omega⟩
  | true =>
    have hA := (Mod.refl (fun _ => False) w).alloc (.cells #[.int .i64 k, .int .i64 o, .int .i64 lf, .int .i64 i, .int .i64 p, .int .i64 ps, .int .i64 g, .bool true, .int .i64 st, .int .i64 rs, .int .i64 rr, .int .i64 sq, .slice ao l.length cap] 43)
    have hb0 := MB.new w k o lf i p ps g true st rs rr sq (.slice ao l.length cap)
    have hpk : pk ⟨k, o, lf, i, p, ps, g, true, st, rs, rr, sq, l⟩ = packs [k, o, lf, i, p, ps, g, 1, st, rs, rr, sq] ++ enc l.length ++ l := by
      show packs [k, o, lf, i, p, ps, g, 1] ++ (packs [st, rs, rr, sq] ++ (enc l.length ++ l)) = _
      rw [show [k, o, lf, i, p, ps, g, 1, st, rs, rr, sq] = [k, o, lf, i, p, ps, g, 1] ++ [st, rs, rr, sq] from rfl, packs_app]
      simp
    rw [hpk]
    have hN : Nums [k, o, lf, i, p, ps, g, 1, st, rs, rr, sq] := by
      intro x hx
      rw [show [k, o, lf, i, p, ps, g, 1, st, rs, rr, sq] = [k, o, lf, i, p, ps, g, 1] ++ [st, rs, rr, sq] from rfl, List.mem_append] at hx
      rcases hx with hx | hx
      · exact n8 x hx
      · exact n4 x hx
    have hI := ints_new (w.alloc (.cells #[.int .i64 k, .int .i64 o, .int .i64 lf, .int .i64 i, .int .i64 p, .int .i64 ps, .int .i64 g, .bool true, .int .i64 st, .int .i64 rs, .int .i64 rr, .int .i64 sq, .slice ao l.length cap] 43)) [k, o, lf, i, p, ps, g, 1, st, rs, rr, sq]
    have hB := hA.alloc (.cells #[.int .i64 k, .int .i64 o, .int .i64 lf, .int .i64 i, .int .i64 p, .int .i64 ps, .int .i64 g, .int .i64 1, .int .i64 st, .int .i64 rs, .int .i64 rr, .int .i64 sq] 3)
    have hb1 := hb0.mod ((Mod.refl (fun _ => False) (w.alloc (.cells #[.int .i64 k, .int .i64 o, .int .i64 lf, .int .i64 i, .int .i64 p, .int .i64 ps, .int .i64 g, .bool true, .int .i64 st, .int .i64 rs, .int .i64 rr, .int .i64 sq, .slice ao l.length cap] 43))).alloc (.cells #[.int .i64 k, .int .i64 o, .int .i64 lf, .int .i64 i, .int .i64 p, .int .i64 ps, .int .i64 g, .int .i64 1, .int .i64 st, .int .i64 rs, .int .i64 rr, .int .i64 sq] 3)) (fun h => h)
    have hsz : ((w.alloc (.cells #[.int .i64 k, .int .i64 o, .int .i64 lf, .int .i64 i, .int .i64 p, .int .i64 ps, .int .i64 g, .bool true, .int .i64 st, .int .i64 rs, .int .i64 rr, .int .i64 sq, .slice ao l.length cap] 43)).alloc (.cells #[.int .i64 k, .int .i64 o, .int .i64 lf, .int .i64 i, .int .i64 p, .int .i64 ps, .int .i64 g, .int .i64 1, .int .i64 st, .int .i64 rs, .int .i64 rr, .int .i64 sq] 3)).heap.size = w.heap.size + 2 := by simp
    have hsz1 : (w.alloc (.cells #[.int .i64 k, .int .i64 o, .int .i64 lf, .int .i64 i, .int .i64 p, .int .i64 ps, .int .i64 g, .bool true, .int .i64 st, .int .i64 rs, .int .i64 rr, .int .i64 sq, .slice ao l.length cap] 43)).heap.size = w.heap.size + 1 := by simp
    rw [hsz1] at hI
    change ∀ j, j < 12 → ((w.alloc (.cells #[.int .i64 k, .int .i64 o, .int .i64 lf, .int .i64 i, .int .i64 p, .int .i64 ps, .int .i64 g, .bool true, .int .i64 st, .int .i64 rs, .int .i64 rr, .int .i64 sq, .slice ao l.length cap] 43)).alloc (.cells #[.int .i64 k, .int .i64 o, .int .i64 lf, .int .i64 i, .int .i64 p, .int .i64 ps, .int .i64 g, .int .i64 1, .int .i64 st, .int .i64 rs, .int .i64 rr, .int .i64 sq] 3)).cell? ⟨w.heap.size + 1, 0 + j, none⟩ = _ at hI
    obtain ⟨vs, hvs⟩ : ∃ vs : List Int, [k, o, lf, i, p, ps, g, 1, st, rs, rr, sq] = vs := ⟨_, rfl⟩
    have hvl : vs.length = 12 := by rw [← hvs]; rfl
    rw [hvs] at hI hN ⊢
    have hle := packs_len vs
    rw [hvl] at hle
    have htk : packs vs = packs (vs.take 12) := by rw [List.take_of_length_le (by omega)]
    have hle2 := enc_len l.length
    have HI : Hid (∀ j, j < 12 → _) := hI
    have HN : Hid (Nums vs) := hN
    clear hN hI hpk n8 n4 hvs hb0 hA
    go_enter Tryz.func55, Tryz.ntmps55
    go_wp2_with (fail)
    generalize (w.alloc (.cells #[.int .i64 k, .int .i64 o, .int .i64 lf, .int .i64 i, .int .i64 p, .int .i64 ps, .int .i64 g, .bool true, .int .i64 st, .int .i64 rs, .int .i64 rr, .int .i64 sq, .slice ao l.length cap] 43)).alloc (.cells #[.int .i64 k, .int .i64 o, .int .i64 lf, .int .i64 i, .int .i64 p, .int .i64 ps, .int .i64 g, .int .i64 1, .int .i64 st, .int .i64 rs, .int .i64 rr, .int .i64 sq] 3) = w2 at *
    refine (gWrite _).mono ?_
    rintro e w3 ⟨rfl, hw3, hm3⟩
    rw [hsz] at hw3
    rw [hsz]
    have hM3 := hB.trans hm3 (V := fun _ => False) (fun _ _ h => h) (fun _ _ h => h)
    have HI3 : Hid (∀ j, j < 12 → w3.cell? ⟨w.heap.size + 1, j, none⟩ = some (.int .i64 (vs.getD j 0))) := fun j hj => hm3.cell (by have := HI.out j hj; rwa [Nat.zero_add] at this) (fun h => h)
    have hb3 := hb1.mod hm3 (fun h => h)
    have hs3 := hs.mod hM3 (fun _ _ h => h)
    have hw3' : Wg w3 (w.heap.size + 2) (.slice none 0 0) (packs (vs.take 0)) := hw3
    clear HI hB hm3 hb1 hw3
    go_wp2
    go_loopw [6] (fun x wr => ∃ (j : Nat) (v' : Value), x = .int .i64 j ∧ j ≤ 12 ∧ Hid (Wg wr (w.heap.size + 2) v' (packs (vs.take j))) ∧ Hid (Mod (fun q => w.heap.size + 2 ≤ q) w3 wr) ∧ Hid (∀ q, v'.ownBlock = some q → w.heap.size + 2 < q)) (fun x _ => 12 - (intOf x).toNat)
    case atStart => exact ⟨0, _, rfl, by omega, hw3', Mod.refl _ _, by show ∀ q, _; intro q hq; simp [Value.ownBlock] at hq⟩
    case round =>
      obtain ⟨j, v', rfl, hj, hw, hm, hv⟩ := hrel
      by_cases hlt : j < 12
      · have hx := nums_getD HN.out j
        obtain ⟨x, hxe⟩ : ∃ x : Nat, vs.getD j 0 = x := ⟨(vs.getD j 0).toNat, by omega⟩
        have hc := hm.out.cell (HI3.out j hlt) (by show ¬ (w.heap.size + 2 ≤ w.heap.size + 1); omega)
        rw [hxe] at hc hx
        have hget : vs[j]? = some (x : Int) := by
          rw [List.getD_eq_getElem?_getD, List.getElem?_eq_getElem (by omega)] at hxe
          rw [List.getElem?_eq_getElem (by omega)]
          simpa using hxe
        have hpt : Hid (packs (vs.take (j + 1)) = _) := packs_take hget
        have hpl := packs_len (vs.take j)
        have htl : (vs.take j).length ≤ 12 := by rw [List.length_take]; omega
        have HG := gPut_go (w.heap.size + 2) v' (packs (vs.take j)) x wr hw.out (by omega) (by omega)
        have hsw : w.heap.size + 2 < wr.heap.size := lt_of_block hw.out.blk
        have hji : (j : Int) < 12 := by omega
        clear hxe hget hpl htl hx hw
        go_wp2_with (fail)
        refine HG.mono ?_
        rintro e w4 ⟨rfl, v4, hw4, hm4, hf4⟩
        have HW4 : Hid (Wg _ _ _ _) := hw4
        have HM4 : Hid (Mod (fun q => w.heap.size + 2 ≤ q) w3 w4) := hm.out.trans hm4 (fun _ _ h => h) (fun q _ h => by rcases h with h | h; omega; have := hv.out q h; omega)
        have HV4 : Hid (∀ q, v4.ownBlock = some q → w.heap.size + 2 < q) := fun q hq => by rcases hf4 q hq with h | h; exact hv.out q h; omega
        clear hw4 hm4 hf4 hm hv HG
        go_wp2
        go_roundw
        case rel => exact ⟨j + 1, v4, by go_num, by omega, by show Wg _ _ _ _; rw [hpt.out]; exact HW4.out, HM4, HV4⟩
        case measure => simp [intOf]; omega
      · obtain rfl : j = 12 := by omega
        rw [← htk] at hw
        obtain ⟨a0, a1, a2, a3, a4, a5, a6, a7, a8, a9, a10, a11, a12⟩ := (hb3.mod hm.out (by omega)).cells
        have hs5 := hs3.mod2 hm.out (fun hl q hq h => by have := hs.lt hl q hq; omega)
        have HO := gOctets (w.heap.size + 2) v' (.slice ao l.length cap) (packs vs) l wr hw.out hs5 (fun hl q hq => ⟨by have := hs.lt hl q hq; omega, fun e => by have := hs.lt hl q hq; have := hv.out q e; omega⟩) (by omega) (by omega)
        have HF : Hid (Mod (fun q => w.heap.size + 2 ≤ q) w3 wr) := hm
        clear hw hm hw3' hb3
        go_wp2_with (fail)
        refine HO.mono ?_
        rintro e w5 ⟨rfl, v5, hw5, hm5, hf5⟩
        have HB := gBytes _ v5 _ w5 hw5 (by simp only [List.length_append]; omega)
        have HM5 : Hid (Mod (fun _ => False) w w5) := (hM3.trans HF.out (V := fun _ => False) (fun _ _ h => h) (fun q hq h => by omega)).trans hm5 (V := fun _ => False) (fun _ _ h => h) (fun q hq h => by rcases h with h | h; omega; have := hv.out q h; omega)
        clear HO hw5 hm5 hf5 a0 a1 a2 a3 a4 a5 a6 a7 a8 a9 a10 a11 a12
        go_wp2_with (fail)
        refine HB.mono ?_
        rintro e w6 ⟨v6, rfl, ho6, hm6, hf6⟩
        have hz := HM5.out.size
        go_wp2
        go_ret
        exact ⟨_, rfl, ho6, HM5.out.trans hm6 (V := fun _ => False) (fun _ _ h => h) (fun _ _ h => h), fun q hq => by have := hf6 q hq; omega⟩
theorem res1 {fn : Func} {pp : Tmp} (h : fn.results = #[.cell pp 43]) {tmps : Array Value} {w : World} {b : Nat} {xs : Array Value} (hp : tmps.getD pp undef = .pointer (some ⟨b, 0, none⟩)) (hb : Bk w b 43 xs) (hs : xs.size = 13) :
    (results fn tmps).run Tryz.prog w = .ok (.agg xs) w := by
  rw [results_cell1 h, hp]
  have hl := run_loadVar_mid (P := Tryz.prog) w b 0 43 xs.toList _ hb.row Tryz.underlying43 rfl (by rw [info13]; simp [hs])
  simp only [asAddr, Sem.run_pure, Result.andThen]
  rw [hl]
set_option maxRecDepth 100000 in
set_option maxHeartbeats 4000000 in
theorem dCopy (k o lf i p ps g : Int) (s : Bool) (st rs rr sq : Int) (ao : Option Addr) (cap : Nat) (l : List Int) (w : World) (hs : Sl w (.slice ao l.length cap) l) (hb : l.length ≤ 140737488355328) :
    Calls Tryz.prog 16 #[.agg #[.int .i64 k, .int .i64 o, .int .i64 lf, .int .i64 i, .int .i64 p, .int .i64 ps, .int .i64 g, .bool s, .int .i64 st, .int .i64 rs, .int .i64 rr, .int .i64 sq, .slice ao l.length cap]] w fun e w' => ∃ ao' cap', e = .returned (.agg #[.int .i64 k, .int .i64 o, .int .i64 lf, .int .i64 i, .int .i64 p, .int .i64 ps, .int .i64 g, .bool s, .int .i64 st, .int .i64 rs, .int .i64 rr, .int .i64 sq, .slice ao' l.length cap']) ∧ Own w' (.slice ao' l.length cap') l ∧ Mod (fun _ => False) w w' ∧ (∀ g, (Value.slice ao' l.length cap').ownBlock = some g → w.heap.size ≤ g) := by
  have hA := (((Mod.refl (fun _ => False) w).alloc (.cells #[.int .i64 k, .int .i64 o, .int .i64 lf, .int .i64 i, .int .i64 p, .int .i64 ps, .int .i64 g, .bool s, .int .i64 st, .int .i64 rs, .int .i64 rr, .int .i64 sq, .slice ao l.length cap] 43)).alloc (.cells #[.int .i64 0, .int .i64 0, .int .i64 0, .int .i64 0, .int .i64 0, .int .i64 0, .int .i64 0, .bool false, .int .i64 0, .int .i64 0, .int .i64 0, .int .i64 0, .slice none 0 0] 43)).alloc (.cells #[.int .i64 k, .int .i64 o, .int .i64 lf, .int .i64 i, .int .i64 p, .int .i64 ps, .int .i64 g, .bool s, .int .i64 st, .int .i64 rs, .int .i64 rr, .int .i64 sq, .slice ao l.length cap] 43)
  have hZ := (Bk.new (w.alloc (.cells #[.int .i64 k, .int .i64 o, .int .i64 lf, .int .i64 i, .int .i64 p, .int .i64 ps, .int .i64 g, .bool s, .int .i64 st, .int .i64 rs, .int .i64 rr, .int .i64 sq, .slice ao l.length cap] 43)) #[.int .i64 0, .int .i64 0, .int .i64 0, .int .i64 0, .int .i64 0, .int .i64 0, .int .i64 0, .bool false, .int .i64 0, .int .i64 0, .int .i64 0, .int .i64 0, .slice none 0 0] 43).mod ((Mod.refl (fun _ => False) _).alloc (.cells #[.int .i64 k, .int .i64 o, .int .i64 lf, .int .i64 i, .int .i64 p, .int .i64 ps, .int .i64 g, .bool s, .int .i64 st, .int .i64 rs, .int .i64 rr, .int .i64 sq, .slice ao l.length cap] 43)) (fun h => h)
  have hO := Bk.new ((w.alloc (.cells #[.int .i64 k, .int .i64 o, .int .i64 lf, .int .i64 i, .int .i64 p, .int .i64 ps, .int .i64 g, .bool s, .int .i64 st, .int .i64 rs, .int .i64 rr, .int .i64 sq, .slice ao l.length cap] 43)).alloc (.cells #[.int .i64 0, .int .i64 0, .int .i64 0, .int .i64 0, .int .i64 0, .int .i64 0, .int .i64 0, .bool false, .int .i64 0, .int .i64 0, .int .i64 0, .int .i64 0, .slice none 0 0] 43)) #[.int .i64 k, .int .i64 o, .int .i64 lf, .int .i64 i, .int .i64 p, .int .i64 ps, .int .i64 g, .bool s, .int .i64 st, .int .i64 rs, .int .i64 rr, .int .i64 sq, .slice ao l.length cap] 43
  have e1 : (w.alloc (.cells #[.int .i64 k, .int .i64 o, .int .i64 lf, .int .i64 i, .int .i64 p, .int .i64 ps, .int .i64 g, .bool s, .int .i64 st, .int .i64 rs, .int .i64 rr, .int .i64 sq, .slice ao l.length cap] 43)).heap.size = w.heap.size + 1 := by simp
  have e2 : ((w.alloc (.cells #[.int .i64 k, .int .i64 o, .int .i64 lf, .int .i64 i, .int .i64 p, .int .i64 ps, .int .i64 g, .bool s, .int .i64 st, .int .i64 rs, .int .i64 rr, .int .i64 sq, .slice ao l.length cap] 43)).alloc (.cells #[.int .i64 0, .int .i64 0, .int .i64 0, .int .i64 0, .int .i64 0, .int .i64 0, .int .i64 0, .bool false, .int .i64 0, .int .i64 0, .int .i64 0, .int .i64 0, .slice none 0 0] 43)).heap.size = w.heap.size + 1 + 1 := by simp
  have e3 : (((w.alloc (.cells #[.int .i64 k, .int .i64 o, .int .i64 lf, .int .i64 i, .int .i64 p, .int .i64 ps, .int .i64 g, .bool s, .int .i64 st, .int .i64 rs, .int .i64 rr, .int .i64 sq, .slice ao l.length cap] 43)).alloc (.cells #[.int .i64 0, .int .i64 0, .int .i64 0, .int .i64 0, .int .i64 0, .int .i64 0, .int .i64 0, .bool false, .int .i64 0, .int .i64 0, .int .i64 0, .int .i64 0, .slice none 0 0] 43)).alloc (.cells #[.int .i64 k, .int .i64 o, .int .i64 lf, .int .i64 i, .int .i64 p, .int .i64 ps, .int .i64 g, .bool s, .int .i64 st, .int .i64 rs, .int .i64 rr, .int .i64 sq, .slice ao l.length cap] 43)).heap.size = w.heap.size + 3 := by simp
  rw [e1] at hZ
  rw [e2] at hO
  have HCp := copy_any (.slice ao l.length cap) l _ (hs.mod hA (fun _ _ h => h)) hb
  have HZ : Hid (Bk _ _ _ _) := hZ
  have HO : Hid (Bk _ _ _ _) := hO
  clear hZ hO e1 e2
  go_enter Tryz.func16, Tryz.ntmps16
  go_wp2_with (fail)
  refine HCp.mono ?_
  rintro e w1 ⟨v1, rfl, ho1, hm1, hf1⟩
  obtain ⟨ao', cap', rfl⟩ := ho1.shape
  have hm := hA.trans hm1 (V := fun _ => False) (fun _ _ h => h) (fun _ _ h => h)
  have hZ1 := HZ.out.mod hm1 (fun h => h)
  have hO1 := HO.out.mod hm1 (fun h => h)
  have c12 := hO1.cellv (j := 12) rfl
  have f12 := hO1.frz 12
  have hO2 := hO1.set 12 (.slice ao' l.length cap')
  simp only [List.setIfInBounds_toArray, List.set_cons_succ, List.set_cons_zero] at hO2
  have hZ2 := hZ1.other ⟨w.heap.size + 1 + 1, 12, none⟩ (.slice ao' l.length cap') (by simp)
  have hS := (Mod.refl (fun q => q = w.heap.size + 1 + 1) w1).setCell ⟨w.heap.size + 1 + 1, 12, none⟩ (.slice ao' l.length cap') (.inl rfl)
  have HM2 : Hid (Mod (fun _ => False) w _) := hm.trans hS (V := fun _ => False) (fun _ _ h => h) (fun q hq h => by omega)
  have HN2 : Hid (Own _ _ _) := ho1.mod hS (fun q hq e => by have := hf1 q hq; omega)
  have HO2 : Hid (Bk _ _ _ _) := hO2
  have HZ2 : Hid (Bk _ _ _ _) := hZ2
  have HF : Hid (∀ q, (Value.slice ao' l.length cap').ownBlock = some q → w.heap.size + 3 ≤ q) := fun q hq => by have := hf1 q hq; omega
  clear hZ1 hO1 hO2 hZ2 hm hm1 ho1 hA HCp HZ HO hf1 e3 hS
  go_wp2_with (first | (refine wpList_load_row info13 Tryz.underlying43 rfl rfl _ rfl (w.heap.size + 1 + 1) rfl HO2.out rfl ?_; simp only [Act.put, List.setIfInBounds_toArray, List.set_cons_succ, List.set_cons_zero]) | (refine wpList_store_row info13 rfl rfl _ _ rfl (w.heap.size + 1) #[.int .i64 k, .int .i64 o, .int .i64 lf, .int .i64 i, .int .i64 p, .int .i64 ps, .int .i64 g, .bool s, .int .i64 st, .int .i64 rs, .int .i64 rr, .int .i64 sq, .slice ao' l.length cap'] rfl rfl HZ2.out rfl rfl rfl ?_; intro wF hBF hMF))
  exact bodyPost_ret (res1 rfl rfl hBF rfl) rfl ⟨ao', cap', rfl, HN2.out.mod hMF (fun q hq e => by have := HF.out q hq; omega), HM2.out.trans hMF (V := fun _ => False) (fun _ _ h => h) (fun q hq h => by omega), fun q hq => by have := HF.out q hq; omega⟩
end Go.Proofs.YthiijonmnebjgaaGreat
