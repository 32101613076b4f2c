/- Contract of parcel's Old. Conditions: sizes that a slice of bytes has. -/
import Derived.Test.YthiijonmnebjgaaGreatCo
namespace Go.Proofs.YthiijonmnebjgaaGreat
open Go.RowKit
set_option maxRecDepth 100000 in
set_option maxHeartbeats 4000000 in
theorem Old_any (dq dr ds dn dt : Int) (k o lf i p ps g : Int) (s : Bool) (st rs rr sq : Int) (ao : Option Addr) (cap : Nat) (l : List Int) (w : World) (hs : Sl w (.slice ao l.length cap) l) :
    Calls Tryz.prog 33 #[.agg #[.int .i64 dq, .int .i64 dr, .int .i64 ds, .int .i64 dn, .int .i64 dt, .int .i64 k, .int .i64 o, .int .i64 lf, .int .i64 i, .int .i64 p, .int .i64 ps, .int .i64 g, .bool s, .int .i64 st, .int .i64 rs, .int .i64 rr, .int .i64 sq, .slice ao l.length cap]] w fun e w' => ∃ k' o' lf' i' p' ps' g' s' st' rs' rr' sq' bv', e = .returned (.tuple #[.agg #[.int .i64 k', .int .i64 o', .int .i64 lf', .int .i64 i', .int .i64 p', .int .i64 ps', .int .i64 g', .bool s', .int .i64 st', .int .i64 rs', .int .i64 rr', .int .i64 sq', bv'], .int .i64 (olE dt dq dr ds dn ⟨k, o, lf, i, p, ps, g, s, st, rs, rr, sq, l⟩)]) ∧ Mod (fun _ => False) w w' ∧
      (olE dt dq dr ds dn ⟨k, o, lf, i, p, ps, g, s, st, rs, rr, sq, l⟩ = 0 → (k' = 5 ∧ o' = dn ∧ lf' = 0 ∧ i' = dn ∧ p' = 0 ∧ ps' = 0 ∧ g' = 0 ∧ s' = false ∧ st' = dt ∧ rs' = dq ∧ rr' = dr ∧ sq' = ds) ∧ Own w' bv' (pk ⟨k, o, lf, i, p, ps, g, s, st, rs, rr, sq, l⟩) ∧ (∀ g, bv'.ownBlock = some g → w.heap.size ≤ g)) ∧
      (olE dt dq dr ds dn ⟨k, o, lf, i, p, ps, g, s, st, rs, rr, sq, l⟩ ≠ 0 → (k' = 0 ∧ o' = 0 ∧ lf' = 0 ∧ i' = 0 ∧ p' = 0 ∧ ps' = 0 ∧ g' = 0 ∧ s' = false ∧ st' = 0 ∧ rs' = 0 ∧ rr' = 0 ∧ sq' = 0 ∧ bv' = .slice none 0 0)) := by
  have HP := fun W h => Pack_any k o lf i p ps g s st rs rr sq ao cap l W h
  have hrb := hs.rng
  have hd00 := DB.new w dq dr ds dn dt k o lf i p ps g s st rs rr sq (.slice ao l.length cap)
  have hA0 := (Mod.refl (fun _ => False) w).alloc (.cells #[.int .i64 dq, .int .i64 dr, .int .i64 ds, .int .i64 dn, .int .i64 dt, .int .i64 k, .int .i64 o, .int .i64 lf, .int .i64 i, .int .i64 p, .int .i64 ps, .int .i64 g, .bool s, .int .i64 st, .int .i64 rs, .int .i64 rr, .int .i64 sq, (.slice ao l.length cap)] 45)
  have hd0 := hd00.mod ((Mod.refl (fun _ => False) _).alloc (.cells #[.int .i64 0, .int .i64 0, .int .i64 0, .int .i64 0, .int .i64 0, .int .i64 0, .int .i64 0, .bool false, .int .i64 0, .int .i64 0, .int .i64 0, .int .i64 0, (.slice none 0 0)] 43)) (fun h => h)
  have hA := hA0.alloc (.cells #[.int .i64 0, .int .i64 0, .int .i64 0, .int .i64 0, .int .i64 0, .int .i64 0, .int .i64 0, .bool false, .int .i64 0, .int .i64 0, .int .i64 0, .int .i64 0, (.slice none 0 0)] 43)
  have hz0 : MB ((w.alloc (.cells #[.int .i64 dq, .int .i64 dr, .int .i64 ds, .int .i64 dn, .int .i64 dt, .int .i64 k, .int .i64 o, .int .i64 lf, .int .i64 i, .int .i64 p, .int .i64 ps, .int .i64 g, .bool s, .int .i64 st, .int .i64 rs, .int .i64 rr, .int .i64 sq, (.slice ao l.length cap)] 45)).alloc (.cells #[.int .i64 0, .int .i64 0, .int .i64 0, .int .i64 0, .int .i64 0, .int .i64 0, .int .i64 0, .bool false, .int .i64 0, .int .i64 0, .int .i64 0, .int .i64 0, (.slice none 0 0)] 43)) (w.heap.size + 1) 0 0 0 0 0 0 0 false 0 0 0 0 (.slice none 0 0) := by
    have := MB.new (w.alloc (.cells #[.int .i64 dq, .int .i64 dr, .int .i64 ds, .int .i64 dn, .int .i64 dt, .int .i64 k, .int .i64 o, .int .i64 lf, .int .i64 i, .int .i64 p, .int .i64 ps, .int .i64 g, .bool s, .int .i64 st, .int .i64 rs, .int .i64 rr, .int .i64 sq, (.slice ao l.length cap)] 45)) 0 0 0 0 0 0 0 false 0 0 0 0 (.slice none 0 0)
    rw [show (w.alloc (.cells #[.int .i64 dq, .int .i64 dr, .int .i64 ds, .int .i64 dn, .int .i64 dt, .int .i64 k, .int .i64 o, .int .i64 lf, .int .i64 i, .int .i64 p, .int .i64 ps, .int .i64 g, .bool s, .int .i64 st, .int .i64 rs, .int .i64 rr, .int .i64 sq, (.slice ao l.length cap)] 45)).heap.size = w.heap.size + 1 from by simp] at this
    exact this
  have hsz0 : ((w.alloc (.cells #[.int .i64 dq, .int .i64 dr, .int .i64 ds, .int .i64 dn, .int .i64 dt, .int .i64 k, .int .i64 o, .int .i64 lf, .int .i64 i, .int .i64 p, .int .i64 ps, .int .i64 g, .bool s, .int .i64 st, .int .i64 rs, .int .i64 rr, .int .i64 sq, (.slice ao l.length cap)] 45)).alloc (.cells #[.int .i64 0, .int .i64 0, .int .i64 0, .int .i64 0, .int .i64 0, .int .i64 0, .int .i64 0, .bool false, .int .i64 0, .int .i64 0, .int .i64 0, .int .i64 0, (.slice none 0 0)] 43)).heap.size = w.heap.size + 1 + 1 := by simp
  have hs0 := hs.mod hA (fun _ _ h => h)
  clear hd00 hA0
  unfold olE
  by_cases hc : chk ⟨k, o, lf, i, p, ps, g, s, st, rs, rr, sq, l⟩ = 0
  case neg =>
    rw [if_neg (fun h => hc h.1)]
    generalize chk ⟨k, o, lf, i, p, ps, g, s, st, rs, rr, sq, l⟩ = E at HP hc
    have hen : (E != 0) = true := by simp [hc]
    go_enter Tryz.func33, Tryz.ntmps33
    go_wp2_with (fail)
    refine (HP _ hs0).mono ?_
    rintro e w1 ⟨v1, rfl, hm1, hok, hnil⟩
    have hA1 := hA.trans hm1 (V := fun _ => False) (fun _ _ h => h) (fun _ _ h => h)
    have hd1 := hd0.mod hm1 (fun h => h)
    have hz1 := hz0.mod hm1 (fun h => h)
    have hsz1 := hm1.size
    obtain ⟨a0, a1, a2, a3, a4, a5, a6, a7, a8, a9, a10, a11, a12, a13, a14, a15, a16, a17⟩ := hd1.cells
    obtain rfl := hnil hc
    have hz2 := hz1.mod ((Mod.refl (fun _ => False) w1).alloc (.cells #[.int .i64 5, .int .i64 dn, .int .i64 0, .int .i64 dn, .int .i64 0, .int .i64 0, .int .i64 0, .bool false, .int .i64 dt, .int .i64 dq, .int .i64 dr, .int .i64 ds, (.slice none 0 0)] 43)) (fun h => h)
    have hfz := hz2.frz
    obtain ⟨b0, b1, b2, b3, b4, b5, b6, b7, b8, b9, b10, b11, b12⟩ := hz2.cells
    have hF := stm_mb hz2 0 0 0 0 0 0 0 false 0 0 0 0 (.slice none 0 0)
    have hMF := (hA1.alloc (.cells #[.int .i64 5, .int .i64 dn, .int .i64 0, .int .i64 dn, .int .i64 0, .int .i64 0, .int .i64 0, .bool false, .int .i64 dt, .int .i64 dq, .int .i64 dr, .int .i64 ds, (.slice none 0 0)] 43)).trans (stm_mod _ (w.heap.size + 1) 0 0 0 0 0 0 0 false 0 0 0 0 (.slice none 0 0)) (V := fun _ => False) (fun _ _ h => h) (fun _ hi h => by omega)
    clear hok HP
    go_wp2
    show bodyPost _ _ _ _ _ (stm (w1.alloc (.cells #[.int .i64 5, .int .i64 dn, .int .i64 0, .int .i64 dn, .int .i64 0, .int .i64 0, .int .i64 0, .bool false, .int .i64 dt, .int .i64 dq, .int .i64 dr, .int .i64 ds, (.slice none 0 0)] 43)) (w.heap.size + 1) 0 0 0 0 0 0 0 false 0 0 0 0 (.slice none 0 0))
    generalize stm (w1.alloc (.cells #[.int .i64 5, .int .i64 dn, .int .i64 0, .int .i64 dn, .int .i64 0, .int .i64 0, .int .i64 0, .bool false, .int .i64 dt, .int .i64 dq, .int .i64 dr, .int .i64 ds, (.slice none 0 0)] 43)) (w.heap.size + 1) 0 0 0 0 0 0 0 false 0 0 0 0 (.slice none 0 0) = wF at hF hMF ⊢
    obtain ⟨d0, d1, d2, d3, d4, d5, d6, d7, d8, d9, d10, d11, d12⟩ := hF.cells
    exact bodyPost_ret (v := .tuple #[.agg #[.int .i64 0, .int .i64 0, .int .i64 0, .int .i64 0, .int .i64 0, .int .i64 0, .int .i64 0, .bool false, .int .i64 0, .int .i64 0, .int .i64 0, .int .i64 0, (.slice none 0 0)], .int .i64 2]) (by simp [results, Tryz.results33, go_sem, d0, d1, d2, d3, d4, d5, d6, d7, d8, d9, d10, d11, d12]) rfl ⟨0, 0, 0, 0, 0, 0, 0, false, 0, 0, 0, 0, .slice none 0 0, rfl, hMF, fun h => absurd h (by decide), fun _ => ⟨rfl, rfl, rfl, rfl, rfl, rfl, rfl, rfl, rfl, rfl, rfl, rfl, rfl⟩⟩
  case pos =>
    have h5 : od5 dt dq dr ds dn ⟨k, o, lf, i, p, ps, g, s, st, rs, rr, sq, l⟩ = ⟨5, dn, 0, dn, 0, 0, 0, false, dt, dq, dr, ds, pk ⟨k, o, lf, i, p, ps, g, s, st, rs, rr, sq, l⟩⟩ := rfl
    have hrp := pk_rng ⟨k, o, lf, i, p, ps, g, s, st, rs, rr, sq, l⟩ hrb
    rw [hc] at HP
    rw [h5]
    generalize pk ⟨k, o, lf, i, p, ps, g, s, st, rs, rr, sq, l⟩ = B at HP hrp ⊢
    have HC := fun a c W h => Check_any 5 dn 0 dn 0 0 0 false dt dq dr ds a c B W h
    generalize chk ⟨5, dn, 0, dn, 0, 0, 0, false, dt, dq, dr, ds, B⟩ = c5 at HC ⊢
    by_cases hc5 : c5 = 0
    case neg =>
      rw [if_neg (fun h => hc5 h.2)]
      have hen : (c5 != 0) = true := by simp [hc5]
      go_enter Tryz.func33, Tryz.ntmps33
      go_wp2_with (fail)
      refine (HP _ hs0).mono ?_
      rintro e w1 ⟨v1, rfl, hm1, hok, hnil⟩
      have hA1 := hA.trans hm1 (V := fun _ => False) (fun _ _ h => h) (fun _ _ h => h)
      have hd1 := hd0.mod hm1 (fun h => h)
      have hz1 := hz0.mod hm1 (fun h => h)
      have hsz1 := hm1.size
      obtain ⟨a0, a1, a2, a3, a4, a5, a6, a7, a8, a9, a10, a11, a12, a13, a14, a15, a16, a17⟩ := hd1.cells
      obtain ⟨ho, hf⟩ := hok trivial
      obtain ⟨ao1, cap1, rfl⟩ := ho.shape
      have hD := (Mod.refl (fun _ => False) w1).alloc (.cells #[.int .i64 5, .int .i64 dn, .int .i64 0, .int .i64 dn, .int .i64 0, .int .i64 0, .int .i64 0, .bool false, .int .i64 dt, .int .i64 dq, .int .i64 dr, .int .i64 ds, (.slice ao1 B.length cap1)] 43)
      have hz2 := hz1.mod hD (fun h => h)
      have hA2 := hA1.alloc (.cells #[.int .i64 5, .int .i64 dn, .int .i64 0, .int .i64 dn, .int .i64 0, .int .i64 0, .int .i64 0, .bool false, .int .i64 dt, .int .i64 dq, .int .i64 dr, .int .i64 ds, (.slice ao1 B.length cap1)] 43)
      have HC2 := HC ao1 cap1 _ ((ho.mod hD (fun _ _ h => h)).sl hrp)
      clear hok HP hnil HC
      go_wp2_with (fail)
      refine HC2.mono ?_
      rintro e w3 ⟨rfl, hm3⟩
      have hA3 := hA2.trans hm3 (V := fun _ => False) (fun _ _ h => h) (fun _ _ h => h)
      have hz3 := hz2.mod hm3 (fun h => h)
      have hfz := hz3.frz
      obtain ⟨b0, b1, b2, b3, b4, b5, b6, b7, b8, b9, b10, b11, b12⟩ := hz3.cells
      have hF := stm_mb hz3 0 0 0 0 0 0 0 false 0 0 0 0 (.slice none 0 0)
      have hMF := hA3.trans (stm_mod _ (w.heap.size + 1) 0 0 0 0 0 0 0 false 0 0 0 0 (.slice none 0 0)) (V := fun _ => False) (fun _ _ h => h) (fun _ hi h => by omega)
      go_wp2
      show bodyPost _ _ _ _ _ (stm w3 (w.heap.size + 1) 0 0 0 0 0 0 0 false 0 0 0 0 (.slice none 0 0))
      generalize stm w3 (w.heap.size + 1) 0 0 0 0 0 0 0 false 0 0 0 0 (.slice none 0 0) = wF at hF hMF ⊢
      obtain ⟨d0, d1, d2, d3, d4, d5, d6, d7, d8, d9, d10, d11, d12⟩ := hF.cells
      exact bodyPost_ret (v := .tuple #[.agg #[.int .i64 0, .int .i64 0, .int .i64 0, .int .i64 0, .int .i64 0, .int .i64 0, .int .i64 0, .bool false, .int .i64 0, .int .i64 0, .int .i64 0, .int .i64 0, (.slice none 0 0)], .int .i64 2]) (by simp [results, Tryz.results33, go_sem, d0, d1, d2, d3, d4, d5, d6, d7, d8, d9, d10, d11, d12]) rfl ⟨0, 0, 0, 0, 0, 0, 0, false, 0, 0, 0, 0, .slice none 0 0, rfl, hMF, fun h => absurd h (by decide), fun _ => ⟨rfl, rfl, rfl, rfl, rfl, rfl, rfl, rfl, rfl, rfl, rfl, rfl, rfl⟩⟩
    case pos =>
      subst hc5
      rw [if_pos ⟨hc, rfl⟩]
      go_enter Tryz.func33, Tryz.ntmps33
      go_wp2_with (fail)
      refine (HP _ hs0).mono ?_
      rintro e w1 ⟨v1, rfl, hm1, hok, hnil⟩
      have hA1 := hA.trans hm1 (V := fun _ => False) (fun _ _ h => h) (fun _ _ h => h)
      have hd1 := hd0.mod hm1 (fun h => h)
      have hz1 := hz0.mod hm1 (fun h => h)
      have hsz1 := hm1.size
      obtain ⟨a0, a1, a2, a3, a4, a5, a6, a7, a8, a9, a10, a11, a12, a13, a14, a15, a16, a17⟩ := hd1.cells
      obtain ⟨ho, hf⟩ := hok trivial
      obtain ⟨ao1, cap1, rfl⟩ := ho.shape
      have hD := (Mod.refl (fun _ => False) w1).alloc (.cells #[.int .i64 5, .int .i64 dn, .int .i64 0, .int .i64 dn, .int .i64 0, .int .i64 0, .int .i64 0, .bool false, .int .i64 dt, .int .i64 dq, .int .i64 dr, .int .i64 ds, (.slice ao1 B.length cap1)] 43)
      have hn2 := MB.new w1 5 dn 0 dn 0 0 0 false dt dq dr ds (.slice ao1 B.length cap1)
      have hz2 := hz1.mod hD (fun h => h)
      have ho2 := ho.mod hD (fun _ _ h => h)
      have hA2 := hA1.alloc (.cells #[.int .i64 5, .int .i64 dn, .int .i64 0, .int .i64 dn, .int .i64 0, .int .i64 0, .int .i64 0, .bool false, .int .i64 dt, .int .i64 dq, .int .i64 dr, .int .i64 ds, (.slice ao1 B.length cap1)] 43)
      have HC2 := HC ao1 cap1 _ (ho2.sl hrp)
      clear hok HP hnil HC
      go_wp2_with (fail)
      refine HC2.mono ?_
      rintro e w3 ⟨rfl, hm3⟩
      have hA3 := hA2.trans hm3 (V := fun _ => False) (fun _ _ h => h) (fun _ _ h => h)
      have hz3 := hz2.mod hm3 (fun h => h)
      have hfz := hz3.frz
      obtain ⟨b0, b1, b2, b3, b4, b5, b6, b7, b8, b9, b10, b11, b12⟩ := hz3.cells
      have hn3 := hn2.mod hm3 (fun h => h)
      obtain ⟨a0, a1, a2, a3, a4, a5, a6, a7, a8, a9, a10, a11, a12⟩ := hn3.cells
      have hF := stm_mb hz3 5 dn 0 dn 0 0 0 false dt dq dr ds (.slice ao1 B.length cap1)
      have hMS := stm_mod w3 (w.heap.size + 1) 5 dn 0 dn 0 0 0 false dt dq dr ds (.slice ao1 B.length cap1)
      have hMF := hA3.trans hMS (V := fun _ => False) (fun _ _ h => h) (fun _ hi h => by omega)
      have hoF := (ho2.mod hm3 (fun _ _ h => h)).mod hMS (fun g hg e => by have := hf g hg; omega)
      go_wp2
      show bodyPost _ _ _ _ _ (stm w3 (w.heap.size + 1) 5 dn 0 dn 0 0 0 false dt dq dr ds (.slice ao1 B.length cap1))
      generalize stm w3 (w.heap.size + 1) 5 dn 0 dn 0 0 0 false dt dq dr ds (.slice ao1 B.length cap1) = wF at hF hMF hoF ⊢
      obtain ⟨d0, d1, d2, d3, d4, d5, d6, d7, d8, d9, d10, d11, d12⟩ := hF.cells
      exact bodyPost_ret (v := .tuple #[.agg #[.int .i64 5, .int .i64 dn, .int .i64 0, .int .i64 dn, .int .i64 0, .int .i64 0, .int .i64 0, .bool false, .int .i64 dt, .int .i64 dq, .int .i64 dr, .int .i64 ds, (.slice ao1 B.length cap1)], .int .i64 0]) (by simp [results, Tryz.results33, go_sem, d0, d1, d2, d3, d4, d5, d6, d7, d8, d9, d10, d11, d12]) rfl ⟨_, _, _, _, _, _, _, _, _, _, _, _, _, rfl, hMF, fun _ => ⟨⟨rfl, rfl, rfl, rfl, rfl, rfl, rfl, rfl, rfl, rfl, rfl, rfl⟩, hoF, fun g hg => by have := hf g hg; omega⟩, fun h => absurd rfl h⟩

end Go.Proofs.YthiijonmnebjgaaGreat
