/- Contracts of the document's Old, Inner and SameData. Conditions: sizes that a slice of bytes has. -/
import Derived.Test.YthiijonmnebjgaaGreatRw
import Derived.Test.YthiijonmnebjgaaGreatCi
import Derived.Test.YthiijonmnebjgaaGreatCl
namespace Go.Proofs.YthiijonmnebjgaaGreat
open Go.RowKit
set_option maxRecDepth 100000 in
set_option maxHeartbeats 4000000 in
theorem dInner (k o lf i p ps g : Int) (s : Bool) (st rs rr sq : Int) (ao : Option Addr) (cap : Nat) (l : List Int) (w : World) (hs : Sl w (.slice ao l.length cap) l) :
    Calls Tryz.prog 45 #[.agg #[.int .i64 k, .int .i64 o, .int .i64 lf, .int .i64 i, .int .i64 p, .int .i64 ps, .int .i64 g, .bool s, .int .i64 st, .int .i64 rs, .int .i64 rr, .int .i64 sq, (.slice ao l.length cap)]] w fun e w' => ∃ dq dr ds dn dt k' o' lf' i' p' ps' g' s' st' rs' rr' sq' bv', e = .returned (.tuple #[.agg #[.int .i64 dq, .int .i64 dr, .int .i64 ds, .int .i64 dn, .int .i64 dt, .int .i64 k', .int .i64 o', .int .i64 lf', .int .i64 i', .int .i64 p', .int .i64 ps', .int .i64 g', .bool s', .int .i64 st', .int .i64 rs', .int .i64 rr', .int .i64 sq', bv'], .int .i64 (inE ⟨k, o, lf, i, p, ps, g, s, st, rs, rr, sq, l⟩)]) ∧ Mod (fun _ => False) w w' ∧
      (inE ⟨k, o, lf, i, p, ps, g, s, st, rs, rr, sq, l⟩ = 0 → (dq = rs ∧ dr = rr ∧ ds = sq ∧ dn = i ∧ dt = st) ∧ Ms.mk k' o' lf' i' p' ps' g' s' st' rs' rr' sq' (prM l).body = prM l ∧ Own w' bv' (prM l).body ∧ (∀ g, bv'.ownBlock = some g → w.heap.size ≤ g)) ∧
      (inE ⟨k, o, lf, i, p, ps, g, s, st, rs, rr, sq, l⟩ ≠ 0 → (dq = 0 ∧ dr = 0 ∧ ds = 0 ∧ dn = 0 ∧ dt = 0 ∧ k' = 0 ∧ o' = 0 ∧ lf' = 0 ∧ i' = 0 ∧ p' = 0 ∧ ps' = 0 ∧ g' = 0 ∧ s' = false ∧ st' = 0 ∧ rs' = 0 ∧ rr' = 0 ∧ sq' = 0 ∧ bv' = .slice none 0 0))  := by
  have hA := ((Mod.refl (fun _ => False) w).alloc (.cells #[.int .i64 k, .int .i64 o, .int .i64 lf, .int .i64 i, .int .i64 p, .int .i64 ps, .int .i64 g, .bool s, .int .i64 st, .int .i64 rs, .int .i64 rr, .int .i64 sq, (.slice ao l.length cap)] 43)).alloc (.cells #[.int .i64 0, .int .i64 0, .int .i64 0, .int .i64 0, .int .i64 0, .int .i64 0, .int .i64 0, .int .i64 0, .int .i64 0, .int .i64 0, .int .i64 0, .int .i64 0, .bool false, .int .i64 0, .int .i64 0, .int .i64 0, .int .i64 0, (.slice none 0 0)] 45)
  have hB0 := Bk.new (w.alloc (.cells #[.int .i64 k, .int .i64 o, .int .i64 lf, .int .i64 i, .int .i64 p, .int .i64 ps, .int .i64 g, .bool s, .int .i64 st, .int .i64 rs, .int .i64 rr, .int .i64 sq, (.slice ao l.length cap)] 43)) #[.int .i64 0, .int .i64 0, .int .i64 0, .int .i64 0, .int .i64 0, .int .i64 0, .int .i64 0, .int .i64 0, .int .i64 0, .int .i64 0, .int .i64 0, .int .i64 0, .bool false, .int .i64 0, .int .i64 0, .int .i64 0, .int .i64 0, (.slice none 0 0)] 45
  rw [show (w.alloc (.cells #[.int .i64 k, .int .i64 o, .int .i64 lf, .int .i64 i, .int .i64 p, .int .i64 ps, .int .i64 g, .bool s, .int .i64 st, .int .i64 rs, .int .i64 rr, .int .i64 sq, (.slice ao l.length cap)] 43)).heap.size = w.heap.size + 1 from by simp] at hB0
  have hm0 := (MB.new w k o lf i p ps g s st rs rr sq (.slice ao l.length cap)).mod ((Mod.refl (fun _ => False) _).alloc (.cells #[.int .i64 0, .int .i64 0, .int .i64 0, .int .i64 0, .int .i64 0, .int .i64 0, .int .i64 0, .int .i64 0, .int .i64 0, .int .i64 0, .int .i64 0, .int .i64 0, .bool false, .int .i64 0, .int .i64 0, .int .i64 0, .int .i64 0, (.slice none 0 0)] 45)) (fun h => h)
  have hs0 := hs.mod hA (fun _ _ h => h)
  have HC := fun W h => dCheck k o lf i p ps g s st rs rr sq ao cap l W h
  have hie : inE ⟨k, o, lf, i, p, ps, g, s, st, rs, rr, sq, l⟩ = if k = 5 ∧ chk ⟨k, o, lf, i, p, ps, g, s, st, rs, rr, sq, l⟩ = 0 then 0 else 2 := rfl
  have hun0 : k = 5 → chk ⟨k, o, lf, i, p, ps, g, s, st, rs, rr, sq, l⟩ = 0 → unE l = 0 ∧ l.length ≤ 160 := by
    rintro rfl hc
    obtain ⟨hb160, _, hkd⟩ := chk_parts hc
    rw [kd, if_pos (show (Ms.mk 5 o lf i p ps g s st rs rr sq l).kind = 5 from rfl), od] at hkd
    simp only [Bool.and_eq_true] at hkd
    have hin := hkd.2
    rw [in0_eq] at hin
    simp only [Bool.and_eq_true, beq_iff_eq] at hin
    exact ⟨hin.1, hb160⟩
  generalize inE ⟨k, o, lf, i, p, ps, g, s, st, rs, rr, sq, l⟩ = IE at hie ⊢
  generalize chk ⟨k, o, lf, i, p, ps, g, s, st, rs, rr, sq, l⟩ = E at HC hie hun0
  have HB0 : Hid (Bk _ _ _ _) := hB0
  clear hB0
  by_cases hE : E = 0
  case neg =>
    rw [if_neg (fun h => hE h.2)] at hie
    subst hie
    have hen : (E != 0) = true := by simp [hE]
    go_enter Tryz.func45, Tryz.ntmps45
    go_wp2_with (fail)
    refine (HC _ hs0).mono ?_
    rintro e w1 ⟨rfl, hm1⟩
    have HA : Hid (Mod _ _ _) := hA.trans hm1 (V := fun _ => False) (fun _ _ h => h) (fun _ _ h => h)
    have HB : Hid (Bk _ _ _ _) := HB0.out.mod hm1 (fun h => h)
    clear hA hs0 HC HB0
    go_wp2_with (refine wpList_store_row info18 rfl rfl _ _ rfl (w.heap.size + 1) #[.int .i64 0, .int .i64 0, .int .i64 0, .int .i64 0, .int .i64 0, .int .i64 0, .int .i64 0, .int .i64 0, .int .i64 0, .int .i64 0, .int .i64 0, .int .i64 0, .bool false, .int .i64 0, .int .i64 0, .int .i64 0, .int .i64 0, (.slice none 0 0)] rfl rfl HB.out rfl rfl rfl ?_; intro wF hBF hMF)
    exact bodyPost_ret (res18 rfl rfl rfl hBF rfl) rfl ⟨_, _, _, _, _, _, _, _, _, _, _, _, _, _, _, _, _, _, rfl, HA.out.trans hMF (V := fun _ => False) (fun _ _ h => h) (fun _ hi h => by omega), fun h => absurd h (by decide), fun _ => ⟨rfl, rfl, rfl, rfl, rfl, rfl, rfl, rfl, rfl, rfl, rfl, rfl, rfl, rfl, rfl, rfl, rfl, rfl⟩⟩
  case pos =>
  subst hE
  by_cases hk : k = 5
  case neg =>
    rw [if_neg (fun h => hk h.1)] at hie
    subst hie
    have hkn : (k != 5) = true := by simp [hk]
    go_enter Tryz.func45, Tryz.ntmps45
    go_wp2_with (fail)
    refine (HC _ hs0).mono ?_
    rintro e w1 ⟨rfl, hm1⟩
    have HA : Hid (Mod _ _ _) := hA.trans hm1 (V := fun _ => False) (fun _ _ h => h) (fun _ _ h => h)
    have HB : Hid (Bk _ _ _ _) := HB0.out.mod hm1 (fun h => h)
    obtain ⟨a0, _⟩ := (hm0.mod hm1 (fun h => h)).cells
    clear hA hs0 HC HB0
    go_wp2_with (refine wpList_store_row info18 rfl rfl _ _ rfl (w.heap.size + 1) #[.int .i64 0, .int .i64 0, .int .i64 0, .int .i64 0, .int .i64 0, .int .i64 0, .int .i64 0, .int .i64 0, .int .i64 0, .int .i64 0, .int .i64 0, .int .i64 0, .bool false, .int .i64 0, .int .i64 0, .int .i64 0, .int .i64 0, (.slice none 0 0)] rfl rfl HB.out rfl rfl rfl ?_; intro wF hBF hMF)
    exact bodyPost_ret (res18 rfl rfl rfl hBF rfl) rfl ⟨_, _, _, _, _, _, _, _, _, _, _, _, _, _, _, _, _, _, rfl, HA.out.trans hMF (V := fun _ => False) (fun _ _ h => h) (fun _ hi h => by omega), fun h => absurd h (by decide), fun _ => ⟨rfl, rfl, rfl, rfl, rfl, rfl, rfl, rfl, rfl, rfl, rfl, rfl, rfl, rfl, rfl, rfl, rfl, rfl⟩⟩
  case pos =>
  subst hk
  rw [if_pos ⟨rfl, rfl⟩] at hie
  obtain ⟨hun, hb160⟩ := hun0 rfl rfl
  have HU := fun W h => dUnpack (.slice ao l.length cap) l W h (by omega)
  unfold Unp at HU
  rw [hun] at HU
  have hbr : ∀ c ∈ (prM l).body, 0 ≤ c ∧ c ≤ 255 := fun c hc => hs.rng c (pr_mem l c hc)
  generalize prM l = m at HU hbr ⊢
  have HI : Hid (IE = 0) := hie
  clear hb160 hun hun0 hie
  obtain ⟨k1, o1, lf1, i1, p1, ps1, g1, s1, st1, rs1, rr1, sq1, l1⟩ := m
  dsimp only at HU hbr ⊢
  go_enter Tryz.func45, Tryz.ntmps45
  go_wp2_with (fail)
  refine (HC _ hs0).mono ?_
  rintro e w1 ⟨rfl, hm1⟩
  have hA1 := hA.trans hm1 (V := fun _ => False) (fun _ _ h => h) (fun _ _ h => h)
  have HB1 : Hid (Bk _ _ _ _) := HB0.out.mod hm1 (fun h => h)
  have hb1 := hm0.mod hm1 (fun h => h)
  obtain ⟨a0, a1, a2, a3, a4, a5, a6, a7, a8, a9, a10, a11, a12⟩ := hb1.cells
  have hsz1 : w.heap.size + 2 ≤ w1.heap.size := by have := hm1.size; simp at this; omega
  clear HB0 hs0 HC
  go_wp2_with (fail)
  refine (HU _ (hs.mod hA1 (fun _ _ h => h))).mono ?_
  rintro e w2 ⟨k2, o2, lf2, i2, p2, ps2, g2, s2, st2, rs2, rr2, sq2, bv2, rfl, hm2, hok, _⟩
  obtain ⟨he, ho, hf⟩ := hok trivial
  simp only [Ms.mk.injEq] at he
  obtain ⟨rfl, rfl, rfl, rfl, rfl, rfl, rfl, rfl, rfl, rfl, rfl, rfl, _⟩ := he
  obtain ⟨ao2, cap2, rfl⟩ := ho.shape
  have hsz2 := hm2.size
  have hD3 := (Mod.refl (fun _ => False) w2).alloc (.cells #[.int .i64 k2, .int .i64 o2, .int .i64 lf2, .int .i64 i2, .int .i64 p2, .int .i64 ps2, .int .i64 g2, .bool s2, .int .i64 st2, .int .i64 rs2, .int .i64 rr2, .int .i64 sq2, (.slice ao2 l1.length cap2)] 43)
  have HA4 : Hid (Mod _ _ _) := (hA1.trans hm2 (V := fun _ => False) (fun _ _ h => h) (fun _ _ h => h)).trans hD3 (V := fun _ => False) (fun _ _ h => h) (fun _ _ h => h)
  have hb4 := (hb1.mod hm2 (fun h => h)).mod hD3 (fun h => h)
  have HZ4 : Hid (Bk _ _ _ _) := (HB1.out.mod hm2 (fun h => h)).mod hD3 (fun h => h)
  have HO4 : Hid (Own _ _ _) := ho.mod hD3 (fun _ _ h => h)
  have HF : Hid (∀ q, (Value.slice ao2 l1.length cap2).ownBlock = some q → w.heap.size + 2 ≤ q) := fun q hq => by have := hf q hq; omega
  clear a0 a1 a2 a3 a4 a5 a6 a7 a8 a9 a10 a11 a12 hb1 HB1 hA1 hm1 hm2 hD3 ho hok hf
  obtain ⟨a0, a1, a2, a3, a4, a5, a6, a7, a8, a9, a10, a11, a12⟩ := hb4.cells
  have hIE := HI.out
  clear hb4
  go_wp2_with (refine wpList_store_row info18 rfl rfl _ _ rfl (w.heap.size + 1) #[.int .i64 rs, .int .i64 rr, .int .i64 sq, .int .i64 i, .int .i64 st, .int .i64 k2, .int .i64 o2, .int .i64 lf2, .int .i64 i2, .int .i64 p2, .int .i64 ps2, .int .i64 g2, .bool s2, .int .i64 st2, .int .i64 rs2, .int .i64 rr2, .int .i64 sq2, (.slice ao2 l1.length cap2)] rfl rfl HZ4.out rfl rfl rfl ?_; intro wF hBF hMF)
  subst hIE
  exact bodyPost_ret (res18 rfl rfl rfl hBF rfl) rfl ⟨_, _, _, _, _, _, _, _, _, _, _, _, _, _, _, _, _, _, rfl, HA4.out.trans hMF (V := fun _ => False) (fun _ _ h => h) (fun _ hi h => by omega), fun _ => ⟨⟨rfl, rfl, rfl, rfl, rfl⟩, rfl, HO4.out.mod hMF (fun q hq e => by have := HF.out q hq; omega), fun q hq => by have := HF.out q hq; omega⟩, fun h => absurd rfl h⟩
end Go.Proofs.YthiijonmnebjgaaGreat
