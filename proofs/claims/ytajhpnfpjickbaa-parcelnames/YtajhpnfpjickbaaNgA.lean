/- ParcelOlds: what data are sent again as, and what they were, is the document's. No conditions beyond sizes that a slice of bytes has. -/
import Derived.Test.YtajhpnfpjickbaaRw
import Derived.Test.YtajhpnfpjickbaaCi
import Derived.Test.YtajhpnfpjickbaaCl
import Derived.Deep.RegionHeld3
import Derived.Test.YtajhpnfpjickbaaWi
import Derived.Test.YtajhpnfpjickbaaCx
import Derived.Test.YtajhpnfpjickbaaCo
import Derived.Test.YtajhpnfpjickbaaEn
import Derived.Test.YtajhpnfpjickbaaCy
import Derived.Deep.Cut
namespace Go.Proofs.Ytajhpnfpjickbaa
open Go.RowKit
set_option maxRecDepth 100000 in
set_option maxHeartbeats 4000000 in
theorem dInner (k o lf i p ps g : Int) (s : Bool) (st rs rr sq : Int) (ao : Option Addr) (cap : Nat) (l : List Int) (w : World) (hs : Sl w (.slice ao l.length cap) l) :
    Calls Try.prog 31 #[.agg #[.int .i64 k, .int .i64 o, .int .i64 lf, .int .i64 i, .int .i64 p, .int .i64 ps, .int .i64 g, .bool s, .int .i64 st, .int .i64 rs, .int .i64 rr, .int .i64 sq, (.slice ao l.length cap)]] w fun e w' => ∃ dq dr ds dn dt k' o' lf' i' p' ps' g' s' st' rs' rr' sq' bv', e = .returned (.tuple #[.agg #[.int .i64 dq, .int .i64 dr, .int .i64 ds, .int .i64 dn, .int .i64 dt, .int .i64 k', .int .i64 o', .int .i64 lf', .int .i64 i', .int .i64 p', .int .i64 ps', .int .i64 g', .bool s', .int .i64 st', .int .i64 rs', .int .i64 rr', .int .i64 sq', bv'], .int .i64 (inE ⟨k, o, lf, i, p, ps, g, s, st, rs, rr, sq, l⟩)]) ∧ Mod (fun _ => False) w w' ∧
      (inE ⟨k, o, lf, i, p, ps, g, s, st, rs, rr, sq, l⟩ = 0 → (dq = rs ∧ dr = rr ∧ ds = sq ∧ dn = i ∧ dt = st) ∧ Ms.mk k' o' lf' i' p' ps' g' s' st' rs' rr' sq' (prM l).body = prM l ∧ Own w' bv' (prM l).body ∧ (∀ g, bv'.ownBlock = some g → w.heap.size ≤ g)) ∧
      (inE ⟨k, o, lf, i, p, ps, g, s, st, rs, rr, sq, l⟩ ≠ 0 → (dq = 0 ∧ dr = 0 ∧ ds = 0 ∧ dn = 0 ∧ dt = 0 ∧ k' = 0 ∧ o' = 0 ∧ lf' = 0 ∧ i' = 0 ∧ p' = 0 ∧ ps' = 0 ∧ g' = 0 ∧ s' = false ∧ st' = 0 ∧ rs' = 0 ∧ rr' = 0 ∧ sq' = 0 ∧ bv' = .slice none 0 0))  := by
  have hA := ((Mod.refl (fun _ => False) w).alloc (.cells #[.int .i64 k, .int .i64 o, .int .i64 lf, .int .i64 i, .int .i64 p, .int .i64 ps, .int .i64 g, .bool s, .int .i64 st, .int .i64 rs, .int .i64 rr, .int .i64 sq, (.slice ao l.length cap)] 28)).alloc (.cells #[.int .i64 0, .int .i64 0, .int .i64 0, .int .i64 0, .int .i64 0, .int .i64 0, .int .i64 0, .int .i64 0, .int .i64 0, .int .i64 0, .int .i64 0, .int .i64 0, .bool false, .int .i64 0, .int .i64 0, .int .i64 0, .int .i64 0, (.slice none 0 0)] 49)
  have hB0 := Bk.new (w.alloc (.cells #[.int .i64 k, .int .i64 o, .int .i64 lf, .int .i64 i, .int .i64 p, .int .i64 ps, .int .i64 g, .bool s, .int .i64 st, .int .i64 rs, .int .i64 rr, .int .i64 sq, (.slice ao l.length cap)] 28)) #[.int .i64 0, .int .i64 0, .int .i64 0, .int .i64 0, .int .i64 0, .int .i64 0, .int .i64 0, .int .i64 0, .int .i64 0, .int .i64 0, .int .i64 0, .int .i64 0, .bool false, .int .i64 0, .int .i64 0, .int .i64 0, .int .i64 0, (.slice none 0 0)] 49
  rw [show (w.alloc (.cells #[.int .i64 k, .int .i64 o, .int .i64 lf, .int .i64 i, .int .i64 p, .int .i64 ps, .int .i64 g, .bool s, .int .i64 st, .int .i64 rs, .int .i64 rr, .int .i64 sq, (.slice ao l.length cap)] 28)).heap.size = w.heap.size + 1 from by simp] at hB0
  have hm0 := (MB.new w k o lf i p ps g s st rs rr sq (.slice ao l.length cap)).mod ((Mod.refl (fun _ => False) _).alloc (.cells #[.int .i64 0, .int .i64 0, .int .i64 0, .int .i64 0, .int .i64 0, .int .i64 0, .int .i64 0, .int .i64 0, .int .i64 0, .int .i64 0, .int .i64 0, .int .i64 0, .bool false, .int .i64 0, .int .i64 0, .int .i64 0, .int .i64 0, (.slice none 0 0)] 49)) (fun h => h)
  have hs0 := hs.mod hA (fun _ _ h => h)
  have HC := fun W h => dCheck k o lf i p ps g s st rs rr sq ao cap l W h
  have hie : inE ⟨k, o, lf, i, p, ps, g, s, st, rs, rr, sq, l⟩ = if k = 5 ∧ chk ⟨k, o, lf, i, p, ps, g, s, st, rs, rr, sq, l⟩ = 0 then 0 else 2 := rfl
  have hun0 : k = 5 → chk ⟨k, o, lf, i, p, ps, g, s, st, rs, rr, sq, l⟩ = 0 → unE l = 0 ∧ l.length ≤ 160 := by
    rintro rfl hc
    obtain ⟨hb160, _, hkd⟩ := chk_parts hc
    rw [kd, if_pos (show (Ms.mk 5 o lf i p ps g s st rs rr sq l).kind = 5 from rfl), od] at hkd
    simp only [Bool.and_eq_true] at hkd
    have hin := hkd.2
    rw [in0_eq] at hin
    simp only [Bool.and_eq_true, beq_iff_eq] at hin
    exact ⟨hin.1, hb160⟩
  generalize inE ⟨k, o, lf, i, p, ps, g, s, st, rs, rr, sq, l⟩ = IE at hie ⊢
  generalize chk ⟨k, o, lf, i, p, ps, g, s, st, rs, rr, sq, l⟩ = E at HC hie hun0
  have HB0 : Hid (Bk _ _ _ _) := hB0
  clear hB0
  by_cases hE : E = 0
  case neg =>
    rw [if_neg (fun h => hE h.2)] at hie
    subst hie
    have hen : (E != 0) = true := by simp [hE]
    go_enter Try.func31, Try.ntmps31
    go_wp2_with (fail)
    refine (HC _ hs0).mono ?_
    rintro e w1 ⟨rfl, hm1⟩
    have HA : Hid (Mod _ _ _) := hA.trans hm1 (V := fun _ => False) (fun _ _ h => h) (fun _ _ h => h)
    have HB : Hid (Bk _ _ _ _) := HB0.out.mod hm1 (fun h => h)
    clear hA hs0 HC HB0
    go_wp2_with (refine wpList_store_row info18 rfl rfl _ _ rfl (w.heap.size + 1) #[.int .i64 0, .int .i64 0, .int .i64 0, .int .i64 0, .int .i64 0, .int .i64 0, .int .i64 0, .int .i64 0, .int .i64 0, .int .i64 0, .int .i64 0, .int .i64 0, .bool false, .int .i64 0, .int .i64 0, .int .i64 0, .int .i64 0, (.slice none 0 0)] rfl rfl HB.out rfl rfl rfl ?_; intro wF hBF hMF)
    exact bodyPost_ret (res18 rfl rfl rfl hBF rfl) rfl ⟨_, _, _, _, _, _, _, _, _, _, _, _, _, _, _, _, _, _, rfl, HA.out.trans hMF (V := fun _ => False) (fun _ _ h => h) (fun _ hi h => by omega), fun h => absurd h (by decide), fun _ => ⟨rfl, rfl, rfl, rfl, rfl, rfl, rfl, rfl, rfl, rfl, rfl, rfl, rfl, rfl, rfl, rfl, rfl, rfl⟩⟩
  case pos =>
  subst hE
  by_cases hk : k = 5
  case neg =>
    rw [if_neg (fun h => hk h.1)] at hie
    subst hie
    have hkn : (k != 5) = true := by simp [hk]
    go_enter Try.func31, Try.ntmps31
    go_wp2_with (fail)
    refine (HC _ hs0).mono ?_
    rintro e w1 ⟨rfl, hm1⟩
    have HA : Hid (Mod _ _ _) := hA.trans hm1 (V := fun _ => False) (fun _ _ h => h) (fun _ _ h => h)
    have HB : Hid (Bk _ _ _ _) := HB0.out.mod hm1 (fun h => h)
    obtain ⟨a0, _⟩ := (hm0.mod hm1 (fun h => h)).cells
    clear hA hs0 HC HB0
    go_wp2_with (refine wpList_store_row info18 rfl rfl _ _ rfl (w.heap.size + 1) #[.int .i64 0, .int .i64 0, .int .i64 0, .int .i64 0, .int .i64 0, .int .i64 0, .int .i64 0, .int .i64 0, .int .i64 0, .int .i64 0, .int .i64 0, .int .i64 0, .bool false, .int .i64 0, .int .i64 0, .int .i64 0, .int .i64 0, (.slice none 0 0)] rfl rfl HB.out rfl rfl rfl ?_; intro wF hBF hMF)
    exact bodyPost_ret (res18 rfl rfl rfl hBF rfl) rfl ⟨_, _, _, _, _, _, _, _, _, _, _, _, _, _, _, _, _, _, rfl, HA.out.trans hMF (V := fun _ => False) (fun _ _ h => h) (fun _ hi h => by omega), fun h => absurd h (by decide), fun _ => ⟨rfl, rfl, rfl, rfl, rfl, rfl, rfl, rfl, rfl, rfl, rfl, rfl, rfl, rfl, rfl, rfl, rfl, rfl⟩⟩
  case pos =>
  subst hk
  rw [if_pos ⟨rfl, rfl⟩] at hie
  obtain ⟨hun, hb160⟩ := hun0 rfl rfl
  have HU := fun W h => dUnpack (.slice ao l.length cap) l W h (by omega)
  unfold Unp at HU
  rw [hun] at HU
  have hbr : ∀ c ∈ (prM l).body, 0 ≤ c ∧ c ≤ 255 := fun c hc => hs.rng c (pr_mem l c hc)
  generalize prM l = m at HU hbr ⊢
  have HI : Hid (IE = 0) := hie
  clear hb160 hun hun0 hie
  obtain ⟨k1, o1, lf1, i1, p1, ps1, g1, s1, st1, rs1, rr1, sq1, l1⟩ := m
  dsimp only at HU hbr ⊢
  go_enter Try.func31, Try.ntmps31
  go_wp2_with (fail)
  refine (HC _ hs0).mono ?_
  rintro e w1 ⟨rfl, hm1⟩
  have hA1 := hA.trans hm1 (V := fun _ => False) (fun _ _ h => h) (fun _ _ h => h)
  have HB1 : Hid (Bk _ _ _ _) := HB0.out.mod hm1 (fun h => h)
  have hb1 := hm0.mod hm1 (fun h => h)
  obtain ⟨a0, a1, a2, a3, a4, a5, a6, a7, a8, a9, a10, a11, a12⟩ := hb1.cells
  have hsz1 : w.heap.size + 2 ≤ w1.heap.size := by have := hm1.size; simp at this; omega
  clear HB0 hs0 HC
  go_wp2_with (fail)
  refine (HU _ (hs.mod hA1 (fun _ _ h => h))).mono ?_
  rintro e w2 ⟨k2, o2, lf2, i2, p2, ps2, g2, s2, st2, rs2, rr2, sq2, bv2, rfl, hm2, hok, _⟩
  obtain ⟨he, ho, hf⟩ := hok trivial
  simp only [Ms.mk.injEq] at he
  obtain ⟨rfl, rfl, rfl, rfl, rfl, rfl, rfl, rfl, rfl, rfl, rfl, rfl, _⟩ := he
  obtain ⟨ao2, cap2, rfl⟩ := ho.shape
  have hsz2 := hm2.size
  have hD3 := (Mod.refl (fun _ => False) w2).alloc (.cells #[.int .i64 k2, .int .i64 o2, .int .i64 lf2, .int .i64 i2, .int .i64 p2, .int .i64 ps2, .int .i64 g2, .bool s2, .int .i64 st2, .int .i64 rs2, .int .i64 rr2, .int .i64 sq2, (.slice ao2 l1.length cap2)] 28)
  have HA4 : Hid (Mod _ _ _) := (hA1.trans hm2 (V := fun _ => False) (fun _ _ h => h) (fun _ _ h => h)).trans hD3 (V := fun _ => False) (fun _ _ h => h) (fun _ _ h => h)
  have hb4 := (hb1.mod hm2 (fun h => h)).mod hD3 (fun h => h)
  have HZ4 : Hid (Bk _ _ _ _) := (HB1.out.mod hm2 (fun h => h)).mod hD3 (fun h => h)
  have HO4 : Hid (Own _ _ _) := ho.mod hD3 (fun _ _ h => h)
  have HF : Hid (∀ q, (Value.slice ao2 l1.length cap2).ownBlock = some q → w.heap.size + 2 ≤ q) := fun q hq => by have := hf q hq; omega
  clear a0 a1 a2 a3 a4 a5 a6 a7 a8 a9 a10 a11 a12 hb1 HB1 hA1 hm1 hm2 hD3 ho hok hf
  obtain ⟨a0, a1, a2, a3, a4, a5, a6, a7, a8, a9, a10, a11, a12⟩ := hb4.cells
  have hIE := HI.out
  clear hb4
  go_wp2_with (refine wpList_store_row info18 rfl rfl _ _ rfl (w.heap.size + 1) #[.int .i64 rs, .int .i64 rr, .int .i64 sq, .int .i64 i, .int .i64 st, .int .i64 k2, .int .i64 o2, .int .i64 lf2, .int .i64 i2, .int .i64 p2, .int .i64 ps2, .int .i64 g2, .bool s2, .int .i64 st2, .int .i64 rs2, .int .i64 rr2, .int .i64 sq2, (.slice ao2 l1.length cap2)] rfl rfl HZ4.out rfl rfl rfl ?_; intro wF hBF hMF)
  subst hIE
  exact bodyPost_ret (res18 rfl rfl rfl hBF rfl) rfl ⟨_, _, _, _, _, _, _, _, _, _, _, _, _, _, _, _, _, _, rfl, HA4.out.trans hMF (V := fun _ => False) (fun _ _ h => h) (fun _ hi h => by omega), fun _ => ⟨⟨rfl, rfl, rfl, rfl, rfl⟩, rfl, HO4.out.mod hMF (fun q hq e => by have := HF.out q hq; omega), fun q hq => by have := HF.out q hq; omega⟩, fun h => absurd rfl h⟩
end Go.Proofs.Ytajhpnfpjickbaa
namespace Go.Proofs.Ytajhpnfpjickbaa
open Go.RowKit
/-- Old's answer, by what is asked in turn. -/
def oldc (rz : Bool) (c1 ds : Int) (c2 c3 c4 : Bool) (E k : Int) : Int := if (rz = false ∧ c1 = 0 ∧ ¬ ds < 1 ∧ c2 = true ∧ c3 = true ∧ c4 = true ∧ E = 0 ∧ k ≠ 5) then 0 else 2
set_option maxRecDepth 100000 in
set_option maxHeartbeats 8000000 in
theorem dOld (dq dr ds dn dt : Int) (k o lf i p ps g : Int) (s : Bool) (st rs rr sq : Int) (ao : Option Addr) (cap : Nat) (l : List Int) (w : World) (hs : Sl w (.slice ao l.length cap) l) :
    Calls Try.prog 29 #[.agg #[.int .i64 dq, .int .i64 dr, .int .i64 ds, .int .i64 dn, .int .i64 dt, .int .i64 k, .int .i64 o, .int .i64 lf, .int .i64 i, .int .i64 p, .int .i64 ps, .int .i64 g, .bool s, .int .i64 st, .int .i64 rs, .int .i64 rr, .int .i64 sq, (.slice ao l.length cap)]] w fun e w' => ∃ k' o' lf' i' p' ps' g' s' st' rs' rr' sq' bv', e = .returned (.tuple #[.agg #[.int .i64 k', .int .i64 o', .int .i64 lf', .int .i64 i', .int .i64 p', .int .i64 ps', .int .i64 g', .bool s', .int .i64 st', .int .i64 rs', .int .i64 rr', .int .i64 sq', bv'], .int .i64 (olE dt dq dr ds dn ⟨k, o, lf, i, p, ps, g, s, st, rs, rr, sq, l⟩)]) ∧ Mod (fun _ => False) w w' ∧
      (olE dt dq dr ds dn ⟨k, o, lf, i, p, ps, g, s, st, rs, rr, sq, l⟩ = 0 → (k' = 5 ∧ o' = dn ∧ lf' = 0 ∧ i' = dn ∧ p' = 0 ∧ ps' = 0 ∧ g' = 0 ∧ s' = false ∧ st' = dt ∧ rs' = dq ∧ rr' = dr ∧ sq' = ds) ∧ Own w' bv' (pk ⟨k, o, lf, i, p, ps, g, s, st, rs, rr, sq, l⟩) ∧ (∀ g, bv'.ownBlock = some g → w.heap.size ≤ g)) ∧
      (olE dt dq dr ds dn ⟨k, o, lf, i, p, ps, g, s, st, rs, rr, sq, l⟩ ≠ 0 → (k' = 0 ∧ o' = 0 ∧ lf' = 0 ∧ i' = 0 ∧ p' = 0 ∧ ps' = 0 ∧ g' = 0 ∧ s' = false ∧ st' = 0 ∧ rs' = 0 ∧ rr' = 0 ∧ sq' = 0 ∧ bv' = .slice none 0 0))  := by
  have hA := ((Mod.refl (fun _ => False) w).alloc (.cells #[.int .i64 dq, .int .i64 dr, .int .i64 ds, .int .i64 dn, .int .i64 dt, .int .i64 k, .int .i64 o, .int .i64 lf, .int .i64 i, .int .i64 p, .int .i64 ps, .int .i64 g, .bool s, .int .i64 st, .int .i64 rs, .int .i64 rr, .int .i64 sq, (.slice ao l.length cap)] 49)).alloc (.cells #[.int .i64 0, .int .i64 0, .int .i64 0, .int .i64 0, .int .i64 0, .int .i64 0, .int .i64 0, .bool false, .int .i64 0, .int .i64 0, .int .i64 0, .int .i64 0, (.slice none 0 0)] 28)
  have hB0 := Bk.new (w.alloc (.cells #[.int .i64 dq, .int .i64 dr, .int .i64 ds, .int .i64 dn, .int .i64 dt, .int .i64 k, .int .i64 o, .int .i64 lf, .int .i64 i, .int .i64 p, .int .i64 ps, .int .i64 g, .bool s, .int .i64 st, .int .i64 rs, .int .i64 rr, .int .i64 sq, (.slice ao l.length cap)] 49)) #[.int .i64 0, .int .i64 0, .int .i64 0, .int .i64 0, .int .i64 0, .int .i64 0, .int .i64 0, .bool false, .int .i64 0, .int .i64 0, .int .i64 0, .int .i64 0, (.slice none 0 0)] 28
  rw [show (w.alloc (.cells #[.int .i64 dq, .int .i64 dr, .int .i64 ds, .int .i64 dn, .int .i64 dt, .int .i64 k, .int .i64 o, .int .i64 lf, .int .i64 i, .int .i64 p, .int .i64 ps, .int .i64 g, .bool s, .int .i64 st, .int .i64 rs, .int .i64 rr, .int .i64 sq, (.slice ao l.length cap)] 49)).heap.size = w.heap.size + 1 from by simp] at hB0
  have hd0 := (DB.new w dq dr ds dn dt k o lf i p ps g s st rs rr sq (.slice ao l.length cap)).mod ((Mod.refl (fun _ => False) _).alloc (.cells #[.int .i64 0, .int .i64 0, .int .i64 0, .int .i64 0, .int .i64 0, .int .i64 0, .int .i64 0, .bool false, .int .i64 0, .int .i64 0, .int .i64 0, .int .i64 0, (.slice none 0 0)] 28)) (fun h => h)
  have hs0 := hs.mod hA (fun _ _ h => h)
  have hoc := @old_chk dt dq dr ds dn ⟨k, o, lf, i, p, ps, g, s, st, rs, rr, sq, l⟩ hs.rng
  have hoe : olE dt dq dr ds dn ⟨k, o, lf, i, p, ps, g, s, st, rs, rr, sq, l⟩ = if chk ⟨k, o, lf, i, p, ps, g, s, st, rs, rr, sq, l⟩ = 0 ∧ chk (od5 dt dq dr ds dn ⟨k, o, lf, i, p, ps, g, s, st, rs, rr, sq, l⟩) = 0 then 0 else 2 := rfl
  have hol : olE dt dq dr ds dn ⟨k, o, lf, i, p, ps, g, s, st, rs, rr, sq, l⟩ = if ((decide (dq = 0) && decide (dr = 0)) = false ∧ cr dq dr = 0 ∧ ¬ ds < 1 ∧ nm ds = true ∧ nd dn = true ∧ nm dt = true ∧ chk ⟨k, o, lf, i, p, ps, g, s, st, rs, rr, sq, l⟩ = 0 ∧ k ≠ 5) then 0 else 2 := by
    have hzz : ¬ (dq = 0 ∧ dr = 0) ↔ (decide (dq = 0) && decide (dr = 0)) = false := by simp
    rw [hoe]
    by_cases hc : chk ⟨k, o, lf, i, p, ps, g, s, st, rs, rr, sq, l⟩ = 0
    · have := hoc hc
      simp only [isr, Bool.and_eq_true, decide_eq_true_eq, beq_iff_eq] at this
      by_cases h2 : chk (od5 dt dq dr ds dn ⟨k, o, lf, i, p, ps, g, s, st, rs, rr, sq, l⟩) = 0
      · obtain ⟨q1, q2, q3, ⟨q4, q5⟩, q6, q7⟩ := this.1 h2
        rw [if_pos ⟨hc, h2⟩, if_pos ⟨hzz.1 q4, q5, by omega, q3, q1, q2, hc, q7⟩]
      · rw [if_neg (fun h => h2 h.2), if_neg]
        rintro ⟨q4, q5, q6, q3, q1, q2, _, q7⟩
        exact h2 (this.2 ⟨q1, q2, q3, ⟨hzz.2 q4, q5⟩, by omega, q7⟩)
    · rw [if_neg (fun h => hc h.1), if_neg (fun h => hc h.2.2.2.2.2.2.1)]
  have hnum : chk ⟨k, o, lf, i, p, ps, g, s, st, rs, rr, sq, l⟩ = 0 → Nums (Ms.n8 ⟨k, o, lf, i, p, ps, g, s, st, rs, rr, sq, l⟩) ∧ Nums (Ms.n4 ⟨k, o, lf, i, p, ps, g, s, st, rs, rr, sq, l⟩) ∧ l.length ≤ 160 := fun h => ⟨(chk_nums h).1, (chk_nums h).2, (chk_parts h).1⟩
  have HBy := fun W h (q : Nums (Ms.n8 ⟨k, o, lf, i, p, ps, g, s, st, rs, rr, sq, l⟩) ∧ Nums (Ms.n4 ⟨k, o, lf, i, p, ps, g, s, st, rs, rr, sq, l⟩) ∧ l.length ≤ 160) => dBytes k o lf i p ps g s st rs rr sq ao cap l W h q.1 q.2.1 q.2.2
  have H1 := RCheckRing dq dr
  have H2 := dNumber ds
  have H3 := dNode dn
  have H4 := dNumber dt
  have HC := fun W h => dCheck k o lf i p ps g s st rs rr sq ao cap l W h
  have ER := eqRing dq dr 0 0
  obtain ⟨rz, hrz⟩ : ∃ z, (decide (dq = 0) && decide (dr = 0)) = z := ⟨_, rfl⟩
  rw [hrz] at ER hol
  clear hoe hoc hrz
  generalize olE dt dq dr ds dn ⟨k, o, lf, i, p, ps, g, s, st, rs, rr, sq, l⟩ = OE at hol ⊢
  generalize pk ⟨k, o, lf, i, p, ps, g, s, st, rs, rr, sq, l⟩ = PK at HBy ⊢
  generalize chk ⟨k, o, lf, i, p, ps, g, s, st, rs, rr, sq, l⟩ = E at HC hol hnum
  generalize cr dq dr = c1 at H1 hol
  generalize nm ds = c2 at H2 hol
  generalize nd dn = c3 at H3 hol
  generalize nm dt = c4 at H4 hol
  have HB0 : Hid (Bk _ _ _ _) := hB0
  clear hB0
  have HOL : Hid (OE = oldc rz c1 ds c2 c3 c4 E k) := hol
  clear hol
  cases rz
  case true =>
    obtain rfl : OE = 2 := by rw [HOL.out]; simp [oldc]
    clear HOL
    have HA : Hid (Mod _ _ _) := hA
    have HB := HB0
    clear hA hs0
    go_enter Try.func29, Try.ntmps29
    go_wp2_with (refine wpList_store_row info13 rfl rfl _ _ rfl (w.heap.size + 1) #[.int .i64 0, .int .i64 0, .int .i64 0, .int .i64 0, .int .i64 0, .int .i64 0, .int .i64 0, .bool false, .int .i64 0, .int .i64 0, .int .i64 0, .int .i64 0, (.slice none 0 0)] rfl rfl HB.out rfl rfl rfl ?_; intro wF hBF hMF)
    exact bodyPost_ret (res13 rfl rfl rfl hBF rfl) rfl ⟨_, _, _, _, _, _, _, _, _, _, _, _, _, rfl, HA.out.trans hMF (V := fun _ => False) (fun _ _ h => h) (fun _ hi h => by omega), fun h => absurd h (by decide), fun _ => ⟨rfl, rfl, rfl, rfl, rfl, rfl, rfl, rfl, rfl, rfl, rfl, rfl, rfl⟩⟩
  case false =>
  go_enter Try.func29, Try.ntmps29
  go_wp2_with (fail)
  refine (H1 _).mono ?_
  rintro e w1 ⟨rfl, hm1⟩
  have hA1 := hA.trans hm1 (V := fun _ => False) (fun _ _ h => h) (fun _ _ h => h)
  have HB1 : Hid (Bk _ _ _ _) := HB0.out.mod hm1 (fun h => h)
  have hd1 := DB.mod (S := fun _ => False) hd0 hm1 (fun h => h)
  have hs1 := hs0.mod hm1 (fun _ _ h => h)
  obtain ⟨a0, a1, a2, a3, a4, a5, a6, a7, a8, a9, a10, a11, a12, a13, a14, a15, a16, a17⟩ := hd1.cells
  clear HB0 hd0 hs0 hA
  by_cases h1 : c1 = 0
  case neg =>
    have hn1 : (c1 != 0) = true := by simp [h1]
    obtain rfl : OE = 2 := by rw [HOL.out, oldc, if_neg (fun h => h1 h.2.1)]
    clear HOL
    have HA : Hid (Mod _ _ _) := hA1
    have HB := HB1
    clear hA1 a0 a1 a2 a3 a4 a5 a6 a7 a8 a9 a10 a11 a12 a13 a14 a15 a16 a17
    go_wp2_with (refine wpList_store_row info13 rfl rfl _ _ rfl (w.heap.size + 1) #[.int .i64 0, .int .i64 0, .int .i64 0, .int .i64 0, .int .i64 0, .int .i64 0, .int .i64 0, .bool false, .int .i64 0, .int .i64 0, .int .i64 0, .int .i64 0, (.slice none 0 0)] rfl rfl HB.out rfl rfl rfl ?_; intro wF hBF hMF)
    exact bodyPost_ret (res13 rfl rfl rfl hBF rfl) rfl ⟨_, _, _, _, _, _, _, _, _, _, _, _, _, rfl, HA.out.trans hMF (V := fun _ => False) (fun _ _ h => h) (fun _ hi h => by omega), fun h => absurd h (by decide), fun _ => ⟨rfl, rfl, rfl, rfl, rfl, rfl, rfl, rfl, rfl, rfl, rfl, rfl, rfl⟩⟩
  case pos =>
  subst h1
  by_cases h2 : ds < 1
  case pos =>
    obtain rfl : OE = 2 := by rw [HOL.out, oldc, if_neg (fun h => h.2.2.1 h2)]
    clear HOL
    have HA : Hid (Mod _ _ _) := hA1
    have HB := HB1
    clear hA1
    go_wp2_with (refine wpList_store_row info13 rfl rfl _ _ rfl (w.heap.size + 1) #[.int .i64 0, .int .i64 0, .int .i64 0, .int .i64 0, .int .i64 0, .int .i64 0, .int .i64 0, .bool false, .int .i64 0, .int .i64 0, .int .i64 0, .int .i64 0, (.slice none 0 0)] rfl rfl HB.out rfl rfl rfl ?_; intro wF hBF hMF)
    exact bodyPost_ret (res13 rfl rfl rfl hBF rfl) rfl ⟨_, _, _, _, _, _, _, _, _, _, _, _, _, rfl, HA.out.trans hMF (V := fun _ => False) (fun _ _ h => h) (fun _ hi h => by omega), fun h => absurd h (by decide), fun _ => ⟨rfl, rfl, rfl, rfl, rfl, rfl, rfl, rfl, rfl, rfl, rfl, rfl, rfl⟩⟩
  case neg =>
  go_wp2_with (fail)
  refine (H2 _).mono ?_
  rintro e w9 ⟨rfl, rfl⟩
  cases c2
  case false =>
    obtain rfl : OE = 2 := by rw [HOL.out]; simp [oldc]
    clear HOL
    have HA : Hid (Mod _ _ _) := hA1
    have HB := HB1
    clear hA1
    go_wp2_with (refine wpList_store_row info13 rfl rfl _ _ rfl (w.heap.size + 1) #[.int .i64 0, .int .i64 0, .int .i64 0, .int .i64 0, .int .i64 0, .int .i64 0, .int .i64 0, .bool false, .int .i64 0, .int .i64 0, .int .i64 0, .int .i64 0, (.slice none 0 0)] rfl rfl HB.out rfl rfl rfl ?_; intro wF hBF hMF)
    exact bodyPost_ret (res13 rfl rfl rfl hBF rfl) rfl ⟨_, _, _, _, _, _, _, _, _, _, _, _, _, rfl, HA.out.trans hMF (V := fun _ => False) (fun _ _ h => h) (fun _ hi h => by omega), fun h => absurd h (by decide), fun _ => ⟨rfl, rfl, rfl, rfl, rfl, rfl, rfl, rfl, rfl, rfl, rfl, rfl, rfl⟩⟩
  case true =>
  go_wp2_with (fail)
  refine (H3 _).mono ?_
  rintro e w9 ⟨rfl, rfl⟩
  cases c3
  case false =>
    obtain rfl : OE = 2 := by rw [HOL.out]; simp [oldc]
    clear HOL
    have HA : Hid (Mod _ _ _) := hA1
    have HB := HB1
    clear hA1
    go_wp2_with (refine wpList_store_row info13 rfl rfl _ _ rfl (w.heap.size + 1) #[.int .i64 0, .int .i64 0, .int .i64 0, .int .i64 0, .int .i64 0, .int .i64 0, .int .i64 0, .bool false, .int .i64 0, .int .i64 0, .int .i64 0, .int .i64 0, (.slice none 0 0)] rfl rfl HB.out rfl rfl rfl ?_; intro wF hBF hMF)
    exact bodyPost_ret (res13 rfl rfl rfl hBF rfl) rfl ⟨_, _, _, _, _, _, _, _, _, _, _, _, _, rfl, HA.out.trans hMF (V := fun _ => False) (fun _ _ h => h) (fun _ hi h => by omega), fun h => absurd h (by decide), fun _ => ⟨rfl, rfl, rfl, rfl, rfl, rfl, rfl, rfl, rfl, rfl, rfl, rfl, rfl⟩⟩
  case true =>
  go_wp2_with (fail)
  refine (H4 _).mono ?_
  rintro e w9 ⟨rfl, rfl⟩
  cases c4
  case false =>
    obtain rfl : OE = 2 := by rw [HOL.out]; simp [oldc]
    clear HOL
    have HA : Hid (Mod _ _ _) := hA1
    have HB := HB1
    clear hA1
    go_wp2_with (refine wpList_store_row info13 rfl rfl _ _ rfl (w.heap.size + 1) #[.int .i64 0, .int .i64 0, .int .i64 0, .int .i64 0, .int .i64 0, .int .i64 0, .int .i64 0, .bool false, .int .i64 0, .int .i64 0, .int .i64 0, .int .i64 0, (.slice none 0 0)] rfl rfl HB.out rfl rfl rfl ?_; intro wF hBF hMF)
    exact bodyPost_ret (res13 rfl rfl rfl hBF rfl) rfl ⟨_, _, _, _, _, _, _, _, _, _, _, _, _, rfl, HA.out.trans hMF (V := fun _ => False) (fun _ _ h => h) (fun _ hi h => by omega), fun h => absurd h (by decide), fun _ => ⟨rfl, rfl, rfl, rfl, rfl, rfl, rfl, rfl, rfl, rfl, rfl, rfl, rfl⟩⟩
  case true =>
  go_wp2_with (fail)
  refine (HC _ hs1).mono ?_
  rintro e w2 ⟨rfl, hm2⟩
  have hA2 := hA1.trans hm2 (V := fun _ => False) (fun _ _ h => h) (fun _ _ h => h)
  have HB2 : Hid (Bk _ _ _ _) := HB1.out.mod hm2 (fun h => h)
  have hd2 := DB.mod (S := fun _ => False) hd1 hm2 (fun h => h)
  have hs2 := hs1.mod hm2 (fun _ _ h => h)
  clear hd1 hs1 hA1 HB1 a0 a1 a2 a3 a4 a5 a6 a7 a8 a9 a10 a11 a12 a13 a14 a15 a16 a17
  obtain ⟨a0, a1, a2, a3, a4, a5, a6, a7, a8, a9, a10, a11, a12, a13, a14, a15, a16, a17⟩ := hd2.cells
  by_cases hE : E = 0
  case neg =>
    have hn1 : (E != 0) = true := by simp [hE]
    obtain rfl : OE = 2 := by rw [HOL.out, oldc, if_neg (fun h => hE h.2.2.2.2.2.2.1)]
    clear HOL
    have HA : Hid (Mod _ _ _) := hA2
    have HB := HB2
    clear hA2
    go_wp2_with (refine wpList_store_row info13 rfl rfl _ _ rfl (w.heap.size + 1) #[.int .i64 0, .int .i64 0, .int .i64 0, .int .i64 0, .int .i64 0, .int .i64 0, .int .i64 0, .bool false, .int .i64 0, .int .i64 0, .int .i64 0, .int .i64 0, (.slice none 0 0)] rfl rfl HB.out rfl rfl rfl ?_; intro wF hBF hMF)
    exact bodyPost_ret (res13 rfl rfl rfl hBF rfl) rfl ⟨_, _, _, _, _, _, _, _, _, _, _, _, _, rfl, HA.out.trans hMF (V := fun _ => False) (fun _ _ h => h) (fun _ hi h => by omega), fun h => absurd h (by decide), fun _ => ⟨rfl, rfl, rfl, rfl, rfl, rfl, rfl, rfl, rfl, rfl, rfl, rfl, rfl⟩⟩
  case pos =>
  subst hE
  by_cases hk : k = 5
  case pos =>
    subst hk
    obtain rfl : OE = 2 := by rw [HOL.out]; simp [oldc]
    clear HOL
    have HA : Hid (Mod _ _ _) := hA2
    have HB := HB2
    clear hA2
    go_wp2_with (refine wpList_store_row info13 rfl rfl _ _ rfl (w.heap.size + 1) #[.int .i64 0, .int .i64 0, .int .i64 0, .int .i64 0, .int .i64 0, .int .i64 0, .int .i64 0, .bool false, .int .i64 0, .int .i64 0, .int .i64 0, .int .i64 0, (.slice none 0 0)] rfl rfl HB.out rfl rfl rfl ?_; intro wF hBF hMF)
    exact bodyPost_ret (res13 rfl rfl rfl hBF rfl) rfl ⟨_, _, _, _, _, _, _, _, _, _, _, _, _, rfl, HA.out.trans hMF (V := fun _ => False) (fun _ _ h => h) (fun _ hi h => by omega), fun h => absurd h (by decide), fun _ => ⟨rfl, rfl, rfl, rfl, rfl, rfl, rfl, rfl, rfl, rfl, rfl, rfl, rfl⟩⟩
  case neg =>
  have hkb : (k == 5) = false := by simp [hk]
  have HO : Hid (OE = 0) := by show _ = _; rw [HOL.out, oldc, if_pos]; exact ⟨rfl, rfl, by omega, rfl, rfl, rfl, rfl, hk⟩
  have hq := hnum rfl
  clear HOL hnum
  go_wp2_with (fail)
  replace hA2 := hA2.drew
  replace a0 : w2.drew.cell? ⟨w.heap.size, 0, none⟩ = some (.int .i64 dq) := a0
  replace a1 : w2.drew.cell? ⟨w.heap.size, 1, none⟩ = some (.int .i64 dr) := a1
  replace a2 : w2.drew.cell? ⟨w.heap.size, 2, none⟩ = some (.int .i64 ds) := a2
  replace a3 : w2.drew.cell? ⟨w.heap.size, 3, none⟩ = some (.int .i64 dn) := a3
  replace a4 : w2.drew.cell? ⟨w.heap.size, 4, none⟩ = some (.int .i64 dt) := a4
  replace a5 : w2.drew.cell? ⟨w.heap.size, 5, none⟩ = some (.int .i64 k) := a5
  replace a6 : w2.drew.cell? ⟨w.heap.size, 6, none⟩ = some (.int .i64 o) := a6
  replace a7 : w2.drew.cell? ⟨w.heap.size, 7, none⟩ = some (.int .i64 lf) := a7
  replace a8 : w2.drew.cell? ⟨w.heap.size, 8, none⟩ = some (.int .i64 i) := a8
  replace a9 : w2.drew.cell? ⟨w.heap.size, 9, none⟩ = some (.int .i64 p) := a9
  replace a10 : w2.drew.cell? ⟨w.heap.size, 10, none⟩ = some (.int .i64 ps) := a10
  replace a11 : w2.drew.cell? ⟨w.heap.size, 11, none⟩ = some (.int .i64 g) := a11
  replace a12 : w2.drew.cell? ⟨w.heap.size, 12, none⟩ = some (.bool s) := a12
  replace a13 : w2.drew.cell? ⟨w.heap.size, 13, none⟩ = some (.int .i64 st) := a13
  replace a14 : w2.drew.cell? ⟨w.heap.size, 14, none⟩ = some (.int .i64 rs) := a14
  replace a15 : w2.drew.cell? ⟨w.heap.size, 15, none⟩ = some (.int .i64 rr) := a15
  replace a16 : w2.drew.cell? ⟨w.heap.size, 16, none⟩ = some (.int .i64 sq) := a16
  replace a17 : w2.drew.cell? ⟨w.heap.size, 17, none⟩ = some (.slice ao l.length cap) := a17
  replace hs2 := hs2.mod (Mod.refl (fun _ => False) _).drew (fun _ _ h => h)
  replace HB2 : Hid (Bk _ _ _ _) := HB2.out.mod (Mod.refl (fun _ => False) _).drew (fun h => h)
  go_region_held3 (fun y => y.cell? ⟨w.heap.size, 0, none⟩ = some (.int .i64 dq) ∧ y.cell? ⟨w.heap.size, 1, none⟩ = some (.int .i64 dr) ∧ y.cell? ⟨w.heap.size, 2, none⟩ = some (.int .i64 ds) ∧ y.cell? ⟨w.heap.size, 3, none⟩ = some (.int .i64 dn) ∧ y.cell? ⟨w.heap.size, 4, none⟩ = some (.int .i64 dt) ∧ y.cell? ⟨w.heap.size, 5, none⟩ = some (.int .i64 k) ∧ y.cell? ⟨w.heap.size, 6, none⟩ = some (.int .i64 o) ∧ y.cell? ⟨w.heap.size, 7, none⟩ = some (.int .i64 lf) ∧ y.cell? ⟨w.heap.size, 8, none⟩ = some (.int .i64 i) ∧ y.cell? ⟨w.heap.size, 9, none⟩ = some (.int .i64 p) ∧ y.cell? ⟨w.heap.size, 10, none⟩ = some (.int .i64 ps) ∧ y.cell? ⟨w.heap.size, 11, none⟩ = some (.int .i64 g) ∧ y.cell? ⟨w.heap.size, 12, none⟩ = some (.bool s) ∧ y.cell? ⟨w.heap.size, 13, none⟩ = some (.int .i64 st) ∧ y.cell? ⟨w.heap.size, 14, none⟩ = some (.int .i64 rs) ∧ y.cell? ⟨w.heap.size, 15, none⟩ = some (.int .i64 rr) ∧ y.cell? ⟨w.heap.size, 16, none⟩ = some (.int .i64 sq) ∧ y.cell? ⟨w.heap.size, 17, none⟩ = some (.slice ao l.length cap)) (first | with_reducible exact ⟨a0, a1, a2, a3, a4, a5, a6, a7, a8, a9, a10, a11, a12, a13, a14, a15, a16, a17⟩ | with_reducible exact ⟨hst.cell a0 (by show ¬ (w.heap.size = w.heap.size + 1); omega), hst.cell a1 (by show ¬ (w.heap.size = w.heap.size + 1); omega), hst.cell a2 (by show ¬ (w.heap.size = w.heap.size + 1); omega), hst.cell a3 (by show ¬ (w.heap.size = w.heap.size + 1); omega), hst.cell a4 (by show ¬ (w.heap.size = w.heap.size + 1); omega), hst.cell a5 (by show ¬ (w.heap.size = w.heap.size + 1); omega), hst.cell a6 (by show ¬ (w.heap.size = w.heap.size + 1); omega), hst.cell a7 (by show ¬ (w.heap.size = w.heap.size + 1); omega), hst.cell a8 (by show ¬ (w.heap.size = w.heap.size + 1); omega), hst.cell a9 (by show ¬ (w.heap.size = w.heap.size + 1); omega), hst.cell a10 (by show ¬ (w.heap.size = w.heap.size + 1); omega), hst.cell a11 (by show ¬ (w.heap.size = w.heap.size + 1); omega), hst.cell a12 (by show ¬ (w.heap.size = w.heap.size + 1); omega), hst.cell a13 (by show ¬ (w.heap.size = w.heap.size + 1); omega), hst.cell a14 (by show ¬ (w.heap.size = w.heap.size + 1); omega), hst.cell a15 (by show ¬ (w.heap.size = w.heap.size + 1); omega), hst.cell a16 (by show ¬ (w.heap.size = w.heap.size + 1); omega), hst.cell a17 (by show ¬ (w.heap.size = w.heap.size + 1); omega)⟩)
    ((go_at_call 50; refine (HBy _ hs2 hq).mono ?_; rintro e w3 ⟨bv3, rfl, ho3, hm3, hf3⟩; obtain ⟨ao3, cap3, rfl⟩ := ho3.shape; replace a0 := hm3.cell a0 (fun h => h); replace a1 := hm3.cell a1 (fun h => h); replace a2 := hm3.cell a2 (fun h => h); replace a3 := hm3.cell a3 (fun h => h); replace a4 := hm3.cell a4 (fun h => h); replace a5 := hm3.cell a5 (fun h => h); replace a6 := hm3.cell a6 (fun h => h); replace a7 := hm3.cell a7 (fun h => h); replace a8 := hm3.cell a8 (fun h => h); replace a9 := hm3.cell a9 (fun h => h); replace a10 := hm3.cell a10 (fun h => h); replace a11 := hm3.cell a11 (fun h => h); replace a12 := hm3.cell a12 (fun h => h); replace a13 := hm3.cell a13 (fun h => h); replace a14 := hm3.cell a14 (fun h => h); replace a15 := hm3.cell a15 (fun h => h); replace a16 := hm3.cell a16 (fun h => h); replace a17 := hm3.cell a17 (fun h => h); have z0 := (HB2.out.mod hm3 (fun h => h)).cellv (j := 0) rfl; have z1 := (HB2.out.mod hm3 (fun h => h)).cellv (j := 1) rfl; have z2 := (HB2.out.mod hm3 (fun h => h)).cellv (j := 2) rfl; have z3 := (HB2.out.mod hm3 (fun h => h)).cellv (j := 3) rfl; have z4 := (HB2.out.mod hm3 (fun h => h)).cellv (j := 4) rfl; have z5 := (HB2.out.mod hm3 (fun h => h)).cellv (j := 5) rfl; have z6 := (HB2.out.mod hm3 (fun h => h)).cellv (j := 6) rfl; have z7 := (HB2.out.mod hm3 (fun h => h)).cellv (j := 7) rfl; have z8 := (HB2.out.mod hm3 (fun h => h)).cellv (j := 8) rfl; have z9 := (HB2.out.mod hm3 (fun h => h)).cellv (j := 9) rfl; have z10 := (HB2.out.mod hm3 (fun h => h)).cellv (j := 10) rfl; have z11 := (HB2.out.mod hm3 (fun h => h)).cellv (j := 11) rfl; have z12 := (HB2.out.mod hm3 (fun h => h)).cellv (j := 12) rfl; have hfz := (HB2.out.mod hm3 (fun h => h)).frz; have hst := stm_mod w3 (w.heap.size + 1) 5 dn 0 dn 0 0 0 false dt dq dr ds (.slice ao3 PK.length cap3); unfold stm at hst))
  have hMW := hA2.trans hm3 (V := fun _ => False) (fun _ _ h => h) (fun _ _ h => h)
  have hZ3 := HB2.out.mod hm3 (fun h => h)
  have hMB : MB w3 (w.heap.size + 1) 0 0 0 0 0 0 0 false 0 0 0 0 (.slice none 0 0) := hZ3.at'
  have hMB2 := stm_mb hMB 5 dn 0 dn 0 0 0 false dt dq dr ds (.slice ao3 PK.length cap3)
  have hszA := hA2.size
  unfold stm at hMB2
  have HF : Hid (∀ q, (Value.slice ao3 PK.length cap3).ownBlock = some q → w.heap.size + 2 ≤ q) := fun q hq => by have := hf3 q hq; have := HB2.out.lt; simp only [World.drew] at *; omega
  have HM : Hid (Mod (fun _ => False) w _) := hMW.trans hst (V := fun _ => False) (fun _ _ h => h) (fun q hq h => by omega)
  have HOw : Hid (Own _ _ _) := ho3.mod hst (fun q hq e => by have := HF.out q hq; omega)
  have HBk : Hid (Bk _ (w.heap.size + 1) 28 _) := ⟨hMB2⟩
  clear hMB hMB2 hZ3 ho3 hMW hst a0 a1 a2 a3 a4 a5 a6 a7 a8 a9 a10 a11 a12 a13 a14 a15 a16 a17 z0 z1 z2 z3 z4 z5 z6 z7 z8 z9 z10 z11 z12
  go_wp2_with (fail)
  have hO := HO.out
  subst hO
  exact bodyPost_ret (res13 rfl rfl rfl HBk.out rfl) rfl ⟨_, _, _, _, _, _, _, _, _, _, _, _, _, rfl, HM.out, fun _ => ⟨⟨rfl, rfl, rfl, rfl, rfl, rfl, rfl, rfl, rfl, rfl, rfl, rfl⟩, HOw.out, fun q hq => by have := HF.out q hq; omega⟩, fun h => absurd rfl h⟩
end Go.Proofs.Ytajhpnfpjickbaa
namespace Go.Proofs.Ytajhpnfpjickbaa
open Go.RowKit
def zMs : Ms := ⟨0, 0, 0, 0, 0, 0, 0, false, 0, 0, 0, 0, []⟩
/-- Old's answer. -/
def olM (s q r n sn : Int) (m : Ms) : Ms := if olE s q r n sn m = 0 then ⟨5, sn, 0, sn, 0, 0, 0, false, s, q, r, n, pk m⟩ else zMs
theorem old_m {dq dr ds dn dt : Int} {k o lf i p ps g : Int} {s : Bool} {st rs rr sq : Int} {l : List Int} {w : World} {e : Ending} {w' : World} (h : ∃ k' o' lf' i' p' ps' g' s' st' rs' rr' sq' bv', e = .returned (.tuple #[.agg #[.int .i64 k', .int .i64 o', .int .i64 lf', .int .i64 i', .int .i64 p', .int .i64 ps', .int .i64 g', .bool s', .int .i64 st', .int .i64 rs', .int .i64 rr', .int .i64 sq', bv'], .int .i64 (olE dt dq dr ds dn ⟨k, o, lf, i, p, ps, g, s, st, rs, rr, sq, l⟩)]) ∧ Mod (fun _ => False) w w' ∧
      (olE dt dq dr ds dn ⟨k, o, lf, i, p, ps, g, s, st, rs, rr, sq, l⟩ = 0 → (k' = 5 ∧ o' = dn ∧ lf' = 0 ∧ i' = dn ∧ p' = 0 ∧ ps' = 0 ∧ g' = 0 ∧ s' = false ∧ st' = dt ∧ rs' = dq ∧ rr' = dr ∧ sq' = ds) ∧ Own w' bv' (pk ⟨k, o, lf, i, p, ps, g, s, st, rs, rr, sq, l⟩) ∧ (∀ g, bv'.ownBlock = some g → w.heap.size ≤ g)) ∧
      (olE dt dq dr ds dn ⟨k, o, lf, i, p, ps, g, s, st, rs, rr, sq, l⟩ ≠ 0 → (k' = 0 ∧ o' = 0 ∧ lf' = 0 ∧ i' = 0 ∧ p' = 0 ∧ ps' = 0 ∧ g' = 0 ∧ s' = false ∧ st' = 0 ∧ rs' = 0 ∧ rr' = 0 ∧ sq' = 0 ∧ bv' = .slice none 0 0))) :
    ∃ ao cap, e = .returned (.tuple #[.agg #[.int .i64 (olM dt dq dr ds dn ⟨k, o, lf, i, p, ps, g, s, st, rs, rr, sq, l⟩).kind, .int .i64 (olM dt dq dr ds dn ⟨k, o, lf, i, p, ps, g, s, st, rs, rr, sq, l⟩).origin, .int .i64 (olM dt dq dr ds dn ⟨k, o, lf, i, p, ps, g, s, st, rs, rr, sq, l⟩).life, .int .i64 (olM dt dq dr ds dn ⟨k, o, lf, i, p, ps, g, s, st, rs, rr, sq, l⟩).id, .int .i64 (olM dt dq dr ds dn ⟨k, o, lf, i, p, ps, g, s, st, rs, rr, sq, l⟩).part, .int .i64 (olM dt dq dr ds dn ⟨k, o, lf, i, p, ps, g, s, st, rs, rr, sq, l⟩).parts, .int .i64 (olM dt dq dr ds dn ⟨k, o, lf, i, p, ps, g, s, st, rs, rr, sq, l⟩).groups, .bool (olM dt dq dr ds dn ⟨k, o, lf, i, p, ps, g, s, st, rs, rr, sq, l⟩).safe, .int .i64 (olM dt dq dr ds dn ⟨k, o, lf, i, p, ps, g, s, st, rs, rr, sq, l⟩).st, .int .i64 (olM dt dq dr ds dn ⟨k, o, lf, i, p, ps, g, s, st, rs, rr, sq, l⟩).rs, .int .i64 (olM dt dq dr ds dn ⟨k, o, lf, i, p, ps, g, s, st, rs, rr, sq, l⟩).rr, .int .i64 (olM dt dq dr ds dn ⟨k, o, lf, i, p, ps, g, s, st, rs, rr, sq, l⟩).sq, .slice ao (olM dt dq dr ds dn ⟨k, o, lf, i, p, ps, g, s, st, rs, rr, sq, l⟩).body.length cap], .int .i64 (olE dt dq dr ds dn ⟨k, o, lf, i, p, ps, g, s, st, rs, rr, sq, l⟩)]) ∧ Mod (fun _ => False) w w' ∧ Own w' (.slice ao (olM dt dq dr ds dn ⟨k, o, lf, i, p, ps, g, s, st, rs, rr, sq, l⟩).body.length cap) (olM dt dq dr ds dn ⟨k, o, lf, i, p, ps, g, s, st, rs, rr, sq, l⟩).body ∧ (∀ q : Nat, (Value.slice ao (olM dt dq dr ds dn ⟨k, o, lf, i, p, ps, g, s, st, rs, rr, sq, l⟩).body.length cap).ownBlock = some q → w.heap.size ≤ q) := by
  obtain ⟨k', o', lf', i', p', ps', g', s', st', rs', rr', sq', bv', rfl, hm, hok, hno⟩ := h
  by_cases h0 : olE dt dq dr ds dn ⟨k, o, lf, i, p, ps, g, s, st, rs, rr, sq, l⟩ = 0
  · obtain ⟨⟨rfl, rfl, rfl, rfl, rfl, rfl, rfl, rfl, rfl, rfl, rfl, rfl⟩, h2, h3⟩ := hok h0
    obtain ⟨ao, cap, rfl⟩ := h2.shape
    refine ⟨ao, cap, ?_, hm, ?_, ?_⟩
    · rw [olM, if_pos h0]
    · rw [olM, if_pos h0]; exact h2
    · rw [olM, if_pos h0]; exact h3
  · obtain ⟨rfl, rfl, rfl, rfl, rfl, rfl, rfl, rfl, rfl, rfl, rfl, rfl, rfl⟩ := hno h0
    refine ⟨none, 0, ?_, hm, ?_, ?_⟩
    · rw [olM, if_neg h0]; rfl
    · rw [olM, if_neg h0]; exact Own.nil _
    · intro g hg; simp [Value.ownBlock] at hg
theorem olM_rng {s q r n sn : Int} {m : Ms} (hr : ∀ c ∈ m.body, 0 ≤ c ∧ c ≤ 255) : ∀ c ∈ (olM s q r n sn m).body, 0 ≤ c ∧ c ≤ 255 := by
  unfold olM
  split
  · exact pk_rng m hr
  · intro c hc; simp [zMs] at hc
/-- Inner's answer. -/
def inM (m : Ms) : Ms := if inE m = 0 then prM m.body else zMs
def inD (m : Ms) : Int × Int × Int × Int × Int := if inE m = 0 then (m.rs, m.rr, m.sq, m.id, m.st) else (0, 0, 0, 0, 0)
theorem inner_m {k o lf i p ps g : Int} {s : Bool} {st rs rr sq : Int} {l : List Int} {w : World} {e : Ending} {w' : World} (h : ∃ dq dr ds dn dt k' o' lf' i' p' ps' g' s' st' rs' rr' sq' bv', e = .returned (.tuple #[.agg #[.int .i64 dq, .int .i64 dr, .int .i64 ds, .int .i64 dn, .int .i64 dt, .int .i64 k', .int .i64 o', .int .i64 lf', .int .i64 i', .int .i64 p', .int .i64 ps', .int .i64 g', .bool s', .int .i64 st', .int .i64 rs', .int .i64 rr', .int .i64 sq', bv'], .int .i64 (inE ⟨k, o, lf, i, p, ps, g, s, st, rs, rr, sq, l⟩)]) ∧ Mod (fun _ => False) w w' ∧
      (inE ⟨k, o, lf, i, p, ps, g, s, st, rs, rr, sq, l⟩ = 0 → (dq = rs ∧ dr = rr ∧ ds = sq ∧ dn = i ∧ dt = st) ∧ Ms.mk k' o' lf' i' p' ps' g' s' st' rs' rr' sq' (prM l).body = prM l ∧ Own w' bv' (prM l).body ∧ (∀ g, bv'.ownBlock = some g → w.heap.size ≤ g)) ∧
      (inE ⟨k, o, lf, i, p, ps, g, s, st, rs, rr, sq, l⟩ ≠ 0 → (dq = 0 ∧ dr = 0 ∧ ds = 0 ∧ dn = 0 ∧ dt = 0 ∧ k' = 0 ∧ o' = 0 ∧ lf' = 0 ∧ i' = 0 ∧ p' = 0 ∧ ps' = 0 ∧ g' = 0 ∧ s' = false ∧ st' = 0 ∧ rs' = 0 ∧ rr' = 0 ∧ sq' = 0 ∧ bv' = .slice none 0 0))) :
    ∃ ao cap, e = .returned (.tuple #[.agg #[.int .i64 (inD ⟨k, o, lf, i, p, ps, g, s, st, rs, rr, sq, l⟩).1, .int .i64 (inD ⟨k, o, lf, i, p, ps, g, s, st, rs, rr, sq, l⟩).2.1, .int .i64 (inD ⟨k, o, lf, i, p, ps, g, s, st, rs, rr, sq, l⟩).2.2.1, .int .i64 (inD ⟨k, o, lf, i, p, ps, g, s, st, rs, rr, sq, l⟩).2.2.2.1, .int .i64 (inD ⟨k, o, lf, i, p, ps, g, s, st, rs, rr, sq, l⟩).2.2.2.2, .int .i64 (inM ⟨k, o, lf, i, p, ps, g, s, st, rs, rr, sq, l⟩).kind, .int .i64 (inM ⟨k, o, lf, i, p, ps, g, s, st, rs, rr, sq, l⟩).origin, .int .i64 (inM ⟨k, o, lf, i, p, ps, g, s, st, rs, rr, sq, l⟩).life, .int .i64 (inM ⟨k, o, lf, i, p, ps, g, s, st, rs, rr, sq, l⟩).id, .int .i64 (inM ⟨k, o, lf, i, p, ps, g, s, st, rs, rr, sq, l⟩).part, .int .i64 (inM ⟨k, o, lf, i, p, ps, g, s, st, rs, rr, sq, l⟩).parts, .int .i64 (inM ⟨k, o, lf, i, p, ps, g, s, st, rs, rr, sq, l⟩).groups, .bool (inM ⟨k, o, lf, i, p, ps, g, s, st, rs, rr, sq, l⟩).safe, .int .i64 (inM ⟨k, o, lf, i, p, ps, g, s, st, rs, rr, sq, l⟩).st, .int .i64 (inM ⟨k, o, lf, i, p, ps, g, s, st, rs, rr, sq, l⟩).rs, .int .i64 (inM ⟨k, o, lf, i, p, ps, g, s, st, rs, rr, sq, l⟩).rr, .int .i64 (inM ⟨k, o, lf, i, p, ps, g, s, st, rs, rr, sq, l⟩).sq, .slice ao (inM ⟨k, o, lf, i, p, ps, g, s, st, rs, rr, sq, l⟩).body.length cap], .int .i64 (inE ⟨k, o, lf, i, p, ps, g, s, st, rs, rr, sq, l⟩)]) ∧ Mod (fun _ => False) w w' ∧ Own w' (.slice ao (inM ⟨k, o, lf, i, p, ps, g, s, st, rs, rr, sq, l⟩).body.length cap) (inM ⟨k, o, lf, i, p, ps, g, s, st, rs, rr, sq, l⟩).body ∧ (∀ q : Nat, (Value.slice ao (inM ⟨k, o, lf, i, p, ps, g, s, st, rs, rr, sq, l⟩).body.length cap).ownBlock = some q → w.heap.size ≤ q) := by
  obtain ⟨dq, dr, ds, dn, dt, k', o', lf', i', p', ps', g', s', st', rs', rr', sq', bv', rfl, hm, hok, hno⟩ := h
  by_cases h0 : inE ⟨k, o, lf, i, p, ps, g, s, st, rs, rr, sq, l⟩ = 0
  · obtain ⟨⟨rfl, rfl, rfl, rfl, rfl⟩, h1, h2, h3⟩ := hok h0
    obtain ⟨ao, cap, rfl⟩ := h2.shape
    refine ⟨ao, cap, ?_, hm, ?_, ?_⟩
    · rw [inM, inD, if_pos h0, if_pos h0]; dsimp only; rw [← h1]
    · rw [inM, if_pos h0]; exact h2
    · rw [inM, if_pos h0]; exact h3
  · obtain ⟨rfl, rfl, rfl, rfl, rfl, rfl, rfl, rfl, rfl, rfl, rfl, rfl, rfl, rfl, rfl, rfl, rfl, rfl⟩ := hno h0
    refine ⟨none, 0, ?_, hm, ?_, ?_⟩
    · rw [inM, inD, if_neg h0, if_neg h0]; rfl
    · rw [inM, if_neg h0]; exact Own.nil _
    · intro g hg; simp [Value.ownBlock] at hg
theorem inM_rng {m : Ms} (hr : ∀ c ∈ m.body, 0 ≤ c ∧ c ≤ 255) : ∀ c ∈ (inM m).body, 0 ≤ c ∧ c ≤ 255 := by
  unfold inM
  split
  · exact fun x hx => hr x (pr_mem m.body x hx)
  · intro c hc; simp [zMs] at hc
end Go.Proofs.Ytajhpnfpjickbaa
namespace Go.Proofs.Ytajhpnfpjickbaa
open Go.RowKit
theorem wpList_store_part {ops : Array Oper} {rest : List Oper} {op : Oper} {a : Act} {w : World} {Q : Exit → Act → World → Prop} {t : TypeId} {n : Nat} (hi : (Try.prog.info? t).map (·.size) = some n) (hgd : op.guard = none) (hdt : op.dst = none) (x y : Operand) (ho : op.op = .store t x y)
    (b o : Nat) (cells : Array Value) (hx : a.eval x = .pointer (some ⟨b, o, none⟩)) (hy : a.eval y = .agg cells) {t' : TypeId} {xs : Array Value} (hB : Bk w b t' xs) (hxs : o + n ≤ xs.size) (hcs : cells.size = n) (h1 : cells.toList.all (·.oneCell') = true)
    (ys : Array Value) (hys : sets' xs o cells.toList = ys)
    (h : ∀ w', Bk w' b t' ys → Mod (fun k => k = b) w w' → wpList Try.prog ops Q rest a w') : wpList Try.prog ops Q (op :: rest) a w :=
  wpList_store_mid (P := Try.prog) hgd t x y ho b o cells hx hy (hB.there (by omega)) (by rw [hi, hcs]) (by rw [← Array.all_toList]; exact h1) (by rw [hdt]; exact h _ (by rw [← hys]; exact hB.stores cells.toList o) (setCells_mod b cells.toList o w))
theorem wpList_load_rowg {ops : Array Oper} {rest : List Oper} {op : Oper} {a : Act} {w : World} {Q : Exit → Act → World → Prop} {t : TypeId} {n : Nat} {d : TypeDesc} (hi : (Try.prog.info? t).map (·.size) = some n) (hu : Try.prog.underlying t = some d) (hd : d.isRow = true) (hw : Region.wanted op (yielded ops a.tmps) = true) (x : Operand) (ho : op.op = .load t x)
    (b : Nat) (hx : a.eval x = .pointer (some ⟨b, 0, none⟩)) {t' : TypeId} {xs : Array Value} (hB : Bk w b t' xs) (hxs : xs.size = n)
    (h : wpList Try.prog ops Q rest (a.put op.dst (.agg xs)) w) : wpList Try.prog ops Q (op :: rest) a w := by
  refine wpList_step fun K hK => ?_
  rw [if_pos hw]
  refine wp_load_mid (P := Try.prog) t x ho b 0 hx xs.toList d hB.row hu hd (by rw [hi]; simp [hxs]) (hK _ _ ?_)
  simpa using h
theorem sets5 (x0 x1 x2 x3 x4 x5 x6 x7 x8 x9 x10 x11 x12 x13 x14 x15 x16 x17 y0 y1 y2 y3 y4 y5 y6 y7 y8 y9 y10 y11 y12 : Value) : sets' #[x0, x1, x2, x3, x4, x5, x6, x7, x8, x9, x10, x11, x12, x13, x14, x15, x16, x17] 5 (#[y0, y1, y2, y3, y4, y5, y6, y7, y8, y9, y10, y11, y12] : Array Value).toList = #[x0, x1, x2, x3, x4, y0, y1, y2, y3, y4, y5, y6, y7, y8, y9, y10, y11, y12] := by
  simp only [sets', List.setIfInBounds_toArray, List.set_cons_succ, List.set_cons_zero]
/-- A message stored into data. -/
theorem wpList_store_msg {ops : Array Oper} {rest : List Oper} {op : Oper} {a : Act} {w : World} {Q : Exit → Act → World → Prop} {t t' : TypeId} (hi : (Try.prog.info? t).map (·.size) = some 13) (hgd : op.guard = none) (hdt : op.dst = none) (x y : Operand) (ho : op.op = .store t x y)
    (b : Nat) (x0 x1 x2 x3 x4 x5 x6 x7 x8 x9 x10 x11 x12 x13 x14 x15 x16 x17 y0 y1 y2 y3 y4 y5 y6 y7 y8 y9 y10 y11 y12 : Value) (hx : a.eval x = .pointer (some ⟨b, 5, none⟩)) (hy : a.eval y = .agg #[y0, y1, y2, y3, y4, y5, y6, y7, y8, y9, y10, y11, y12]) (hB : Bk w b t' #[x0, x1, x2, x3, x4, x5, x6, x7, x8, x9, x10, x11, x12, x13, x14, x15, x16, x17]) (h1 : (#[y0, y1, y2, y3, y4, y5, y6, y7, y8, y9, y10, y11, y12] : Array Value).toList.all (·.oneCell') = true)
    (h : ∀ w', Bk w' b t' #[x0, x1, x2, x3, x4, y0, y1, y2, y3, y4, y5, y6, y7, y8, y9, y10, y11, y12] → Mod (fun k => k = b) w w' → wpList Try.prog ops Q rest a w') : wpList Try.prog ops Q (op :: rest) a w :=
  wpList_store_part hi hgd hdt x y ho b 5 #[y0, y1, y2, y3, y4, y5, y6, y7, y8, y9, y10, y11, y12] hx hy hB (Nat.le_refl 18) rfl h1 _ (sets5 x0 x1 x2 x3 x4 x5 x6 x7 x8 x9 x10 x11 x12 x13 x14 x15 x16 x17 y0 y1 y2 y3 y4 y5 y6 y7 y8 y9 y10 y11 y12) h
end Go.Proofs.Ytajhpnfpjickbaa
namespace Go.Proofs.Ytajhpnfpjickbaa
open Go.RowKit
set_option maxRecDepth 100000 in
set_option maxHeartbeats 4000000 in
theorem SameData_eq (dq dr ds dn dt : Int) (k o lf i p ps g : Int) (s : Bool) (st rs rr sq : Int) (ao ao' : Option Addr) (cap cap' : Nat) (l : List Int) (w : World) (hs : Sl w (.slice ao l.length cap) l) (hs' : Sl w (.slice ao' l.length cap') l) :
    Calls Try.prog 32 #[.agg #[.int .i64 dq, .int .i64 dr, .int .i64 ds, .int .i64 dn, .int .i64 dt, .int .i64 k, .int .i64 o, .int .i64 lf, .int .i64 i, .int .i64 p, .int .i64 ps, .int .i64 g, .bool s, .int .i64 st, .int .i64 rs, .int .i64 rr, .int .i64 sq, .slice ao l.length cap], .agg #[.int .i64 dq, .int .i64 dr, .int .i64 ds, .int .i64 dn, .int .i64 dt, .int .i64 k, .int .i64 o, .int .i64 lf, .int .i64 i, .int .i64 p, .int .i64 ps, .int .i64 g, .bool s, .int .i64 st, .int .i64 rs, .int .i64 rr, .int .i64 sq, .slice ao' l.length cap']] w fun e w' => e = .returned (.bool true) ∧ Mod (fun _ => False) w w' := by
  have hA1 := (Mod.refl (fun _ => False) w).alloc (.cells #[.int .i64 dq, .int .i64 dr, .int .i64 ds, .int .i64 dn, .int .i64 dt, .int .i64 k, .int .i64 o, .int .i64 lf, .int .i64 i, .int .i64 p, .int .i64 ps, .int .i64 g, .bool s, .int .i64 st, .int .i64 rs, .int .i64 rr, .int .i64 sq, .slice ao l.length cap] 49)
  have hA2 := (Mod.refl (fun _ => False) (w.alloc (.cells #[.int .i64 dq, .int .i64 dr, .int .i64 ds, .int .i64 dn, .int .i64 dt, .int .i64 k, .int .i64 o, .int .i64 lf, .int .i64 i, .int .i64 p, .int .i64 ps, .int .i64 g, .bool s, .int .i64 st, .int .i64 rs, .int .i64 rr, .int .i64 sq, .slice ao l.length cap] 49))).alloc (.cells #[.int .i64 dq, .int .i64 dr, .int .i64 ds, .int .i64 dn, .int .i64 dt, .int .i64 k, .int .i64 o, .int .i64 lf, .int .i64 i, .int .i64 p, .int .i64 ps, .int .i64 g, .bool s, .int .i64 st, .int .i64 rs, .int .i64 rr, .int .i64 sq, .slice ao' l.length cap'] 49)
  have hA := hA1.trans hA2 (V := fun _ => False) (fun _ _ h => h) (fun _ _ h => h)
  have hd1 := DB.mod (S := fun _ => False) (DB.new w dq dr ds dn dt k o lf i p ps g s st rs rr sq (.slice ao l.length cap)) hA2 (fun h => h)
  have hd2 := DB.new (w.alloc (.cells #[.int .i64 dq, .int .i64 dr, .int .i64 ds, .int .i64 dn, .int .i64 dt, .int .i64 k, .int .i64 o, .int .i64 lf, .int .i64 i, .int .i64 p, .int .i64 ps, .int .i64 g, .bool s, .int .i64 st, .int .i64 rs, .int .i64 rr, .int .i64 sq, .slice ao l.length cap] 49)) dq dr ds dn dt k o lf i p ps g s st rs rr sq (.slice ao' l.length cap')
  rw [show (w.alloc (.cells #[.int .i64 dq, .int .i64 dr, .int .i64 ds, .int .i64 dn, .int .i64 dt, .int .i64 k, .int .i64 o, .int .i64 lf, .int .i64 i, .int .i64 p, .int .i64 ps, .int .i64 g, .bool s, .int .i64 st, .int .i64 rs, .int .i64 rr, .int .i64 sq, .slice ao l.length cap] 49)).heap.size = w.heap.size + 1 from by simp] at hd2
  have HS := Same_eq k o lf i p ps g s st rs rr sq ao ao' cap cap' l _ (hs.mod hA (fun _ _ h => h)) (hs'.mod hA (fun _ _ h => h))
  obtain ⟨a0, a1, a2, a3, a4, a5, a6, a7, a8, a9, a10, a11, a12, a13, a14, a15, a16, a17⟩ := hd1.cells
  obtain ⟨b0, b1, b2, b3, b4, b5, b6, b7, b8, b9, b10, b11, b12, b13, b14, b15, b16, b17⟩ := hd2.cells
  have ER : ∀ W, (Op.equalIn 10000 23 (.agg #[.int .i64 dq, .int .i64 dr]) (.agg #[.int .i64 dq, .int .i64 dr])).run Try.prog W = .ok true W := fun W => by
    have := eqRing dq dr dq dr W
    simpa using this
  clear hd1 hd2 hA1 hA2
  go_enter Try.func32, Try.ntmps32
  go_wp2_with (fail)
  refine HS.mono ?_
  rintro e w1 ⟨rfl, hm⟩
  clear a0 a1 a2 a3 a4 a5 a6 a7 a8 a9 a10 a11 a12 a13 a14 a15 a16 a17 b0 b1 b2 b3 b4 b5 b6 b7 b8 b9 b10 b11 b12 b13 b14 b15 b16 b17
  go_wp2
  go_ret
  exact ⟨by simp, hA.trans hm (V := fun _ => False) (fun _ _ h => h) (fun _ _ h => h)⟩
end Go.Proofs.Ytajhpnfpjickbaa
namespace Go.Proofs.Ytajhpnfpjickbaa
open Go.ChangeShapes Go.WideShapes Go.ChangeAt Go.RowKit
variable {H : Type} {enc : TypeId × Value → H} {W : World}
theorem cellsD : Try.prog.cellsOf 49 = 18 := by kernel_rfl
set_option maxRecDepth 100000 in
theorem trod_struct5 {P : Program} {w : World} {base : Nat} {spare : Nat → Bool} {held : Bool} {t : TypeId} {f0 f1 f2 f3 f4 : Field} {fuel : Nat} {cs : List Value} {x : DataW H × List MemPlace} (ht : P.underlying t = some (.struct #[f0, f1, f2, f3, f4])) (h : DataW.trod enc P w base spare held fuel t cs = some x) :
    ∃ y0 y1 y2 y3 y4 n, x.1 = .agg [y0.1, y1.1, y2.1, y3.1, y4.1] ∧ DataW.trod enc P w base spare held n f0.type ((cs.drop f0.offset).take (P.cellsOf f0.type)) = some y0 ∧ DataW.trod enc P w base spare held n f1.type ((cs.drop f1.offset).take (P.cellsOf f1.type)) = some y1 ∧ DataW.trod enc P w base spare held n f2.type ((cs.drop f2.offset).take (P.cellsOf f2.type)) = some y2 ∧ DataW.trod enc P w base spare held n f3.type ((cs.drop f3.offset).take (P.cellsOf f3.type)) = some y3 ∧ DataW.trod enc P w base spare held n f4.type ((cs.drop f4.offset).take (P.cellsOf f4.type)) = some y4 := by
  obtain ⟨xs, n, _, rfl, hl, hlen, hf⟩ := DataW.trod_struct ht h
  match xs, hlen with
  | [y0, y1, y2, y3, y4], _ => exact ⟨y0, y1, y2, y3, y4, n, rfl, by simpa using hf 0 f0 rfl, by simpa using hf 1 f1 rfl, by simpa using hf 2 f2 rfl, by simpa using hf 3 f3 rfl, by simpa using hf 4 f4 rfl⟩

set_option maxRecDepth 100000 in
theorem array18 {α : Type} {cs : Array α} (h : cs.size = 18) : ∃ c0 c1 c2 c3 c4 c5 c6 c7 c8 c9 c10 c11 c12 c13 c14 c15 c16 c17, cs = #[c0, c1, c2, c3, c4, c5, c6, c7, c8, c9, c10, c11, c12, c13, c14, c15, c16, c17] := by
  obtain ⟨l⟩ := cs
  match l, h with
  | [c0, c1, c2, c3, c4, c5, c6, c7, c8, c9, c10, c11, c12, c13, c14, c15, c16, c17], _ => exact ⟨c0, c1, c2, c3, c4, c5, c6, c7, c8, c9, c10, c11, c12, c13, c14, c15, c16, c17, rfl⟩
theorem ring_cells {n : Nat} {c0 c1 : Value} {x : DataW H × List MemPlace} {sp : Nat → Bool} (h : DataW.trod enc Try.prog W 0 sp true n 23 [c0, c1] = some x) :
    ∃ q r : Int, c0 = .int .i64 q ∧ c1 = .int .i64 r ∧ (Lit.int .i64 q).wf = true ∧ (Lit.int .i64 r).wf = true := by
  obtain ⟨z0, z1, m', _, _, u0, u1⟩ := trod_struct2 Try.underlying23 h
  simp only [cells3, List.drop_zero, List.drop_succ_cons, List.take_succ_cons, List.take_zero] at u0 u1
  obtain ⟨k1, e1, _, w1⟩ := DataW.trod_int Try.underlying3 u0
  obtain ⟨k2, e2, _, w2⟩ := DataW.trod_int Try.underlying3 u1
  simp at e1 e2
  exact ⟨k1, k2, e1, e2, w1, w2⟩
set_option maxRecDepth 100000 in
/-- Data as an argument. -/
theorem open_data {r : Reach} {base : Nat} {v : Value} {d : DataW H} {p : List MemPlace} (hv : Value.okWide Try.prog W r base 49 v) (h : DataW.Trod enc Try.prog W 0 (fun _ => true) true 49 v d p) :
    ∃ (dq dr ds dn dt k o lf i pt ps g : Int) (s : Bool) (st rs rr sq : Int) (ao : Option Addr) (cap : Nat) (l : List Int), v = .agg #[.int .i64 dq, .int .i64 dr, .int .i64 ds, .int .i64 dn, .int .i64 dt, .int .i64 k, .int .i64 o, .int .i64 lf, .int .i64 i, .int .i64 pt, .int .i64 ps, .int .i64 g, .bool s, .int .i64 st, .int .i64 rs, .int .i64 rr, .int .i64 sq, .slice ao l.length cap] ∧ Sl W (.slice ao l.length cap) l ∧
      ((-9223372036854775808 ≤ dq ∧ dq ≤ 9223372036854775807) ∧ (-9223372036854775808 ≤ dr ∧ dr ≤ 9223372036854775807) ∧ (-9223372036854775808 ≤ ds ∧ ds ≤ 9223372036854775807) ∧ (-9223372036854775808 ≤ dn ∧ dn ≤ 9223372036854775807) ∧ (-9223372036854775808 ≤ dt ∧ dt ≤ 9223372036854775807)) := by
  obtain ⟨cs, rfl, hsz⟩ := okWide_struct Try.underlying49 hv
  obtain ⟨c0, c1, c2, c3, c4, c5, c6, c7, c8, c9, c10, c11, c12, c13, c14, c15, c16, c17, rfl⟩ := array18 (hsz.trans cellsD)
  obtain ⟨fuel, hf⟩ := h
  obtain ⟨y0, y1, y2, y3, y4, m, hx, t0, t1, t2, t3, t4⟩ := trod_struct5 Try.underlying49 (by simpa [Value.cells] using hf)
  simp only [cells3, cellsR, cellsM, List.drop_zero, List.drop_succ_cons, List.take_succ_cons, List.take_zero] at t0 t1 t2 t3 t4
  obtain ⟨q, r, rfl, rfl, wq, wr⟩ := ring_cells t0
  obtain ⟨k1, e1, _, w1⟩ := DataW.trod_int Try.underlying3 t1
  obtain ⟨k2, e2, _, w2⟩ := DataW.trod_int Try.underlying3 t2
  obtain ⟨k3, e3, _, w3⟩ := DataW.trod_int Try.underlying3 t3
  simp at e1 e2 e3
  obtain ⟨k, o, lf, i, pt, ps, g, s, st, rs, rr, sq, l, ⟨rfl, rfl, rfl, rfl, rfl, rfl, rfl, rfl, rfl, rfl, rfl, rfl⟩, hs, hr, _⟩ := msg_cells t4
  obtain ⟨ao, cap, rfl, _⟩ := hs.form
  subst e1 e2 e3
  exact ⟨q, r, k1, k2, k3, k, o, lf, i, pt, ps, g, s, st, rs, rr, sq, ao, cap, l, rfl, hs, i64_of_wf wq, i64_of_wf wr, i64_of_wf w1, i64_of_wf w2, i64_of_wf w3⟩
end Go.Proofs.Ytajhpnfpjickbaa
namespace Go.Proofs.Ytajhpnfpjickbaa
open Go.RowKit
set_option maxRecDepth 100000 in
set_option maxHeartbeats 8000000 in
theorem olds_walk (dq dr ds dn dt : Int) (k o lf i p ps g : Int) (s : Bool) (st rs rr sq : Int) (ao : Option Addr) (cap : Nat) (l : List Int) (nk no nl ni np nps ng : Int) (nS : Bool) (nst nrs nrr nsq : Int) (nao : Option Addr) (ncap : Nat) (nl2 : List Int) (w : World)
    (hs : Sl w (.slice ao l.length cap) l) (hn : Sl w (.slice nao nl2.length ncap) nl2) (hb : l.length ≤ 140737488351232) (hnb : nl2.length ≤ 140737488351232) :
    Calls Try.prog 6 #[.agg #[.int .i64 dq, .int .i64 dr, .int .i64 ds, .int .i64 dn, .int .i64 dt, .int .i64 k, .int .i64 o, .int .i64 lf, .int .i64 i, .int .i64 p, .int .i64 ps, .int .i64 g, .bool s, .int .i64 st, .int .i64 rs, .int .i64 rr, .int .i64 sq, .slice ao l.length cap], .agg #[.int .i64 nk, .int .i64 no, .int .i64 nl, .int .i64 ni, .int .i64 np, .int .i64 nps, .int .i64 ng, .bool nS, .int .i64 nst, .int .i64 nrs, .int .i64 nrr, .int .i64 nsq, .slice nao nl2.length ncap]] w fun e w' => e = .returned (.bool true) ∧ Mod (fun _ => False) w w' := by
  have hrl := hs.rng
  have hrn := hn.rng
  have hA1 := (Mod.refl (fun _ => False) w).alloc (.cells #[.int .i64 dq, .int .i64 dr, .int .i64 ds, .int .i64 dn, .int .i64 dt, .int .i64 k, .int .i64 o, .int .i64 lf, .int .i64 i, .int .i64 p, .int .i64 ps, .int .i64 g, .bool s, .int .i64 st, .int .i64 rs, .int .i64 rr, .int .i64 sq, .slice ao l.length cap] 49)
  have hA2 := (Mod.refl (fun _ => False) (w.alloc (.cells #[.int .i64 dq, .int .i64 dr, .int .i64 ds, .int .i64 dn, .int .i64 dt, .int .i64 k, .int .i64 o, .int .i64 lf, .int .i64 i, .int .i64 p, .int .i64 ps, .int .i64 g, .bool s, .int .i64 st, .int .i64 rs, .int .i64 rr, .int .i64 sq, .slice ao l.length cap] 49))).alloc (.cells #[.int .i64 nk, .int .i64 no, .int .i64 nl, .int .i64 ni, .int .i64 np, .int .i64 nps, .int .i64 ng, .bool nS, .int .i64 nst, .int .i64 nrs, .int .i64 nrr, .int .i64 nsq, .slice nao nl2.length ncap] 28)
  have hA := hA1.trans hA2 (V := fun _ => False) (fun _ _ h => h) (fun _ _ h => h)
  have e1 : (w.alloc (.cells #[.int .i64 dq, .int .i64 dr, .int .i64 ds, .int .i64 dn, .int .i64 dt, .int .i64 k, .int .i64 o, .int .i64 lf, .int .i64 i, .int .i64 p, .int .i64 ps, .int .i64 g, .bool s, .int .i64 st, .int .i64 rs, .int .i64 rr, .int .i64 sq, .slice ao l.length cap] 49)).heap.size = w.heap.size + 1 := by simp
  have e2 : ((w.alloc (.cells #[.int .i64 dq, .int .i64 dr, .int .i64 ds, .int .i64 dn, .int .i64 dt, .int .i64 k, .int .i64 o, .int .i64 lf, .int .i64 i, .int .i64 p, .int .i64 ps, .int .i64 g, .bool s, .int .i64 st, .int .i64 rs, .int .i64 rr, .int .i64 sq, .slice ao l.length cap] 49)).alloc (.cells #[.int .i64 nk, .int .i64 no, .int .i64 nl, .int .i64 ni, .int .i64 np, .int .i64 nps, .int .i64 ng, .bool nS, .int .i64 nst, .int .i64 nrs, .int .i64 nrr, .int .i64 nsq, .slice nao nl2.length ncap] 28)).heap.size = w.heap.size + 2 := by simp
  have hD0 : Bk ((w.alloc (.cells #[.int .i64 dq, .int .i64 dr, .int .i64 ds, .int .i64 dn, .int .i64 dt, .int .i64 k, .int .i64 o, .int .i64 lf, .int .i64 i, .int .i64 p, .int .i64 ps, .int .i64 g, .bool s, .int .i64 st, .int .i64 rs, .int .i64 rr, .int .i64 sq, .slice ao l.length cap] 49)).alloc (.cells #[.int .i64 nk, .int .i64 no, .int .i64 nl, .int .i64 ni, .int .i64 np, .int .i64 nps, .int .i64 ng, .bool nS, .int .i64 nst, .int .i64 nrs, .int .i64 nrr, .int .i64 nsq, .slice nao nl2.length ncap] 28)) w.heap.size 49 #[.int .i64 dq, .int .i64 dr, .int .i64 ds, .int .i64 dn, .int .i64 dt, .int .i64 k, .int .i64 o, .int .i64 lf, .int .i64 i, .int .i64 p, .int .i64 ps, .int .i64 g, .bool s, .int .i64 st, .int .i64 rs, .int .i64 rr, .int .i64 sq, .slice ao l.length cap] := (Bk.new w #[.int .i64 dq, .int .i64 dr, .int .i64 ds, .int .i64 dn, .int .i64 dt, .int .i64 k, .int .i64 o, .int .i64 lf, .int .i64 i, .int .i64 p, .int .i64 ps, .int .i64 g, .bool s, .int .i64 st, .int .i64 rs, .int .i64 rr, .int .i64 sq, .slice ao l.length cap] 49).mod hA2 (fun h => h)
  have hN0 : Bk ((w.alloc (.cells #[.int .i64 dq, .int .i64 dr, .int .i64 ds, .int .i64 dn, .int .i64 dt, .int .i64 k, .int .i64 o, .int .i64 lf, .int .i64 i, .int .i64 p, .int .i64 ps, .int .i64 g, .bool s, .int .i64 st, .int .i64 rs, .int .i64 rr, .int .i64 sq, .slice ao l.length cap] 49)).alloc (.cells #[.int .i64 nk, .int .i64 no, .int .i64 nl, .int .i64 ni, .int .i64 np, .int .i64 nps, .int .i64 ng, .bool nS, .int .i64 nst, .int .i64 nrs, .int .i64 nrr, .int .i64 nsq, .slice nao nl2.length ncap] 28)) (w.heap.size + 1) 28 #[.int .i64 nk, .int .i64 no, .int .i64 nl, .int .i64 ni, .int .i64 np, .int .i64 nps, .int .i64 ng, .bool nS, .int .i64 nst, .int .i64 nrs, .int .i64 nrr, .int .i64 nsq, .slice nao nl2.length ncap] := by have := Bk.new (w.alloc (.cells #[.int .i64 dq, .int .i64 dr, .int .i64 ds, .int .i64 dn, .int .i64 dt, .int .i64 k, .int .i64 o, .int .i64 lf, .int .i64 i, .int .i64 p, .int .i64 ps, .int .i64 g, .bool s, .int .i64 st, .int .i64 rs, .int .i64 rr, .int .i64 sq, .slice ao l.length cap] 49)) #[.int .i64 nk, .int .i64 no, .int .i64 nl, .int .i64 ni, .int .i64 np, .int .i64 nps, .int .i64 ng, .bool nS, .int .i64 nst, .int .i64 nrs, .int .i64 nrr, .int .i64 nsq, .slice nao nl2.length ncap] 28; rwa [e1] at this
  have hA3 := (Mod.refl (fun _ => False) ((w.alloc (.cells #[.int .i64 dq, .int .i64 dr, .int .i64 ds, .int .i64 dn, .int .i64 dt, .int .i64 k, .int .i64 o, .int .i64 lf, .int .i64 i, .int .i64 p, .int .i64 ps, .int .i64 g, .bool s, .int .i64 st, .int .i64 rs, .int .i64 rr, .int .i64 sq, .slice ao l.length cap] 49)).alloc (.cells #[.int .i64 nk, .int .i64 no, .int .i64 nl, .int .i64 ni, .int .i64 np, .int .i64 nps, .int .i64 ng, .bool nS, .int .i64 nst, .int .i64 nrs, .int .i64 nrr, .int .i64 nsq, .slice nao nl2.length ncap] 28))).alloc (.cells #[.int .i64 0, .int .i64 0, .int .i64 0, .int .i64 0, .int .i64 0, .int .i64 0, .int .i64 0, .int .i64 0, .int .i64 0, .int .i64 0, .int .i64 0, .int .i64 0, .bool false, .int .i64 0, .int .i64 0, .int .i64 0, .int .i64 0, .slice none 0 0] 49)
  have hI0 : Bk (((w.alloc (.cells #[.int .i64 dq, .int .i64 dr, .int .i64 ds, .int .i64 dn, .int .i64 dt, .int .i64 k, .int .i64 o, .int .i64 lf, .int .i64 i, .int .i64 p, .int .i64 ps, .int .i64 g, .bool s, .int .i64 st, .int .i64 rs, .int .i64 rr, .int .i64 sq, .slice ao l.length cap] 49)).alloc (.cells #[.int .i64 nk, .int .i64 no, .int .i64 nl, .int .i64 ni, .int .i64 np, .int .i64 nps, .int .i64 ng, .bool nS, .int .i64 nst, .int .i64 nrs, .int .i64 nrr, .int .i64 nsq, .slice nao nl2.length ncap] 28)).alloc (.cells #[.int .i64 0, .int .i64 0, .int .i64 0, .int .i64 0, .int .i64 0, .int .i64 0, .int .i64 0, .int .i64 0, .int .i64 0, .int .i64 0, .int .i64 0, .int .i64 0, .bool false, .int .i64 0, .int .i64 0, .int .i64 0, .int .i64 0, .slice none 0 0] 49)) (w.heap.size + 2) 49 #[.int .i64 0, .int .i64 0, .int .i64 0, .int .i64 0, .int .i64 0, .int .i64 0, .int .i64 0, .int .i64 0, .int .i64 0, .int .i64 0, .int .i64 0, .int .i64 0, .bool false, .int .i64 0, .int .i64 0, .int .i64 0, .int .i64 0, .slice none 0 0] := by have := Bk.new ((w.alloc (.cells #[.int .i64 dq, .int .i64 dr, .int .i64 ds, .int .i64 dn, .int .i64 dt, .int .i64 k, .int .i64 o, .int .i64 lf, .int .i64 i, .int .i64 p, .int .i64 ps, .int .i64 g, .bool s, .int .i64 st, .int .i64 rs, .int .i64 rr, .int .i64 sq, .slice ao l.length cap] 49)).alloc (.cells #[.int .i64 nk, .int .i64 no, .int .i64 nl, .int .i64 ni, .int .i64 np, .int .i64 nps, .int .i64 ng, .bool nS, .int .i64 nst, .int .i64 nrs, .int .i64 nrr, .int .i64 nsq, .slice nao nl2.length ncap] 28)) #[.int .i64 0, .int .i64 0, .int .i64 0, .int .i64 0, .int .i64 0, .int .i64 0, .int .i64 0, .int .i64 0, .int .i64 0, .int .i64 0, .int .i64 0, .int .i64 0, .bool false, .int .i64 0, .int .i64 0, .int .i64 0, .int .i64 0, .slice none 0 0] 49; rwa [e2] at this
  have HCd := fun W h => dCopy k o lf i p ps g s st rs rr sq ao cap l W h (by omega)
  have HOl := fun ao cap W h => (Old_any dq dr ds dn dt k o lf i p ps g s st rs rr sq ao cap l W h).mono fun _ _ h => old_m h
  have HDo := fun ao cap W h => (dOld dq dr ds dn dt k o lf i p ps g s st rs rr sq ao cap l W h).mono fun _ _ h => old_m h
  have HCn := fun W h => dCopy nk no nl ni np nps ng nS nst nrs nrr nsq nao ncap nl2 W h (by omega)
  have HIn := fun ao cap W h => (Inner_any nk no nl ni np nps ng nS nst nrs nrr nsq ao cap nl2 W h).mono fun _ _ h => inner_m h
  have HDi := fun ao cap W h => (dInner nk no nl ni np nps ng nS nst nrs nrr nsq ao cap nl2 W h).mono fun _ _ h => inner_m h
  have hro : ∀ c ∈ (olM dt dq dr ds dn ⟨k, o, lf, i, p, ps, g, s, st, rs, rr, sq, l⟩).body, 0 ≤ c ∧ c ≤ 255 := olM_rng hrl
  have hri : ∀ c ∈ (inM ⟨nk, no, nl, ni, np, nps, ng, nS, nst, nrs, nrr, nsq, nl2⟩).body, 0 ≤ c ∧ c ≤ 255 := inM_rng hrn
  generalize olE dt dq dr ds dn ⟨k, o, lf, i, p, ps, g, s, st, rs, rr, sq, l⟩ = OE at HOl HDo
  generalize olM dt dq dr ds dn ⟨k, o, lf, i, p, ps, g, s, st, rs, rr, sq, l⟩ = om at HOl HDo hro
  generalize inE ⟨nk, no, nl, ni, np, nps, ng, nS, nst, nrs, nrr, nsq, nl2⟩ = IE at HIn HDi
  generalize inM ⟨nk, no, nl, ni, np, nps, ng, nS, nst, nrs, nrr, nsq, nl2⟩ = im at HIn HDi hri
  generalize inD ⟨nk, no, nl, ni, np, nps, ng, nS, nst, nrs, nrr, nsq, nl2⟩ = id5 at HIn HDi
  obtain ⟨ok, oo, olf, oi, op, ops, og, os, ost, ors, orr, osq, ol⟩ := om
  obtain ⟨ik, io, ilf, ii, ip, ips, ig, is, ist, irs, irr, isq, il⟩ := im
  obtain ⟨i1, i2, i3, i4, i5⟩ := id5
  dsimp only at HOl HDo HIn HDi hro hri
  have HD0 : Hid (Bk _ _ _ _) := hD0
  have HN0 : Hid (Bk _ _ _ _) := hN0
  have HI0 : Hid (Bk _ _ _ _) := hI0
  have HA3 : Hid (Mod _ _ _) := hA3
  have HA : Hid (Mod _ _ _) := hA
  clear hD0 hN0 hI0 hA3 hA1 hA2 hA e1 e2
  go_enter Try.func6, Try.ntmps6
  go_upto_region 2 with (first | (refine wpList_load_row info18 Try.underlying49 rfl rfl _ rfl (w.heap.size) rfl HD0.out rfl ?_; simp only [Act.put, List.setIfInBounds_toArray, List.set_cons_succ, List.set_cons_zero]) | (refine wpList_store_row info18 rfl rfl _ _ rfl (w.heap.size + 2) #[.int .i64 dq, .int .i64 dr, .int .i64 ds, .int .i64 dn, .int .i64 dt, .int .i64 k, .int .i64 o, .int .i64 lf, .int .i64 i, .int .i64 p, .int .i64 ps, .int .i64 g, .bool s, .int .i64 st, .int .i64 rs, .int .i64 rr, .int .i64 sq, .slice ao l.length cap] rfl rfl HI0.out rfl rfl rfl ?_; intro w1 hB1 hM1))
  have hM := (HA.out.trans HA3.out (V := fun _ => False) (fun _ _ h => h) (fun _ _ h => h)).trans hM1 (V := fun _ => False) (fun _ _ h => h) (fun q hq h => by omega)
  have hD := (HD0.out.mod HA3.out (fun h => h)).mod hM1 (by omega)
  have hN := (HN0.out.mod HA3.out (fun h => h)).mod hM1 (by omega)
  have hs1 := hs.mod hM (fun _ _ h => h)
  have a5 := hD.cellv (j := 5) rfl
  have a6 := hD.cellv (j := 6) rfl
  have a7 := hD.cellv (j := 7) rfl
  have a8 := hD.cellv (j := 8) rfl
  have a9 := hD.cellv (j := 9) rfl
  have a10 := hD.cellv (j := 10) rfl
  have a11 := hD.cellv (j := 11) rfl
  have a12 := hD.cellv (j := 12) rfl
  have a13 := hD.cellv (j := 13) rfl
  have a14 := hD.cellv (j := 14) rfl
  have a15 := hD.cellv (j := 15) rfl
  have a16 := hD.cellv (j := 16) rfl
  have a17 := hD.cellv (j := 17) rfl
  clear HD0 HN0 HI0 HA3 HA hM1
  go_wp2_with (fail)
  clear a5 a6 a7 a8 a9 a10 a11 a12 a13 a14 a15 a16 a17
  refine (HCd _ hs1).mono ?_
  rintro e w2 ⟨ao', cap', rfl, ho2, hm2, hf2⟩
  replace hM := hM.trans hm2 (V := fun _ => False) (fun _ _ h => h) (fun _ _ h => h)
  replace hD := hD.mod hm2 (fun h => h)
  replace hN := hN.mod hm2 (fun h => h)
  have HB2 : Hid (Bk _ _ _ _) := hB1.mod hm2 (fun h => h)
  have hszb := hB1.lt
  have hsz2 := hm2.size
  have hil := ho2.lt
  have hfi : ∀ q, (.slice ao' l.length cap' : Value).ownBlock = some q → w.heap.size + 2 < q := fun q hq => by have := hf2 q hq; omega
  clear hs1 hB1 hm2 hf2
  go_upto_region 3 with (refine wpList_store_msg info13 rfl rfl _ _ rfl (w.heap.size + 2) _ _ _ _ _ _ _ _ _ _ _ _ _ _ _ _ _ _ _ _ _ _ _ _ _ _ _ _ _ _ _ rfl rfl HB2.out rfl ?_; intro w3 hB3 hM3)
  replace hM := hM.trans hM3 (V := fun _ => False) (fun _ _ h => h) (fun q hq h => by omega)
  replace hD := hD.mod hM3 (by omega)
  replace hN := hN.mod hM3 (by omega)
  have hI := ho2.mod hM3 (fun q hq e => by have := hfi q hq; omega)
  have hsz3 := hM3.size
  have HB3 : Hid (Bk _ _ _ _) := hB3
  clear HB2 hM3 ho2 hB3 hil
  go_wp2_with (refine wpList_load_row info18 Try.underlying49 rfl rfl _ rfl (w.heap.size + 2) rfl HB3.out rfl ?_; simp only [Act.put, List.setIfInBounds_toArray, List.set_cons_succ, List.set_cons_zero])
  refine (HOl _ _ _ (hI.sl hrl)).mono ?_
  rintro e w4 ⟨xo, xc, rfl, hm4, hx, hfx⟩
  have hA4 := hm4.trans ((Mod.refl (fun _ => False) w4).alloc (.cells #[.int .i64 ok, .int .i64 oo, .int .i64 olf, .int .i64 oi, .int .i64 op, .int .i64 ops, .int .i64 og, .bool os, .int .i64 ost, .int .i64 ors, .int .i64 orr, .int .i64 osq, .slice xo ol.length xc] 28)) (V := fun _ => False) (fun _ _ h => h) (fun _ _ h => h)
  have hX := Bk.new w4 #[.int .i64 ok, .int .i64 oo, .int .i64 olf, .int .i64 oi, .int .i64 op, .int .i64 ops, .int .i64 og, .bool os, .int .i64 ost, .int .i64 ors, .int .i64 orr, .int .i64 osq, .slice xo ol.length xc] 28
  replace hM := hM.trans hA4 (V := fun _ => False) (fun _ _ h => h) (fun _ _ h => h)
  have HD4 : Hid (Bk _ _ _ _) := hD.mod hA4 (fun h => h)
  replace hN := hN.mod hA4 (fun h => h)
  replace hI := hI.mod hA4 (fun _ _ h => h)
  replace HB3 : Hid (Bk _ _ _ _) := HB3.out.mod hA4 (fun h => h)
  replace hx := hx.mod ((Mod.refl (fun _ => False) w4).alloc (.cells #[.int .i64 ok, .int .i64 oo, .int .i64 olf, .int .i64 oi, .int .i64 op, .int .i64 ops, .int .i64 og, .bool os, .int .i64 ost, .int .i64 ors, .int .i64 orr, .int .i64 osq, .slice xo ol.length xc] 28)) (fun _ _ h => h)
  have hsz4 := hm4.size
  clear hA4 hm4 hD
  go_wp2_with (refine wpList_load_row info18 Try.underlying49 rfl rfl _ rfl (w.heap.size) rfl HD4.out rfl ?_; simp only [Act.put, List.setIfInBounds_toArray, List.set_cons_succ, List.set_cons_zero])
  generalize hbx : w4.heap.size = bx at *
  generalize w4.alloc (.cells #[.int .i64 ok, .int .i64 oo, .int .i64 olf, .int .i64 oi, .int .i64 op, .int .i64 ops, .int .i64 og, .bool os, .int .i64 ost, .int .i64 ors, .int .i64 orr, .int .i64 osq, .slice xo ol.length xc] 28) = w5 at *
  refine (HDo _ _ _ (hs.mod hM (fun _ _ h => h))).mono ?_
  rintro e w6 ⟨yo, yc, rfl, hm6, hy, hfy⟩
  have hA6 := hm6.trans ((Mod.refl (fun _ => False) w6).alloc (.cells #[.int .i64 ok, .int .i64 oo, .int .i64 olf, .int .i64 oi, .int .i64 op, .int .i64 ops, .int .i64 og, .bool os, .int .i64 ost, .int .i64 ors, .int .i64 orr, .int .i64 osq, .slice yo ol.length yc] 28)) (V := fun _ => False) (fun _ _ h => h) (fun _ _ h => h)
  have hY := Bk.new w6 #[.int .i64 ok, .int .i64 oo, .int .i64 olf, .int .i64 oi, .int .i64 op, .int .i64 ops, .int .i64 og, .bool os, .int .i64 ost, .int .i64 ors, .int .i64 orr, .int .i64 osq, .slice yo ol.length yc] 28
  replace hM := hM.trans hA6 (V := fun _ => False) (fun _ _ h => h) (fun _ _ h => h)
  replace HD4 : Hid (Bk _ _ _ _) := HD4.out.mod hA6 (fun h => h)
  replace hN := hN.mod hA6 (fun h => h)
  replace hX := hX.mod hA6 (fun h => h)
  replace hI := hI.mod hA6 (fun _ _ h => h)
  replace hx := hx.mod hA6 (fun _ _ h => h)
  replace HB3 : Hid (Bk _ _ _ _) := HB3.out.mod hA6 (fun h => h)
  replace hy := hy.mod ((Mod.refl (fun _ => False) w6).alloc (.cells #[.int .i64 ok, .int .i64 oo, .int .i64 olf, .int .i64 oi, .int .i64 op, .int .i64 ops, .int .i64 og, .bool os, .int .i64 ost, .int .i64 ors, .int .i64 orr, .int .i64 osq, .slice yo ol.length yc] 28)) (fun _ _ h => h)
  clear hA6 hm6
  have a0 := hN.cellv (j := 0) rfl
  have a1 := hN.cellv (j := 1) rfl
  have a2 := hN.cellv (j := 2) rfl
  have a3 := hN.cellv (j := 3) rfl
  have a4 := hN.cellv (j := 4) rfl
  have a5 := hN.cellv (j := 5) rfl
  have a6 := hN.cellv (j := 6) rfl
  have a7 := hN.cellv (j := 7) rfl
  have a8 := hN.cellv (j := 8) rfl
  have a9 := hN.cellv (j := 9) rfl
  have a10 := hN.cellv (j := 10) rfl
  have a11 := hN.cellv (j := 11) rfl
  have a12 := hN.cellv (j := 12) rfl
  go_wp2_with (fail)
  clear a0 a1 a2 a3 a4 a5 a6 a7 a8 a9 a10 a11 a12
  generalize hby : w6.heap.size = by_ at *
  generalize w6.alloc (.cells #[.int .i64 ok, .int .i64 oo, .int .i64 olf, .int .i64 oi, .int .i64 op, .int .i64 ops, .int .i64 og, .bool os, .int .i64 ost, .int .i64 ors, .int .i64 orr, .int .i64 osq, .slice yo ol.length yc] 28) = w7 at *
  refine (HCn _ (hn.mod hM (fun _ _ h => h))).mono ?_
  rintro e w8 ⟨no', nc', rfl, ho8, hm8, hf8⟩
  go_wp2_with (fail)
  refine (HIn _ _ _ (ho8.sl hrn)).mono ?_
  rintro e w9 ⟨co, cc, rfl, hm9, hc, hfc⟩
  have hm89 := hm8.trans hm9 (V := fun _ => False) (fun _ _ h => h) (fun _ _ h => h)
  have hlx := (hX.mod hm89 (fun h => h)).lt
  have hly := (hY.mod hm89 (fun h => h)).lt
  have hln := (hN.mod hm89 (fun h => h)).lt
  have hld := (HD4.out.mod hm89 (fun h => h)).lt
  have hlb := (HB3.out.mod hm89 (fun h => h)).lt
  have hlM := (hM.trans hm89 (V := fun _ => False) (fun _ _ h => h) (fun _ _ h => h)).size
  have hlc := hc.lt
  have hlI := (hI.mod hm89 (fun _ _ h => h)).lt
  have hlxx := (hx.mod hm89 (fun _ _ h => h)).lt
  have hlyy := (hy.mod hm89 (fun _ _ h => h)).lt
  have hA9 := hm89.trans ((Mod.refl (fun _ => False) w9).alloc (.cells #[.int .i64 0, .int .i64 0, .int .i64 0, .int .i64 0, .int .i64 0, .int .i64 0, .int .i64 0, .int .i64 0, .int .i64 0, .int .i64 0, .int .i64 0, .int .i64 0, .bool false, .int .i64 0, .int .i64 0, .int .i64 0, .int .i64 0, .slice none 0 0] 49)) (V := fun _ => False) (fun _ _ h => h) (fun _ _ h => h)
  replace hM := hM.trans hA9 (V := fun _ => False) (fun _ _ h => h) (fun _ _ h => h)
  replace HD4 : Hid (Bk _ _ _ _) := HD4.out.mod hA9 (fun h => h)
  replace hN := hN.mod hA9 (fun h => h)
  replace hX := hX.mod hA9 (fun h => h)
  replace hY := hY.mod hA9 (fun h => h)
  replace hI := hI.mod hA9 (fun _ _ h => h)
  replace hx := hx.mod hA9 (fun _ _ h => h)
  replace hy := hy.mod hA9 (fun _ _ h => h)
  replace HB3 : Hid (Bk _ _ _ _) := HB3.out.mod hA9 (fun h => h)
  replace hc := hc.mod ((Mod.refl (fun _ => False) w9).alloc (.cells #[.int .i64 0, .int .i64 0, .int .i64 0, .int .i64 0, .int .i64 0, .int .i64 0, .int .i64 0, .int .i64 0, .int .i64 0, .int .i64 0, .int .i64 0, .int .i64 0, .bool false, .int .i64 0, .int .i64 0, .int .i64 0, .int .i64 0, .slice none 0 0] 49)) (fun _ _ h => h)
  have HC9 : Hid (Bk _ _ _ _) := Bk.new w9 #[.int .i64 0, .int .i64 0, .int .i64 0, .int .i64 0, .int .i64 0, .int .i64 0, .int .i64 0, .int .i64 0, .int .i64 0, .int .i64 0, .int .i64 0, .int .i64 0, .bool false, .int .i64 0, .int .i64 0, .int .i64 0, .int .i64 0, .slice none 0 0] 49
  have hs9 := hA9.size
  clear hA9 hm9 hm8 ho8 hf8 hm89
  go_upto_region 6 with (refine wpList_store_row info18 rfl rfl _ _ rfl (w9.heap.size) #[.int .i64 i1, .int .i64 i2, .int .i64 i3, .int .i64 i4, .int .i64 i5, .int .i64 ik, .int .i64 io, .int .i64 ilf, .int .i64 ii, .int .i64 ip, .int .i64 ips, .int .i64 ig, .bool is, .int .i64 ist, .int .i64 irs, .int .i64 irr, .int .i64 isq, .slice co il.length cc] rfl rfl HC9.out rfl rfl rfl ?_; intro w10 hC10 hM10)
  generalize hbc : w9.heap.size = bc at *
  replace hM := hM.trans hM10 (V := fun _ => False) (fun _ _ h => h) (fun q hq h => by omega)
  replace HD4 : Hid (Bk _ _ _ _) := HD4.out.mod hM10 (by omega)
  replace hN := hN.mod hM10 (by omega)
  replace hX := hX.mod hM10 (by omega)
  replace hY := hY.mod hM10 (by omega)
  replace HB3 : Hid (Bk _ _ _ _) := HB3.out.mod hM10 (by omega)
  replace hI := hI.mod hM10 (fun q hq e => by have := hlI q hq; omega)
  replace hx := hx.mod hM10 (fun q hq e => by have := hlxx q hq; omega)
  replace hy := hy.mod hM10 (fun q hq e => by have := hlyy q hq; omega)
  replace hc := hc.mod hM10 (fun q hq e => by have := hlc q hq; omega)
  have hlc10 := hC10.lt
  clear hM10 HC9 hlI hlxx hlyy hlc
  have a0 := hN.cellv (j := 0) rfl
  have a1 := hN.cellv (j := 1) rfl
  have a2 := hN.cellv (j := 2) rfl
  have a3 := hN.cellv (j := 3) rfl
  have a4 := hN.cellv (j := 4) rfl
  have a5 := hN.cellv (j := 5) rfl
  have a6 := hN.cellv (j := 6) rfl
  have a7 := hN.cellv (j := 7) rfl
  have a8 := hN.cellv (j := 8) rfl
  have a9 := hN.cellv (j := 9) rfl
  have a10 := hN.cellv (j := 10) rfl
  have a11 := hN.cellv (j := 11) rfl
  have a12 := hN.cellv (j := 12) rfl
  go_wp2_with (fail)
  clear a0 a1 a2 a3 a4 a5 a6 a7 a8 a9 a10 a11 a12
  refine (HDi _ _ _ (hn.mod hM (fun _ _ h => h))).mono ?_
  rintro e w11 ⟨dO, dc, rfl, hm11, hd, hfd⟩
  have hl11 := hm11.size
  have hld2 := hd.lt
  have hA11 := hm11.trans ((Mod.refl (fun _ => False) w11).alloc (.cells #[.int .i64 0, .int .i64 0, .int .i64 0, .int .i64 0, .int .i64 0, .int .i64 0, .int .i64 0, .int .i64 0, .int .i64 0, .int .i64 0, .int .i64 0, .int .i64 0, .bool false, .int .i64 0, .int .i64 0, .int .i64 0, .int .i64 0, .slice none 0 0] 49)) (V := fun _ => False) (fun _ _ h => h) (fun _ _ h => h)
  replace hM := hM.trans hA11 (V := fun _ => False) (fun _ _ h => h) (fun _ _ h => h)
  replace HD4 : Hid (Bk _ _ _ _) := HD4.out.mod hA11 (fun h => h)
  replace hX := hX.mod hA11 (fun h => h)
  replace hY := hY.mod hA11 (fun h => h)
  replace hC10 := hC10.mod hA11 (fun h => h)
  replace HB3 : Hid (Bk _ _ _ _) := HB3.out.mod hA11 (fun h => h)
  have hlI := (hI.mod hm11 (fun _ _ h => h)).lt
  have hlxx := (hx.mod hm11 (fun _ _ h => h)).lt
  have hlyy := (hy.mod hm11 (fun _ _ h => h)).lt
  have hlc := (hc.mod hm11 (fun _ _ h => h)).lt
  replace hI := hI.mod hA11 (fun _ _ h => h)
  replace hx := hx.mod hA11 (fun _ _ h => h)
  replace hy := hy.mod hA11 (fun _ _ h => h)
  replace hc := hc.mod hA11 (fun _ _ h => h)
  replace hd := hd.mod ((Mod.refl (fun _ => False) w11).alloc (.cells #[.int .i64 0, .int .i64 0, .int .i64 0, .int .i64 0, .int .i64 0, .int .i64 0, .int .i64 0, .int .i64 0, .int .i64 0, .int .i64 0, .int .i64 0, .int .i64 0, .bool false, .int .i64 0, .int .i64 0, .int .i64 0, .int .i64 0, .slice none 0 0] 49)) (fun _ _ h => h)
  have HC9 : Hid (Bk _ _ _ _) := Bk.new w11 #[.int .i64 0, .int .i64 0, .int .i64 0, .int .i64 0, .int .i64 0, .int .i64 0, .int .i64 0, .int .i64 0, .int .i64 0, .int .i64 0, .int .i64 0, .int .i64 0, .bool false, .int .i64 0, .int .i64 0, .int .i64 0, .int .i64 0, .slice none 0 0] 49
  have hlM11 : w.heap.size ≤ w11.heap.size := by omega
  clear hA11 hm11 hN
  go_upto_region 7 with (refine wpList_store_row info18 rfl rfl _ _ rfl (w11.heap.size) #[.int .i64 i1, .int .i64 i2, .int .i64 i3, .int .i64 i4, .int .i64 i5, .int .i64 ik, .int .i64 io, .int .i64 ilf, .int .i64 ii, .int .i64 ip, .int .i64 ips, .int .i64 ig, .bool is, .int .i64 ist, .int .i64 irs, .int .i64 irr, .int .i64 isq, .slice dO il.length dc] rfl rfl HC9.out rfl rfl rfl ?_; intro w12 hE12 hM12)
  generalize hbd : w11.heap.size = bd at *
  replace hM := hM.trans hM12 (V := fun _ => False) (fun _ _ h => h) (fun q hq h => by omega)
  replace HD4 : Hid (Bk _ _ _ _) := HD4.out.mod hM12 (by omega)
  replace hX := hX.mod hM12 (by omega)
  replace hY := hY.mod hM12 (by omega)
  have HC12 : Hid (Bk _ _ _ _) := hC10.mod hM12 (by omega)
  have HE12 : Hid (Bk _ _ _ _) := hE12
  replace HB3 : Hid (Bk _ _ _ _) := HB3.out.mod hM12 (by omega)
  replace hI := hI.mod hM12 (fun q hq e => by have := hlI q hq; omega)
  replace hx := hx.mod hM12 (fun q hq e => by have := hlxx q hq; omega)
  replace hy := hy.mod hM12 (fun q hq e => by have := hlyy q hq; omega)
  replace hc := hc.mod hM12 (fun q hq e => by have := hlc q hq; omega)
  replace hd := hd.mod hM12 (fun q hq e => by have := hld2 q hq; omega)
  have a0 := hX.cellv (j := 0) rfl
  have a1 := hX.cellv (j := 1) rfl
  have a2 := hX.cellv (j := 2) rfl
  have a3 := hX.cellv (j := 3) rfl
  have a4 := hX.cellv (j := 4) rfl
  have a5 := hX.cellv (j := 5) rfl
  have a6 := hX.cellv (j := 6) rfl
  have a7 := hX.cellv (j := 7) rfl
  have a8 := hX.cellv (j := 8) rfl
  have a9 := hX.cellv (j := 9) rfl
  have a10 := hX.cellv (j := 10) rfl
  have a11 := hX.cellv (j := 11) rfl
  have a12 := hX.cellv (j := 12) rfl
  have b0 := hY.cellv (j := 0) rfl
  have b1 := hY.cellv (j := 1) rfl
  have b2 := hY.cellv (j := 2) rfl
  have b3 := hY.cellv (j := 3) rfl
  have b4 := hY.cellv (j := 4) rfl
  have b5 := hY.cellv (j := 5) rfl
  have b6 := hY.cellv (j := 6) rfl
  have b7 := hY.cellv (j := 7) rfl
  have b8 := hY.cellv (j := 8) rfl
  have b9 := hY.cellv (j := 9) rfl
  have b10 := hY.cellv (j := 10) rfl
  have b11 := hY.cellv (j := 11) rfl
  have b12 := hY.cellv (j := 12) rfl
  have HSm := Same_eq ok oo olf oi op ops og os ost ors orr osq _ _ _ _ ol w12 (hx.sl hro) (hy.sl hro)
  clear hC10 hE12 HC9 hM12 hX hY hx hy hlI hlxx hlyy hlc hld2
  go_wp2_with (fail)
  refine HSm.mono ?_
  rintro e w13 ⟨rfl, hm13⟩
  clear a0 a1 a2 a3 a4 a5 a6 a7 a8 a9 a10 a11 a12
  clear b0 b1 b2 b3 b4 b5 b6 b7 b8 b9 b10 b11 b12
  replace hM := hM.trans hm13 (V := fun _ => False) (fun _ _ h => h) (fun _ _ h => h)
  replace HD4 : Hid (Bk _ _ _ _) := HD4.out.mod hm13 (fun h => h)
  replace HC12 : Hid (Bk _ _ _ _) := HC12.out.mod hm13 (fun h => h)
  replace HE12 : Hid (Bk _ _ _ _) := HE12.out.mod hm13 (fun h => h)
  replace HB3 : Hid (Bk _ _ _ _) := HB3.out.mod hm13 (fun h => h)
  replace hI := hI.mod hm13 (fun _ _ h => h)
  have HSD := SameData_eq i1 i2 i3 i4 i5 ik io ilf ii ip ips ig is ist irs irr isq _ _ _ _ il w13 ((hc.mod hm13 (fun _ _ h => h)).sl hri) ((hd.mod hm13 (fun _ _ h => h)).sl hri)
  clear hm13 hc hd HSm
  go_wp2_with (first | (refine wpList_load_rowg info18 Try.underlying49 rfl rfl _ rfl (bc) rfl HC12.out rfl ?_; simp only [Act.put, List.setIfInBounds_toArray, List.set_cons_succ, List.set_cons_zero]) | (refine wpList_load_rowg info18 Try.underlying49 rfl rfl _ rfl (bd) rfl HE12.out rfl ?_; simp only [Act.put, List.setIfInBounds_toArray, List.set_cons_succ, List.set_cons_zero]))
  refine HSD.mono ?_
  rintro e w14 ⟨rfl, hm14⟩
  replace hM := hM.trans hm14 (V := fun _ => False) (fun _ _ h => h) (fun _ _ h => h)
  replace HD4 : Hid (Bk _ _ _ _) := HD4.out.mod hm14 (fun h => h)
  replace HB3 : Hid (Bk _ _ _ _) := HB3.out.mod hm14 (fun h => h)
  replace hI := hI.mod hm14 (fun _ _ h => h)
  have HSE := SameData_eq dq dr ds dn dt k o lf i p ps g s st rs rr sq _ _ _ _ l w14 (hI.sl hrl) (hs.mod hM (fun _ _ h => h))
  clear hm14 HSD HC12 HE12
  go_wp2_with (first | (refine wpList_load_rowg info18 Try.underlying49 rfl rfl _ rfl (w.heap.size + 2) rfl HB3.out rfl ?_; simp only [Act.put, List.setIfInBounds_toArray, List.set_cons_succ, List.set_cons_zero]) | (refine wpList_load_rowg info18 Try.underlying49 rfl rfl _ rfl (w.heap.size) rfl HD4.out rfl ?_; simp only [Act.put, List.setIfInBounds_toArray, List.set_cons_succ, List.set_cons_zero]))
  refine HSE.mono ?_
  rintro e w15 ⟨rfl, hm15⟩
  replace hM := hM.trans hm15 (V := fun _ => False) (fun _ _ h => h) (fun _ _ h => h)
  clear hm15 HSE HD4 HB3 hI
  go_wp2_with (fail)
  refine (awake _).mono ?_
  rintro e w16 ⟨rfl, hm16⟩
  go_wp2
  go_ret
  exact ⟨by simp, hM.trans hm16 (V := fun _ => False) (fun _ _ h => h) (fun _ _ h => h)⟩
end Go.Proofs.Ytajhpnfpjickbaa
