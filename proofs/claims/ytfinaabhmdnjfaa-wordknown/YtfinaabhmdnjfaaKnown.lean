/- WordKnown holds: the closed law answers true and turns nothing that was there. No conditions. -/
import Derived.Test.YtfinaabhmdnjfaaKb
namespace Go.Proofs.Ytfinaabhmdnjfaa
open Go.RowKit
set_option maxRecDepth 100000 in
set_option maxHeartbeats 8000000 in
theorem known_walk (w : World) : Calls Try.prog 8 #[] w fun e w' => e = .returned (.bool true) ∧ Mod (fun _ => False) w w' := by
  obtain ⟨i0, hi, hz0, hz1, hz2⟩ := info_parts info3
  have hm : Mod (fun _ => False) w w := Mod.refl _ w
  go_enter Try.func8, Try.ntmps8
  go_wp2_with fail
  refine (lput_at 127 [127] _ (by omega) (by omega) (by decide)).mono ?_
  rintro e wa ⟨va, rfl, hoa, hma⟩
  replace hm : Mod (fun _ => False) w wa := hm.trans hma (fun _ _ h => h) (fun _ _ h => h)
  go_wp2_with fail
  have ha := (Mod.refl (fun _ => False) wa).alloc (.cells (U [127]).toArray 5)
  refine (EqBytes_at (a := [127]) (b := [127]) true ((hoa.sl (by decide)).mod ha (fun _ _ h => h)) (Sl.lit wa [127] (by simp [maxLen]) (by decide)) (by decide)).mono ?_
  rintro e wb ⟨rfl, hmb⟩
  replace hm : Mod (fun _ => False) w wb := (hm.trans ha (V := fun _ => False) (fun _ _ h => h) (fun _ _ h => h)).trans hmb (fun _ _ h => h) (fun _ _ h => h)
  clear ha hmb hoa hma
  go_wp2_with fail
  refine (lput_at 128 [128, 1] _ (by omega) (by omega) (by decide)).mono ?_
  rintro e wa ⟨va, rfl, hoa, hma⟩
  replace hm : Mod (fun _ => False) w wa := hm.trans hma (fun _ _ h => h) (fun _ _ h => h)
  go_wp2_with fail
  have ha := (Mod.refl (fun _ => False) wa).alloc (.cells (U [128, 1]).toArray 5)
  refine (EqBytes_at (a := [128, 1]) (b := [128, 1]) true ((hoa.sl (by decide)).mod ha (fun _ _ h => h)) (Sl.lit wa [128, 1] (by simp [maxLen]) (by decide)) (by decide)).mono ?_
  rintro e wb ⟨rfl, hmb⟩
  replace hm : Mod (fun _ => False) w wb := (hm.trans ha (V := fun _ => False) (fun _ _ h => h) (fun _ _ h => h)).trans hmb (fun _ _ h => h) (fun _ _ h => h)
  clear ha hmb hoa hma
  go_wp2_with fail
  refine (lput_at 9007199254740991 [255, 255, 255, 255, 255, 255, 255, 15] _ (by omega) (by omega) (by decide)).mono ?_
  rintro e wa ⟨va, rfl, hoa, hma⟩
  replace hm : Mod (fun _ => False) w wa := hm.trans hma (fun _ _ h => h) (fun _ _ h => h)
  go_wp2_with fail
  have ha := (Mod.refl (fun _ => False) wa).alloc (.cells (U [255, 255, 255, 255, 255, 255, 255, 15]).toArray 5)
  refine (EqBytes_at (a := [255, 255, 255, 255, 255, 255, 255, 15]) (b := [255, 255, 255, 255, 255, 255, 255, 15]) true ((hoa.sl (by decide)).mod ha (fun _ _ h => h)) (Sl.lit wa [255, 255, 255, 255, 255, 255, 255, 15] (by simp [maxLen]) (by decide)) (by decide)).mono ?_
  rintro e wb ⟨rfl, hmb⟩
  replace hm : Mod (fun _ => False) w wb := (hm.trans ha (V := fun _ => False) (fun _ _ h => h) (fun _ _ h => h)).trans hmb (fun _ _ h => h) (fun _ _ h => h)
  clear ha hmb hoa hma
  go_wp2_with fail
  refine (lput_at 562949953421312 [128, 128, 128, 128, 128, 128, 128, 1] _ (by omega) (by omega) (by decide)).mono ?_
  rintro e wa ⟨va, rfl, hoa, hma⟩
  replace hm : Mod (fun _ => False) w wa := hm.trans hma (fun _ _ h => h) (fun _ _ h => h)
  go_wp2_with fail
  have ha := (Mod.refl (fun _ => False) wa).alloc (.cells (U [128, 128, 128, 128, 128, 128, 128, 1]).toArray 5)
  refine (EqBytes_at (a := [128, 128, 128, 128, 128, 128, 128, 1]) (b := [128, 128, 128, 128, 128, 128, 128, 1]) true ((hoa.sl (by decide)).mod ha (fun _ _ h => h)) (Sl.lit wa [128, 128, 128, 128, 128, 128, 128, 1] (by simp [maxLen]) (by decide)) (by decide)).mono ?_
  rintro e wb ⟨rfl, hmb⟩
  replace hm : Mod (fun _ => False) w wb := (hm.trans ha (V := fun _ => False) (fun _ _ h => h) (fun _ _ h => h)).trans hmb (fun _ _ h => h) (fun _ _ h => h)
  clear ha hmb hoa hma
  go_wp2_with fail
  refine (write_any _).mono ?_
  rintro e w1 ⟨rfl, hw, hm1⟩
  have hpw : w.heap.size ≤ wb.heap.size := hm.size
  generalize wb.heap.size = pw at hw hpw
  replace hm : Mod (fun _ => False) w w1 := hm.trans hm1 (fun _ _ h => h) (fun _ _ h => h)
  clear hm1
  go_wp2_with fail
  refine (Put_bad _ _ _ (-1) _ hw (by omega)).mono ?_
  rintro e w' ⟨rfl, rfl⟩
  go_wp2_with fail
  refine (Put_bad _ _ _ 9007199254740992 _ hw (by omega)).mono ?_
  rintro e w' ⟨rfl, rfl⟩
  go_wp2_with fail
  refine (Put_bad _ _ _ (-9223372036854775808) _ hw (by omega)).mono ?_
  rintro e w' ⟨rfl, rfl⟩
  go_wp2_with fail
  refine (WFixed_no 256 1 9 hw (by omega) (by decide) (by omega)).mono ?_
  rintro e w' ⟨rfl, rfl⟩
  go_wp2_with fail
  refine (WFixed_no 1 9 2 hw (by omega) (by decide) (by omega)).mono ?_
  rintro e w' ⟨rfl, rfl⟩
  go_wp2_with fail
  refine (WFixed_no 1 0 2 hw (by omega) (by decide) (by omega)).mono ?_
  rintro e w' ⟨rfl, rfl⟩
  go_wp2_with fail
  refine (WFixed_no (-1) 8 9 hw (by omega) (by decide) (by omega)).mono ?_
  rintro e w' ⟨rfl, rfl⟩
  go_wp2_with fail
  refine (WFixed_no 72057594037927936 7 9 hw (by omega) (by decide) (by omega)).mono ?_
  rintro e w' ⟨rfl, rfl⟩
  go_wp2_with fail
  refine (Bytes_any _ _ _ _ hw (by simp)).mono ?_
  rintro e w2 ⟨vb, rfl, hob, hm2, _⟩
  obtain ⟨ab, cb, rfl⟩ := hob.shape
  have hw2 := hw.mod hm2 (fun h => h) (fun _ _ h => h)
  replace hm : Mod (fun _ => False) w w2 := hm.trans hm2 (fun _ _ h => h) (fun _ _ h => h)
  clear hm2 hw hob
  go_wp2_with fail
  refine (WFixed_yes 9223372036854775807 8 [127, 255, 255, 255, 255, 255, 255, 255] hw2 (by omega) (by decide) (by simp) (by decide)).mono ?_
  rintro e w3 ⟨rfl, v3, hw3, hm3, hf3⟩
  have hv3 : ∀ g, v3.ownBlock = some g → w.heap.size ≤ g := fun g hg => by rcases hf3 g hg with h | h; simp [Value.ownBlock] at h; exact Nat.le_trans hm.size h
  replace hm : Mod (fun _ => False) w w3 := hm.trans hm3 (fun _ _ h => h) (fun i hi h => by rcases h with h | h; omega; simp [Value.ownBlock] at h)
  clear hm3 hw2 hf3
  go_wp2_with fail
  refine (WFixed_yes 255 1 [127, 255, 255, 255, 255, 255, 255, 255, 255] hw3 (by omega) (by decide) (by simp) (by decide)).mono ?_
  rintro e w4 ⟨rfl, v4, hw4, hm4, hf4⟩
  replace hm : Mod (fun _ => False) w w4 := hm.trans hm4 (fun _ _ h => h) (fun i hi h => by rcases h with h | h; omega; have := hv3 i h; omega)
  clear hm4 hw3 hf4 hv3
  go_wp2_with fail
  refine (Bytes_any _ _ _ _ hw4 (by simp)).mono ?_
  rintro e w5 ⟨vb, rfl, hob, hm5, _⟩
  replace hm : Mod (fun _ => False) w w5 := hm.trans hm5 (fun _ _ h => h) (fun _ _ h => h)
  go_wp2_with fail
  have ha := (Mod.refl (fun _ => False) w5).alloc (.cells (U [127, 255, 255, 255, 255, 255, 255, 255, 255]).toArray 5)
  refine (EqBytes_at (a := [127, 255, 255, 255, 255, 255, 255, 255, 255]) (b := [127, 255, 255, 255, 255, 255, 255, 255, 255]) true ((hob.sl (by decide)).mod ha (fun _ _ h => h)) (Sl.lit w5 [127, 255, 255, 255, 255, 255, 255, 255, 255] (by simp [maxLen]) (by decide)) (by decide)).mono ?_
  rintro e w6 ⟨rfl, hm6⟩
  replace hm : Mod (fun _ => False) w w6 := (hm.trans ha (V := fun _ => False) (fun _ _ h => h) (fun _ _ h => h)).trans hm6 (fun _ _ h => h) (fun _ _ h => h)
  clear ha hm6 hob hm5 hw4
  go_wp2_with fail
  have hlm := lay_mod kBS w6
  have hls := lay_size kBS w6
  have hlo := lay_own kBS w6
  obtain ⟨W8, hW8⟩ : ∃ W8, W8 = (lay w6 kBS).alloc (.cells #[.slice none 0 0, .slice (some ⟨w6.heap.size, 0, none⟩) 1 1, .slice (some ⟨w6.heap.size + 1, 0, none⟩) 2 2, .slice (some ⟨w6.heap.size + 1 + 1, 0, none⟩) 8 8, .slice (some ⟨w6.heap.size + 1 + 1 + 1, 0, none⟩) 8 8, .slice (some ⟨w6.heap.size + 1 + 1 + 1 + 1, 0, none⟩) 8 8, .slice (some ⟨w6.heap.size + 1 + 1 + 1 + 1 + 1, 0, none⟩) 2 2, .slice (some ⟨w6.heap.size + 1 + 1 + 1 + 1 + 1 + 1, 0, none⟩) 3 3] 29) := ⟨_, rfl⟩
  have hm68 : Mod (fun _ => False) w6 W8 := by rw [hW8]; exact hlm.alloc _
  have hml8 : Mod (fun _ => False) (lay w6 kBS) W8 := by rw [hW8]; exact (Mod.refl _ _).alloc _
  have hblk : W8.heap[w6.heap.size + 1 + 1 + 1 + 1 + 1 + 1 + 1]? = some (.cells #[.slice none 0 0, .slice (some ⟨w6.heap.size, 0, none⟩) 1 1, .slice (some ⟨w6.heap.size + 1, 0, none⟩) 2 2, .slice (some ⟨w6.heap.size + 1 + 1, 0, none⟩) 8 8, .slice (some ⟨w6.heap.size + 1 + 1 + 1, 0, none⟩) 8 8, .slice (some ⟨w6.heap.size + 1 + 1 + 1 + 1, 0, none⟩) 8 8, .slice (some ⟨w6.heap.size + 1 + 1 + 1 + 1 + 1, 0, none⟩) 2 2, .slice (some ⟨w6.heap.size + 1 + 1 + 1 + 1 + 1 + 1, 0, none⟩) 3 3] 29 (0, 0)) := by
    rw [hW8, show w6.heap.size + 1 + 1 + 1 + 1 + 1 + 1 + 1 = (lay w6 kBS).heap.size from by rw [hls]; rfl]
    exact heap_alloc_new _ _
  have hsl : ∀ i l, kBS[i]? = some l → l.length ≤ maxLen → (∀ c ∈ l, 0 ≤ c ∧ c ≤ 255) → Sl W8 (.slice (some ⟨w6.heap.size + i, 0, none⟩) l.length l.length) l := fun i l h1 h2 h3 => ((hlo i l h1 h2).mod hml8 (fun _ _ h => h)).sl h3
  have HW8 : Hid (W8 = _) := hW8
  have hm8 : Mod (fun _ => False) w W8 := hm.trans hm68 (fun _ _ h => h) (fun _ _ h => h)
  have HSL : Hid (∀ i l, kBS[i]? = some l → l.length ≤ maxLen → (∀ c ∈ l, 0 ≤ c ∧ c ≤ 255) → Sl W8 (.slice (some ⟨w6.heap.size + i, 0, none⟩) l.length l.length) l) := hsl
  have HBLK : Hid (W8.heap[w6.heap.size + 1 + 1 + 1 + 1 + 1 + 1 + 1]? = some (.cells #[.slice none 0 0, .slice (some ⟨w6.heap.size, 0, none⟩) 1 1, .slice (some ⟨w6.heap.size + 1, 0, none⟩) 2 2, .slice (some ⟨w6.heap.size + 1 + 1, 0, none⟩) 8 8, .slice (some ⟨w6.heap.size + 1 + 1 + 1, 0, none⟩) 8 8, .slice (some ⟨w6.heap.size + 1 + 1 + 1 + 1, 0, none⟩) 8 8, .slice (some ⟨w6.heap.size + 1 + 1 + 1 + 1 + 1, 0, none⟩) 2 2, .slice (some ⟨w6.heap.size + 1 + 1 + 1 + 1 + 1 + 1, 0, none⟩) 3 3] 29 (0, 0))) := hblk
  have hw08 : w.heap.size ≤ W8.heap.size := hm8.size
  clear hlm hls hlo hW8 hm68 hml8 hblk hsl hm
  go_loopw [4, 129] (fun vg i wr => ∃ k : Nat, i = .int .i64 k ∧ k ≤ 8 ∧ OwnI wr vg (kG.take (3 * k)) ∧ Mod (fun _ => False) W8 wr ∧ (∀ g, vg.ownBlock = some g → W8.heap.size ≤ g)) (fun _ i _ => 8 - (intOf i).toNat)
  case atStart => exact ⟨0, rfl, by omega, World.ownsRow_nil _ _ _ _, by rw [HW8.out]; exact Mod.refl _ _, by intro g hg; simp [Value.ownBlock] at hg⟩
  case round =>
    obtain ⟨k, rfl, hk, hog, hmr, hvg⟩ := hrel
    rcases (show k = 0 ∨ k = 1 ∨ k = 2 ∨ k = 3 ∨ k = 4 ∨ k = 5 ∨ k = 6 ∨ k = 7 ∨ k = 8 from by omega) with hke | hke | hke | hke | hke | hke | hke | hke | hke
    all_goals subst hke
    · have hc : wr.cell? ⟨w6.heap.size + 1 + 1 + 1 + 1 + 1 + 1 + 1, 0, none⟩ = some (.slice none 0 0) := by
        have hb := hmr.obj HBLK.out (fun h => h)
        simp [World.cell?, hb]
      have hsk : Sl wr (.slice none 0 0) [] := (Own.nil _).sl (by simp)
      have hog' : OwnI wr _ [] := hog
      clear hog hk
      go_wp2_with fail
      refine (New_any _ [] _ hsk (by decide)).mono ?_
      rintro e wa ⟨pr, vr, rfl, hra, hma, hpr, _, hvr⟩
      have hpr8 : W8.heap.size ≤ pr := Nat.le_trans hmr.size hpr
      have hogA := hog'.mod hma (fun _ _ h => h)
      have hmA : Mod (fun _ => False) W8 wa := hmr.trans hma (fun _ _ h => h) (fun _ _ h => h)
      have hwlt := hog'.lt
      clear hma hmr hsk hc
      go_wp2_with fail
      refine (Get_at hra 0 0 3 [] (by decide) (by decide)).mono ?_
      rintro e wc ⟨rfl, v2, hrc, hmc, _⟩
      have hogC := hogA.mod hmc (fun g hg h => by have := hwlt g hg; omega)
      have hmC : Mod (fun _ => False) W8 wc := hmA.trans hmc (fun _ _ h => h) (fun i hi h => by omega)
      clear hra hmA hogA hmc
      go_wp2_with fail
      refine (Left_at hrc 0 rfl).mono ?_
      rintro e w' ⟨rfl, rfl⟩
      have hogW : w'.ownsRow 0 3 1 _ 0 (([] : List Int).map (Value.int .i64)) := hogC
      go_wp2_with (at_builtin; refine wpList_append_lies _ rfl _ _ 56 rfl 0 3 i0 (.int .i64 0) 1 8 Try.underlying56 hi hz0 hz1 hz2 rfl (by decide) _ 0 (([] : List Int).map (Value.int .i64)) rfl (World.ownsRow.alloc hogW _) ⟨w'.heap.size, 0, none⟩ 3 3 [.int .i64 0, .int .i64 3, .int .i64 0] rfl rfl (news3 _ _ _ _) (by intro u hu; simp at hu; rcases hu with rfl | rfl | rfl <;> rfl) (by omega) (by simp only [maxLen]; omega) (by omega) (Nat.zero_le _) (w'.heap.size + 1) (by simp) ?_; intro g cap1 w3 hown3 hgrow hg hlt3)
      have hog3 : OwnI w3 (.slice (some ⟨g, 0, none⟩) 3 cap1) [0, 3, 0] := hown3
      have hm3 : Mod (fun _ => False) W8 w3 := (hmC.alloc _).grown hgrow (fun i hi' hlt' => by have := hvg i hi'; omega)
      have hgg : W8.heap.size ≤ g := by
        rcases hg with h | h
        · exact hvg g h
        · have := hmC.size; omega
      clear hgrow hown3 hogW hogC hrc hmC
      go_roundw
      case rel => exact ⟨1, by go_num, by omega, hog3, hm3, by intro g' hg'; simp [Value.ownBlock] at hg'; omega⟩
      case measure => simp [intOf]
    · have hc : wr.cell? ⟨w6.heap.size + 1 + 1 + 1 + 1 + 1 + 1 + 1, 1, none⟩ = some (.slice (some ⟨w6.heap.size, 0, none⟩) 1 1) := by
        have hb := hmr.obj HBLK.out (fun h => h)
        simp [World.cell?, hb]
      have hsk : Sl wr (.slice (some ⟨w6.heap.size, 0, none⟩) 1 1) [128] := ((HSL.out 0 [128] (by decide) (by simp [maxLen]) (by decide)).mod hmr (fun _ _ h => h))
      have hog' : OwnI wr _ [0, 3, 0] := hog
      clear hog hk
      go_wp2_with fail
      refine (New_any _ [128] _ hsk (by decide)).mono ?_
      rintro e wa ⟨pr, vr, rfl, hra, hma, hpr, _, hvr⟩
      have hpr8 : W8.heap.size ≤ pr := Nat.le_trans hmr.size hpr
      have hogA := hog'.mod hma (fun _ _ h => h)
      have hmA : Mod (fun _ => False) W8 wa := hmr.trans hma (fun _ _ h => h) (fun _ _ h => h)
      have hwlt := hog'.lt
      clear hma hmr hsk hc
      go_wp2_with fail
      refine (Get_at hra 0 0 3 [128] (by decide) (by decide)).mono ?_
      rintro e wc ⟨rfl, v2, hrc, hmc, _⟩
      have hogC := hogA.mod hmc (fun g hg h => by have := hwlt g hg; omega)
      have hmC : Mod (fun _ => False) W8 wc := hmA.trans hmc (fun _ _ h => h) (fun i hi h => by omega)
      clear hra hmA hogA hmc
      go_wp2_with fail
      refine (Left_at hrc 1 rfl).mono ?_
      rintro e w' ⟨rfl, rfl⟩
      have hogW : w'.ownsRow 0 3 1 _ 3 (([0, 3, 0] : List Int).map (Value.int .i64)) := hogC
      go_wp2_with (at_builtin; refine wpList_append_lies _ rfl _ _ 56 rfl 0 3 i0 (.int .i64 0) 1 8 Try.underlying56 hi hz0 hz1 hz2 rfl (by decide) _ 3 (([0, 3, 0] : List Int).map (Value.int .i64)) rfl (World.ownsRow.alloc hogW _) ⟨w'.heap.size, 0, none⟩ 3 3 [.int .i64 0, .int .i64 3, .int .i64 1] rfl rfl (news3 _ _ _ _) (by intro u hu; simp at hu; rcases hu with rfl | rfl | rfl <;> rfl) (by omega) (by simp only [maxLen]; omega) (by omega) (Nat.zero_le _) (w'.heap.size + 1) (by simp) ?_; intro g cap1 w3 hown3 hgrow hg hlt3)
      have hog3 : OwnI w3 (.slice (some ⟨g, 0, none⟩) 6 cap1) [0, 3, 0, 0, 3, 1] := hown3
      have hm3 : Mod (fun _ => False) W8 w3 := (hmC.alloc _).grown hgrow (fun i hi' hlt' => by have := hvg i hi'; omega)
      have hgg : W8.heap.size ≤ g := by
        rcases hg with h | h
        · exact hvg g h
        · have := hmC.size; omega
      clear hgrow hown3 hogW hogC hrc hmC
      go_roundw
      case rel => exact ⟨2, by go_num, by omega, hog3, hm3, by intro g' hg'; simp [Value.ownBlock] at hg'; omega⟩
      case measure => simp [intOf]
    · have hc : wr.cell? ⟨w6.heap.size + 1 + 1 + 1 + 1 + 1 + 1 + 1, 2, none⟩ = some (.slice (some ⟨w6.heap.size + 1, 0, none⟩) 2 2) := by
        have hb := hmr.obj HBLK.out (fun h => h)
        simp [World.cell?, hb]
      have hsk : Sl wr (.slice (some ⟨w6.heap.size + 1, 0, none⟩) 2 2) [128, 0] := ((HSL.out 1 [128, 0] (by decide) (by simp [maxLen]) (by decide)).mod hmr (fun _ _ h => h))
      have hog' : OwnI wr _ [0, 3, 0, 0, 3, 1] := hog
      clear hog hk
      go_wp2_with fail
      refine (New_any _ [128, 0] _ hsk (by decide)).mono ?_
      rintro e wa ⟨pr, vr, rfl, hra, hma, hpr, _, hvr⟩
      have hpr8 : W8.heap.size ≤ pr := Nat.le_trans hmr.size hpr
      have hogA := hog'.mod hma (fun _ _ h => h)
      have hmA : Mod (fun _ => False) W8 wa := hmr.trans hma (fun _ _ h => h) (fun _ _ h => h)
      have hwlt := hog'.lt
      clear hma hmr hsk hc
      go_wp2_with fail
      refine (Get_at hra 0 0 4 [128, 0] (by decide) (by decide)).mono ?_
      rintro e wc ⟨rfl, v2, hrc, hmc, _⟩
      have hogC := hogA.mod hmc (fun g hg h => by have := hwlt g hg; omega)
      have hmC : Mod (fun _ => False) W8 wc := hmA.trans hmc (fun _ _ h => h) (fun i hi h => by omega)
      clear hra hmA hogA hmc
      go_wp2_with fail
      refine (Left_at hrc 2 rfl).mono ?_
      rintro e w' ⟨rfl, rfl⟩
      have hogW : w'.ownsRow 0 3 1 _ 6 (([0, 3, 0, 0, 3, 1] : List Int).map (Value.int .i64)) := hogC
      go_wp2_with (at_builtin; refine wpList_append_lies _ rfl _ _ 56 rfl 0 3 i0 (.int .i64 0) 1 8 Try.underlying56 hi hz0 hz1 hz2 rfl (by decide) _ 6 (([0, 3, 0, 0, 3, 1] : List Int).map (Value.int .i64)) rfl (World.ownsRow.alloc hogW _) ⟨w'.heap.size, 0, none⟩ 3 3 [.int .i64 0, .int .i64 4, .int .i64 2] rfl rfl (news3 _ _ _ _) (by intro u hu; simp at hu; rcases hu with rfl | rfl | rfl <;> rfl) (by omega) (by simp only [maxLen]; omega) (by omega) (Nat.zero_le _) (w'.heap.size + 1) (by simp) ?_; intro g cap1 w3 hown3 hgrow hg hlt3)
      have hog3 : OwnI w3 (.slice (some ⟨g, 0, none⟩) 9 cap1) [0, 3, 0, 0, 3, 1, 0, 4, 2] := hown3
      have hm3 : Mod (fun _ => False) W8 w3 := (hmC.alloc _).grown hgrow (fun i hi' hlt' => by have := hvg i hi'; omega)
      have hgg : W8.heap.size ≤ g := by
        rcases hg with h | h
        · exact hvg g h
        · have := hmC.size; omega
      clear hgrow hown3 hogW hogC hrc hmC
      go_roundw
      case rel => exact ⟨3, by go_num, by omega, hog3, hm3, by intro g' hg'; simp [Value.ownBlock] at hg'; omega⟩
      case measure => simp [intOf]
    · have hc : wr.cell? ⟨w6.heap.size + 1 + 1 + 1 + 1 + 1 + 1 + 1, 3, none⟩ = some (.slice (some ⟨w6.heap.size + 1 + 1, 0, none⟩) 8 8) := by
        have hb := hmr.obj HBLK.out (fun h => h)
        simp [World.cell?, hb]
      have hsk : Sl wr (.slice (some ⟨w6.heap.size + 1 + 1, 0, none⟩) 8 8) [255, 255, 255, 255, 255, 255, 255, 16] := ((HSL.out 2 [255, 255, 255, 255, 255, 255, 255, 16] (by decide) (by simp [maxLen]) (by decide)).mod hmr (fun _ _ h => h))
      have hog' : OwnI wr _ [0, 3, 0, 0, 3, 1, 0, 4, 2] := hog
      clear hog hk
      go_wp2_with fail
      refine (New_any _ [255, 255, 255, 255, 255, 255, 255, 16] _ hsk (by decide)).mono ?_
      rintro e wa ⟨pr, vr, rfl, hra, hma, hpr, _, hvr⟩
      have hpr8 : W8.heap.size ≤ pr := Nat.le_trans hmr.size hpr
      have hogA := hog'.mod hma (fun _ _ h => h)
      have hmA : Mod (fun _ => False) W8 wa := hmr.trans hma (fun _ _ h => h) (fun _ _ h => h)
      have hwlt := hog'.lt
      clear hma hmr hsk hc
      go_wp2_with fail
      refine (Get_at hra 0 0 4 [255, 255, 255, 255, 255, 255, 255, 16] (by decide) (by decide)).mono ?_
      rintro e wc ⟨rfl, v2, hrc, hmc, _⟩
      have hogC := hogA.mod hmc (fun g hg h => by have := hwlt g hg; omega)
      have hmC : Mod (fun _ => False) W8 wc := hmA.trans hmc (fun _ _ h => h) (fun i hi h => by omega)
      clear hra hmA hogA hmc
      go_wp2_with fail
      refine (Left_at hrc 8 rfl).mono ?_
      rintro e w' ⟨rfl, rfl⟩
      have hogW : w'.ownsRow 0 3 1 _ 9 (([0, 3, 0, 0, 3, 1, 0, 4, 2] : List Int).map (Value.int .i64)) := hogC
      go_wp2_with (at_builtin; refine wpList_append_lies _ rfl _ _ 56 rfl 0 3 i0 (.int .i64 0) 1 8 Try.underlying56 hi hz0 hz1 hz2 rfl (by decide) _ 9 (([0, 3, 0, 0, 3, 1, 0, 4, 2] : List Int).map (Value.int .i64)) rfl (World.ownsRow.alloc hogW _) ⟨w'.heap.size, 0, none⟩ 3 3 [.int .i64 0, .int .i64 4, .int .i64 8] rfl rfl (news3 _ _ _ _) (by intro u hu; simp at hu; rcases hu with rfl | rfl | rfl <;> rfl) (by omega) (by simp only [maxLen]; omega) (by omega) (Nat.zero_le _) (w'.heap.size + 1) (by simp) ?_; intro g cap1 w3 hown3 hgrow hg hlt3)
      have hog3 : OwnI w3 (.slice (some ⟨g, 0, none⟩) 12 cap1) [0, 3, 0, 0, 3, 1, 0, 4, 2, 0, 4, 8] := hown3
      have hm3 : Mod (fun _ => False) W8 w3 := (hmC.alloc _).grown hgrow (fun i hi' hlt' => by have := hvg i hi'; omega)
      have hgg : W8.heap.size ≤ g := by
        rcases hg with h | h
        · exact hvg g h
        · have := hmC.size; omega
      clear hgrow hown3 hogW hogC hrc hmC
      go_roundw
      case rel => exact ⟨4, by go_num, by omega, hog3, hm3, by intro g' hg'; simp [Value.ownBlock] at hg'; omega⟩
      case measure => simp [intOf]
    · have hc : wr.cell? ⟨w6.heap.size + 1 + 1 + 1 + 1 + 1 + 1 + 1, 4, none⟩ = some (.slice (some ⟨w6.heap.size + 1 + 1 + 1, 0, none⟩) 8 8) := by
        have hb := hmr.obj HBLK.out (fun h => h)
        simp [World.cell?, hb]
      have hsk : Sl wr (.slice (some ⟨w6.heap.size + 1 + 1 + 1, 0, none⟩) 8 8) [128, 128, 128, 128, 128, 128, 128, 128] := ((HSL.out 3 [128, 128, 128, 128, 128, 128, 128, 128] (by decide) (by simp [maxLen]) (by decide)).mod hmr (fun _ _ h => h))
      have hog' : OwnI wr _ [0, 3, 0, 0, 3, 1, 0, 4, 2, 0, 4, 8] := hog
      clear hog hk
      go_wp2_with fail
      refine (New_any _ [128, 128, 128, 128, 128, 128, 128, 128] _ hsk (by decide)).mono ?_
      rintro e wa ⟨pr, vr, rfl, hra, hma, hpr, _, hvr⟩
      have hpr8 : W8.heap.size ≤ pr := Nat.le_trans hmr.size hpr
      have hogA := hog'.mod hma (fun _ _ h => h)
      have hmA : Mod (fun _ => False) W8 wa := hmr.trans hma (fun _ _ h => h) (fun _ _ h => h)
      have hwlt := hog'.lt
      clear hma hmr hsk hc
      go_wp2_with fail
      refine (Get_at hra 0 0 4 [128, 128, 128, 128, 128, 128, 128, 128] (by decide) (by decide)).mono ?_
      rintro e wc ⟨rfl, v2, hrc, hmc, _⟩
      have hogC := hogA.mod hmc (fun g hg h => by have := hwlt g hg; omega)
      have hmC : Mod (fun _ => False) W8 wc := hmA.trans hmc (fun _ _ h => h) (fun i hi h => by omega)
      clear hra hmA hogA hmc
      go_wp2_with fail
      refine (Left_at hrc 8 rfl).mono ?_
      rintro e w' ⟨rfl, rfl⟩
      have hogW : w'.ownsRow 0 3 1 _ 12 (([0, 3, 0, 0, 3, 1, 0, 4, 2, 0, 4, 8] : List Int).map (Value.int .i64)) := hogC
      go_wp2_with (at_builtin; refine wpList_append_lies _ rfl _ _ 56 rfl 0 3 i0 (.int .i64 0) 1 8 Try.underlying56 hi hz0 hz1 hz2 rfl (by decide) _ 12 (([0, 3, 0, 0, 3, 1, 0, 4, 2, 0, 4, 8] : List Int).map (Value.int .i64)) rfl (World.ownsRow.alloc hogW _) ⟨w'.heap.size, 0, none⟩ 3 3 [.int .i64 0, .int .i64 4, .int .i64 8] rfl rfl (news3 _ _ _ _) (by intro u hu; simp at hu; rcases hu with rfl | rfl | rfl <;> rfl) (by omega) (by simp only [maxLen]; omega) (by omega) (Nat.zero_le _) (w'.heap.size + 1) (by simp) ?_; intro g cap1 w3 hown3 hgrow hg hlt3)
      have hog3 : OwnI w3 (.slice (some ⟨g, 0, none⟩) 15 cap1) [0, 3, 0, 0, 3, 1, 0, 4, 2, 0, 4, 8, 0, 4, 8] := hown3
      have hm3 : Mod (fun _ => False) W8 w3 := (hmC.alloc _).grown hgrow (fun i hi' hlt' => by have := hvg i hi'; omega)
      have hgg : W8.heap.size ≤ g := by
        rcases hg with h | h
        · exact hvg g h
        · have := hmC.size; omega
      clear hgrow hown3 hogW hogC hrc hmC
      go_roundw
      case rel => exact ⟨5, by go_num, by omega, hog3, hm3, by intro g' hg'; simp [Value.ownBlock] at hg'; omega⟩
      case measure => simp [intOf]
    · have hc : wr.cell? ⟨w6.heap.size + 1 + 1 + 1 + 1 + 1 + 1 + 1, 5, none⟩ = some (.slice (some ⟨w6.heap.size + 1 + 1 + 1 + 1, 0, none⟩) 8 8) := by
        have hb := hmr.obj HBLK.out (fun h => h)
        simp [World.cell?, hb]
      have hsk : Sl wr (.slice (some ⟨w6.heap.size + 1 + 1 + 1 + 1, 0, none⟩) 8 8) [255, 255, 255, 255, 255, 255, 255, 15] := ((HSL.out 4 [255, 255, 255, 255, 255, 255, 255, 15] (by decide) (by simp [maxLen]) (by decide)).mod hmr (fun _ _ h => h))
      have hog' : OwnI wr _ [0, 3, 0, 0, 3, 1, 0, 4, 2, 0, 4, 8, 0, 4, 8] := hog
      clear hog hk
      go_wp2_with fail
      refine (New_any _ [255, 255, 255, 255, 255, 255, 255, 15] _ hsk (by decide)).mono ?_
      rintro e wa ⟨pr, vr, rfl, hra, hma, hpr, _, hvr⟩
      have hpr8 : W8.heap.size ≤ pr := Nat.le_trans hmr.size hpr
      have hogA := hog'.mod hma (fun _ _ h => h)
      have hmA : Mod (fun _ => False) W8 wa := hmr.trans hma (fun _ _ h => h) (fun _ _ h => h)
      have hwlt := hog'.lt
      clear hma hmr hsk hc
      go_wp2_with fail
      refine (Get_at hra 9007199254740991 8 0 [] (by decide) (by decide)).mono ?_
      rintro e wc ⟨rfl, v2, hrc, hmc, _⟩
      have hogC := hogA.mod hmc (fun g hg h => by have := hwlt g hg; omega)
      have hmC : Mod (fun _ => False) W8 wc := hmA.trans hmc (fun _ _ h => h) (fun i hi h => by omega)
      clear hra hmA hogA hmc
      go_wp2_with fail
      refine (Left_at hrc 0 rfl).mono ?_
      rintro e w' ⟨rfl, rfl⟩
      have hogW : w'.ownsRow 0 3 1 _ 15 (([0, 3, 0, 0, 3, 1, 0, 4, 2, 0, 4, 8, 0, 4, 8] : List Int).map (Value.int .i64)) := hogC
      go_wp2_with (at_builtin; refine wpList_append_lies _ rfl _ _ 56 rfl 0 3 i0 (.int .i64 0) 1 8 Try.underlying56 hi hz0 hz1 hz2 rfl (by decide) _ 15 (([0, 3, 0, 0, 3, 1, 0, 4, 2, 0, 4, 8, 0, 4, 8] : List Int).map (Value.int .i64)) rfl (World.ownsRow.alloc hogW _) ⟨w'.heap.size, 0, none⟩ 3 3 [.int .i64 9007199254740991, .int .i64 0, .int .i64 0] rfl rfl (news3 _ _ _ _) (by intro u hu; simp at hu; rcases hu with rfl | rfl | rfl <;> rfl) (by omega) (by simp only [maxLen]; omega) (by omega) (Nat.zero_le _) (w'.heap.size + 1) (by simp) ?_; intro g cap1 w3 hown3 hgrow hg hlt3)
      have hog3 : OwnI w3 (.slice (some ⟨g, 0, none⟩) 18 cap1) [0, 3, 0, 0, 3, 1, 0, 4, 2, 0, 4, 8, 0, 4, 8, 9007199254740991, 0, 0] := hown3
      have hm3 : Mod (fun _ => False) W8 w3 := (hmC.alloc _).grown hgrow (fun i hi' hlt' => by have := hvg i hi'; omega)
      have hgg : W8.heap.size ≤ g := by
        rcases hg with h | h
        · exact hvg g h
        · have := hmC.size; omega
      clear hgrow hown3 hogW hogC hrc hmC
      go_roundw
      case rel => exact ⟨6, by go_num, by omega, hog3, hm3, by intro g' hg'; simp [Value.ownBlock] at hg'; omega⟩
      case measure => simp [intOf]
    · have hc : wr.cell? ⟨w6.heap.size + 1 + 1 + 1 + 1 + 1 + 1 + 1, 6, none⟩ = some (.slice (some ⟨w6.heap.size + 1 + 1 + 1 + 1 + 1, 0, none⟩) 2 2) := by
        have hb := hmr.obj HBLK.out (fun h => h)
        simp [World.cell?, hb]
      have hsk : Sl wr (.slice (some ⟨w6.heap.size + 1 + 1 + 1 + 1 + 1, 0, none⟩) 2 2) [0, 5] := ((HSL.out 5 [0, 5] (by decide) (by simp [maxLen]) (by decide)).mod hmr (fun _ _ h => h))
      have hog' : OwnI wr _ [0, 3, 0, 0, 3, 1, 0, 4, 2, 0, 4, 8, 0, 4, 8, 9007199254740991, 0, 0] := hog
      clear hog hk
      go_wp2_with fail
      refine (New_any _ [0, 5] _ hsk (by decide)).mono ?_
      rintro e wa ⟨pr, vr, rfl, hra, hma, hpr, _, hvr⟩
      have hpr8 : W8.heap.size ≤ pr := Nat.le_trans hmr.size hpr
      have hogA := hog'.mod hma (fun _ _ h => h)
      have hmA : Mod (fun _ => False) W8 wa := hmr.trans hma (fun _ _ h => h) (fun _ _ h => h)
      have hwlt := hog'.lt
      clear hma hmr hsk hc
      go_wp2_with fail
      refine (Get_at hra 0 1 0 [5] (by decide) (by decide)).mono ?_
      rintro e wc ⟨rfl, v2, hrc, hmc, _⟩
      have hogC := hogA.mod hmc (fun g hg h => by have := hwlt g hg; omega)
      have hmC : Mod (fun _ => False) W8 wc := hmA.trans hmc (fun _ _ h => h) (fun i hi h => by omega)
      clear hra hmA hogA hmc
      go_wp2_with fail
      refine (Left_at hrc 1 rfl).mono ?_
      rintro e w' ⟨rfl, rfl⟩
      have hogW : w'.ownsRow 0 3 1 _ 18 (([0, 3, 0, 0, 3, 1, 0, 4, 2, 0, 4, 8, 0, 4, 8, 9007199254740991, 0, 0] : List Int).map (Value.int .i64)) := hogC
      go_wp2_with (at_builtin; refine wpList_append_lies _ rfl _ _ 56 rfl 0 3 i0 (.int .i64 0) 1 8 Try.underlying56 hi hz0 hz1 hz2 rfl (by decide) _ 18 (([0, 3, 0, 0, 3, 1, 0, 4, 2, 0, 4, 8, 0, 4, 8, 9007199254740991, 0, 0] : List Int).map (Value.int .i64)) rfl (World.ownsRow.alloc hogW _) ⟨w'.heap.size, 0, none⟩ 3 3 [.int .i64 0, .int .i64 0, .int .i64 1] rfl rfl (news3 _ _ _ _) (by intro u hu; simp at hu; rcases hu with rfl | rfl | rfl <;> rfl) (by omega) (by simp only [maxLen]; omega) (by omega) (Nat.zero_le _) (w'.heap.size + 1) (by simp) ?_; intro g cap1 w3 hown3 hgrow hg hlt3)
      have hog3 : OwnI w3 (.slice (some ⟨g, 0, none⟩) 21 cap1) [0, 3, 0, 0, 3, 1, 0, 4, 2, 0, 4, 8, 0, 4, 8, 9007199254740991, 0, 0, 0, 0, 1] := hown3
      have hm3 : Mod (fun _ => False) W8 w3 := (hmC.alloc _).grown hgrow (fun i hi' hlt' => by have := hvg i hi'; omega)
      have hgg : W8.heap.size ≤ g := by
        rcases hg with h | h
        · exact hvg g h
        · have := hmC.size; omega
      clear hgrow hown3 hogW hogC hrc hmC
      go_roundw
      case rel => exact ⟨7, by go_num, by omega, hog3, hm3, by intro g' hg'; simp [Value.ownBlock] at hg'; omega⟩
      case measure => simp [intOf]
    · have hc : wr.cell? ⟨w6.heap.size + 1 + 1 + 1 + 1 + 1 + 1 + 1, 7, none⟩ = some (.slice (some ⟨w6.heap.size + 1 + 1 + 1 + 1 + 1 + 1, 0, none⟩) 3 3) := by
        have hb := hmr.obj HBLK.out (fun h => h)
        simp [World.cell?, hb]
      have hsk : Sl wr (.slice (some ⟨w6.heap.size + 1 + 1 + 1 + 1 + 1 + 1, 0, none⟩) 3 3) [129, 0, 1] := ((HSL.out 6 [129, 0, 1] (by decide) (by simp [maxLen]) (by decide)).mod hmr (fun _ _ h => h))
      have hog' : OwnI wr _ [0, 3, 0, 0, 3, 1, 0, 4, 2, 0, 4, 8, 0, 4, 8, 9007199254740991, 0, 0, 0, 0, 1] := hog
      clear hog hk
      go_wp2_with fail
      refine (New_any _ [129, 0, 1] _ hsk (by decide)).mono ?_
      rintro e wa ⟨pr, vr, rfl, hra, hma, hpr, _, hvr⟩
      have hpr8 : W8.heap.size ≤ pr := Nat.le_trans hmr.size hpr
      have hogA := hog'.mod hma (fun _ _ h => h)
      have hmA : Mod (fun _ => False) W8 wa := hmr.trans hma (fun _ _ h => h) (fun _ _ h => h)
      have hwlt := hog'.lt
      clear hma hmr hsk hc
      go_wp2_with fail
      refine (Get_at hra 0 0 4 [129, 0, 1] (by decide) (by decide)).mono ?_
      rintro e wc ⟨rfl, v2, hrc, hmc, _⟩
      have hogC := hogA.mod hmc (fun g hg h => by have := hwlt g hg; omega)
      have hmC : Mod (fun _ => False) W8 wc := hmA.trans hmc (fun _ _ h => h) (fun i hi h => by omega)
      clear hra hmA hogA hmc
      go_wp2_with fail
      refine (Left_at hrc 3 rfl).mono ?_
      rintro e w' ⟨rfl, rfl⟩
      have hogW : w'.ownsRow 0 3 1 _ 21 (([0, 3, 0, 0, 3, 1, 0, 4, 2, 0, 4, 8, 0, 4, 8, 9007199254740991, 0, 0, 0, 0, 1] : List Int).map (Value.int .i64)) := hogC
      go_wp2_with (at_builtin; refine wpList_append_lies _ rfl _ _ 56 rfl 0 3 i0 (.int .i64 0) 1 8 Try.underlying56 hi hz0 hz1 hz2 rfl (by decide) _ 21 (([0, 3, 0, 0, 3, 1, 0, 4, 2, 0, 4, 8, 0, 4, 8, 9007199254740991, 0, 0, 0, 0, 1] : List Int).map (Value.int .i64)) rfl (World.ownsRow.alloc hogW _) ⟨w'.heap.size, 0, none⟩ 3 3 [.int .i64 0, .int .i64 4, .int .i64 3] rfl rfl (news3 _ _ _ _) (by intro u hu; simp at hu; rcases hu with rfl | rfl | rfl <;> rfl) (by omega) (by simp only [maxLen]; omega) (by omega) (Nat.zero_le _) (w'.heap.size + 1) (by simp) ?_; intro g cap1 w3 hown3 hgrow hg hlt3)
      have hog3 : OwnI w3 (.slice (some ⟨g, 0, none⟩) 24 cap1) [0, 3, 0, 0, 3, 1, 0, 4, 2, 0, 4, 8, 0, 4, 8, 9007199254740991, 0, 0, 0, 0, 1, 0, 4, 3] := hown3
      have hm3 : Mod (fun _ => False) W8 w3 := (hmC.alloc _).grown hgrow (fun i hi' hlt' => by have := hvg i hi'; omega)
      have hgg : W8.heap.size ≤ g := by
        rcases hg with h | h
        · exact hvg g h
        · have := hmC.size; omega
      clear hgrow hown3 hogW hogC hrc hmC
      go_roundw
      case rel => exact ⟨8, by go_num, by omega, hog3, hm3, by intro g' hg'; simp [Value.ownBlock] at hg'; omega⟩
      case measure => simp [intOf]
    · have hog' : OwnI wr _ kG := hog
      have hm : Mod (fun _ => False) w wr := hm8.trans hmr (fun _ _ h => h) (fun _ _ h => h)
      clear hog hk hm8 hmr hvg HW8 HSL HBLK hw08
      go_wp2_with fail
      have ha := (Mod.refl (fun _ => False) wr).alloc (.cells (kG.map (Value.int .i64)).toArray 3)
      refine (EqInts_same (l := kG) (hog'.mod ha (fun _ _ h => h)) (OwnI.lit wr kG (by simp [kG, maxLen])) (by decide) (by decide)).mono ?_
      rintro e wa ⟨rfl, hma⟩
      replace hm : Mod (fun _ => False) w wa := (hm.trans ha (V := fun _ => False) (fun _ _ h => h) (fun _ _ h => h)).trans hma (fun _ _ h => h) (fun _ _ h => h)
      clear ha hma hog'
      go_wp2_with fail
      have ha := (Mod.refl (fun _ => False) wa).alloc (.cells (U [2, 1]).toArray 5)
      refine (New_any _ [2, 1] _ (Sl.lit wa [2, 1] (by simp [maxLen]) (by decide)) (by decide)).mono ?_
      rintro e wb ⟨pr, vr, rfl, hr, hmb, hpr, hprlt, hvr⟩
      replace hm : Mod (fun _ => False) w wb := (hm.trans ha (V := fun _ => False) (fun _ _ h => h) (fun _ _ h => h)).trans hmb (fun _ _ h => h) (fun _ _ h => h)
      have hvrlt := hr.sl.lt (by simp)
      clear ha hmb hpr hvr
      go_wp2_with fail
      refine (Octets_no 5 3 hr (by decide) (by omega)).mono ?_
      rintro e w' ⟨rfl, rfl⟩
      go_wp2_with fail
      refine (Octets_no 1 5 hr (by decide) (by omega)).mono ?_
      rintro e w' ⟨rfl, rfl⟩
      go_wp2_with fail
      refine (Octets_no (-1) 5 hr (by decide) (by omega)).mono ?_
      rintro e w' ⟨rfl, rfl⟩
      go_wp2_with fail
      refine (Fixed_no 3 3 hr (by decide) (by omega)).mono ?_
      rintro e w' ⟨rfl, rfl⟩
      go_wp2_with fail
      refine (Fixed_no 0 2 hr (by decide) (by omega)).mono ?_
      rintro e w' ⟨rfl, rfl⟩
      go_wp2_with fail
      refine (Fixed_no 9 2 hr (by decide) (by omega)).mono ?_
      rintro e w' ⟨rfl, rfl⟩
      go_wp2_with fail
      have ha := (Mod.refl (fun _ => False) w').alloc (.cells (U [255, 255, 255, 255, 255, 255, 255, 255, 0]).toArray 5)
      refine (New_any _ [255, 255, 255, 255, 255, 255, 255, 255, 0] _ (Sl.lit w' [255, 255, 255, 255, 255, 255, 255, 255, 0] (by simp [maxLen]) (by decide)) (by decide)).mono ?_
      rintro e wd ⟨pf, vf, rfl, hf, hmd, hpf, hpflt, hvf⟩
      have hmd2 : Mod (fun _ => False) w' wd := ha.trans hmd (fun _ _ h => h) (fun _ _ h => h)
      have hr2 := hr.mod hmd2 (fun h => h) (fun _ _ h => h)
      have hpf2 : w'.heap.size ≤ pf := by have := ha.size; omega
      have hsw : w.heap.size ≤ w'.heap.size := hm.size
      replace hm : Mod (fun _ => False) w wd := hm.trans hmd2 (fun _ _ h => h) (fun _ _ h => h)
      generalize w'.heap.size = s1 at hprlt hvrlt hpf2 hsw
      clear ha hmd hmd2 hr hvf hpf
      go_wp2_with fail
      refine (Fixed_no 8 9 hf (by decide) (by omega)).mono ?_
      rintro e w' ⟨rfl, rfl⟩
      go_wp2_with fail
      refine (Fixed_at hf 7 72057594037927935 [255, 0] (by decide) (by decide) (by decide)).mono ?_
      rintro e we ⟨rfl, vf2, hf2, hme, hvf2⟩
      have hr3 := hr2.mod2 hme (fun h => by omega) (fun _ g hg h => by have := hvrlt g hg; omega)
      replace hm : Mod (fun _ => False) w we := hm.trans hme (fun _ _ h => h) (fun i hi h => by omega)
      have hpflt2 : pf < we.heap.size := lt_of_block hf2.blk
      have hvflt := hf2.sl.lt (by simp)
      clear hme hr2 hf hpflt hvf2
      go_wp2_with fail
      have ha := (Mod.refl (fun _ => False) we).alloc (.cells (U [0]).toArray 5)
      refine (New_any _ [0] _ (Sl.lit we [0] (by simp [maxLen]) (by decide)) (by decide)).mono ?_
      rintro e wg ⟨po, vo, rfl, hoR, hmg, hpo, _, hvo⟩
      have hmg2 : Mod (fun _ => False) we wg := ha.trans hmg (fun _ _ h => h) (fun _ _ h => h)
      have hpo2 : we.heap.size ≤ po := by have := ha.size; omega
      have hr4 := hr3.mod hmg2 (fun h => h) (fun _ _ h => h)
      have hf4 := hf2.mod hmg2 (fun h => h) (fun _ _ h => h)
      have hsw2 : w.heap.size ≤ we.heap.size := hm.size
      replace hm : Mod (fun _ => False) w wg := hm.trans hmg2 (fun _ _ h => h) (fun _ _ h => h)
      have hs1e : s1 ≤ we.heap.size := by omega
      generalize we.heap.size = s2 at hpflt2 hvflt hpo2 hsw2 hs1e
      clear ha hmg hmg2 hr3 hf2 hvo hpo
      go_wp2_with fail
      refine (Octets_at hoR 0 (by decide) (by decide) 0 1 [] [] (by decide) (by decide) (by decide)).mono ?_
      rintro e wh ⟨vc, v9, rfl, hoc, _, hmh, _, _⟩
      have hr5 := hr4.mod2 hmh (fun h => by omega) (fun _ g hg h => by have := hvrlt g hg; omega)
      have hf5 := hf4.mod2 hmh (fun h => by omega) (fun _ g hg h => by have := hvflt g hg; omega)
      replace hm : Mod (fun _ => False) w wh := hm.trans hmh (fun _ _ h => h) (fun i hi h => by omega)
      obtain ⟨ac, cc, rfl⟩ := hoc.shape
      clear hmh hr4 hf4 hoR hoc hvrlt hvflt hpo2 hsw2 hs1e hpflt2 hpf2 hsw hprlt
      go_wp2_with fail
      refine (Left_at hr5 2 rfl).mono ?_
      rintro e w' ⟨rfl, rfl⟩
      go_wp2_with fail
      refine (Left_at hf5 2 rfl).mono ?_
      rintro e w' ⟨rfl, rfl⟩
      clear hr5 hf5
      go_wp2_with fail
      
      go_loopw [32, 33, 34] (fun a b i wz => ∃ (k : Nat) (pa pb : Option Addr), i = .int .i64 k ∧ k ≤ 2 ∧ a = .pointer pa ∧ b = .pointer pb ∧ NoneW wz pa ∧ NoneW wz pb ∧ Mod (fun _ => False) w wz) (fun _ _ i _ => 2 - (intOf i).toNat)
      case atStart => exact ⟨0, none, none, rfl, by omega, rfl, rfl, .inl rfl, .inl rfl, hm⟩
      case round =>
        clear hm
        obtain ⟨k, pa, pb, rfl, hk, rfl, rfl, hna, hnb, hm⟩ := hrel
        by_cases hk2 : k < 2
        · go_wp2_with fail
          refine (noGet pb _ hnb).mono ?_
          rintro e w' ⟨rfl, rfl⟩
          go_wp2_with fail
          refine (noRFixed pb 0 _ hnb).mono ?_
          rintro e w' ⟨rfl, rfl⟩
          go_wp2_with fail
          refine (noROctets pb (-1) _ hnb).mono ?_
          rintro e w' ⟨rfl, rfl⟩
          go_wp2_with fail
          refine (noPut pa (-1) _ hna).mono ?_
          rintro e w' ⟨rfl, rfl⟩
          go_wp2_with fail
          refine (noFixed pa 0 0 _ hna).mono ?_
          rintro e w' ⟨rfl, rfl⟩
          go_wp2_with fail
          refine (noOctets pa _ _ hna).mono ?_
          rintro e w' ⟨rfl, rfl⟩
          go_wp2_with fail
          refine (noBytes pa _ hna).mono ?_
          rintro e w' ⟨rfl, rfl⟩
          go_wp2_with fail
          refine (noLeft pb _ hnb).mono ?_
          rintro e w' ⟨rfl, rfl⟩
          clear hna hnb
          have hz1' := heap_alloc_new w' (.cells #[.bool false, .slice none 0 0] 60)
          have hz2' := heap_alloc_new (w'.alloc (.cells #[.bool false, .slice none 0 0] 60)) (.cells #[.bool false, .slice none 0 0] 62)
          have hz3' := ((Mod.refl (fun _ => False) (w'.alloc (.cells #[.bool false, .slice none 0 0] 60))).alloc (.cells #[.bool false, .slice none 0 0] 62)).obj hz1' (fun h => h)
          have N1 : NoneW ((w'.alloc (.cells #[.bool false, .slice none 0 0] 60)).alloc (.cells #[.bool false, .slice none 0 0] 62)) (some ⟨w'.heap.size, 0, none⟩) := .inr ⟨_, rfl, by simp only [World.cell?, hz3']; rfl⟩
          have N2 : NoneW ((w'.alloc (.cells #[.bool false, .slice none 0 0] 60)).alloc (.cells #[.bool false, .slice none 0 0] 62)) (some ⟨w'.heap.size + 1, 0, none⟩) := .inr ⟨_, rfl, by
            have e : (w'.alloc (.cells #[.bool false, .slice none 0 0] 60)).heap.size = w'.heap.size + 1 := by simp
            rw [e] at hz2'
            simp only [World.cell?, hz2']; rfl⟩
          have hmz := (hm.alloc (.cells #[.bool false, .slice none 0 0] 60)).alloc (.cells #[.bool false, .slice none 0 0] 62)
          have HN1 := N1
          have HN2 := N2
          clear hz1' hz2' hz3' N1 N2 hm
          go_wp2
          go_roundw
          case rel => exact ⟨k + 1, _, _, by go_num, by omega, rfl, rfl, HN1, HN2, hmz⟩
          case measure => simp [intOf]; omega
        · go_wp2_with fail
          refine (works_any _).mono ?_
          rintro e w' ⟨rfl, hmz⟩
          go_wp2
          go_ret
          exact ⟨rfl, hm.trans hmz (fun _ _ h => h) (fun _ _ h => h)⟩

namespace wordKnown
open Go.ChangeShapes Go.WideShapes Go.ChangeAt Go.RowKit
theorem own : ownKnob Try.prog.godebug = none := by kernel_rfl
set_option maxRecDepth 100000 in
theorem lifted (os : Os) (started : os.Started) (H : Type) (enc : TypeId × Value → H) :
    ReturnsInHanded {} Try.checked os 8 .any (Rows.wordKnownSpec.pre6 enc Try.prog Try.f8 Rows.wordKnownRow.domain false) (Rows.wordKnownSpec.post enc Try.prog Try.f8 false true false false) := by
  refine returnsInHanded_of_change (C := Try.checked) own started (by kernel_rfl) Try.func8
    (ChangeSpec.witness6 (enc := enc) (C := Try.checked) false ⟨#[], #[], []⟩ 8 (by kernel_rfl) (by kernel_rfl) (by kernel_rfl) (by kernel_rfl)) ?_
  intro W base args ds gs before hval0 hW hcnd _
  have hW' := hW
  obtain ⟨p, q, hA0, hV, rfl, hfz, hnd⟩ := hW
  have hA : DataW.TrodAll enc Try.prog W 0 (fun _ => true) true Try.f8.params.toList args.toList ds p := hA0
  rw [Try.params8] at hA
  obtain ⟨hargs, rfl, rfl⟩ := trodAll_nil hA
  obtain rfl : args = #[] := by cases args; simp_all
  obtain ⟨rfl, rfl⟩ := trodVars_none hV
  clear hA0 hval0
  refine (known_walk W).mono fun e W' ⟨he, hm⟩ => ?_
  subst he
  have bel : Below W.heap.size W W' := hm.below _ (Nat.le_refl _) (fun _ h => h.elim)
  exact ⟨_, rfl, _, _, _, [], _, [], hW', trodAll_mk1 (shut_bool Try.underlying4 _), trodAll_mk0, rfl, bel.frame _, fun h => by cases h⟩

theorem over : Rows.wordKnownRow.holds Try.pinned (OpenSpec.ofChange Rows.wordKnownSpec) :=
  OpenClaim.holds_of_wide 8 Try.f8 rfl rfl rfl rfl rfl rfl rfl ⟨rfl, rfl, rfl, rfl, rfl⟩ rfl rfl rfl rfl rfl (by kernel_rfl) Try.func8 (by kernel_rfl)
    (of_decide_eq_true (by kernel_rfl)) (by unfold Func.isWrapper; first | (rw [if_pos (by decide +kernel)]; kernel_rfl) | (rw [if_neg (by decide +kernel)]; exact ⟨rfl, rfl⟩))
    (fun os started H enc _ => lifted os started H enc)
end wordKnown
theorem wordKnown_holds : Rows.WordKnownSaid := wordKnown.over
end Go.Proofs.Ytfinaabhmdnjfaa
