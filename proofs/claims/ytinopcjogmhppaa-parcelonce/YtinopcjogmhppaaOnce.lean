/- ParcelOnce: bytes that are a message, or places, are just those that it is packed into; a byte more behind them, they are none. No conditions beyond sizes that a slice of bytes has. -/
import Derived.Test.YtinopcjogmhppaaCy
import Derived.Test.YtinopcjogmhppaaCz
import Derived.Test.YtinopcjogmhppaaEn
namespace Go.Proofs.Ytinopcjogmhppaa
open Go.RowKit
set_option maxRecDepth 100000 in
set_option maxHeartbeats 4000000 in
theorem once_walk (v : Value) (B : List Int) (c : Int) (w : World) (hs : Sl w v B) (hb : B.length ≤ 140737488351232) (hc : 0 ≤ c ∧ c ≤ 255) :
    Calls Try.prog 8 #[v, .int .u8 c] w fun e w' => e = .returned (.bool true) ∧ Mod (fun _ => False) w w' := by
  obtain ⟨i0, hi, hz0, hz1, hz2⟩ := info_parts info5
  have hrng := hs.rng
  have hrng2 : ∀ x ∈ B ++ [c], 0 ≤ x ∧ x ≤ 255 := rng_app hrng (by intro x hx; simp only [List.mem_singleton] at hx; subst hx; exact hc)
  have HU := fun W h => Unpack_any v B W h (by omega)
  have HPl := fun W h => Places v B W h (by omega)
  have HU2 := fun u W h => Unpack_any u (B ++ [c]) W h (by simp; omega)
  have HP2 := fun u W h => Places u (B ++ [c]) W h (by simp; omega)
  have hbm : ∀ x ∈ (prM B).body, 0 ≤ x ∧ x ≤ 255 := fun x hx => hrng x (pr_mem B x hx)
  unfold Unp at HU HU2

  by_cases hE : unE B = 0
  · by_cases hF : plE B = 0
    · obtain ⟨hpl, hch⟩ := pl_back hrng hF
      have hpl2 := (pl_pk (plL B) [c] hch).2
      rw [hpl, if_neg (by simp)] at hpl2
      rw [hF] at HPl
      rw [hpl2] at HP2
      have HCh := fun u W h => Charts u (plL B) W h
      rw [hch, hpl] at HCh
      generalize plL B = pp at HPl HCh
      generalize plL (B ++ [c]) = p2 at HP2
      clear hpl hch hpl2 hF
      obtain ⟨hpk, hck⟩ := pk_un hrng hE
      have hun2 := (un_pk (m := prM B) [c] hck).2
      rw [hpk, if_neg (by simp)] at hun2
      rw [hE] at HU
      rw [hun2] at HU2
      have HK : ∀ ao cap W, Sl W (.slice ao (prM B).body.length cap) (prM B).body → Calls Try.prog 10 #[.agg #[.int .i64 (prM B).kind, .int .i64 (prM B).origin, .int .i64 (prM B).life, .int .i64 (prM B).id, .int .i64 (prM B).part, .int .i64 (prM B).parts, .int .i64 (prM B).groups, .bool (prM B).safe, .int .i64 (prM B).st, .int .i64 (prM B).rs, .int .i64 (prM B).rr, .int .i64 (prM B).sq, .slice ao (prM B).body.length cap]] W fun e w' => ∃ v1, e = .returned (.tuple #[v1, .int .i64 0]) ∧ Mod (fun _ => False) W w' ∧ ((0 : Int) = 0 → Own w' v1 B ∧ (∀ g, v1.ownBlock = some g → W.heap.size ≤ g)) ∧ ((0 : Int) ≠ 0 → v1 = .slice none 0 0) := by
        intro ao cap W hW
        have := Pack_any (prM B).kind (prM B).origin (prM B).life (prM B).id (prM B).part (prM B).parts (prM B).groups (prM B).safe (prM B).st (prM B).rs (prM B).rr (prM B).sq ao cap (prM B).body W hW
        rw [show Ms.mk (prM B).kind (prM B).origin (prM B).life (prM B).id (prM B).part (prM B).parts (prM B).groups (prM B).safe (prM B).st (prM B).rs (prM B).rr (prM B).sq (prM B).body = prM B from rfl, hck, hpk] at this
        exact this
      generalize prM B = mm at HU HK hbm
      clear hpk hck hun2 hE
      obtain ⟨k', o', lf', i', p', ps', g', s', st', rs', rr', sq', l'⟩ := mm
      dsimp only at HU HK hbm
      generalize prM (B ++ [c]) = m2 at HU2
      go_enter Try.func8, Try.ntmps8
      go_wp2_with (fail)
      refine (awake _).mono ?_
      rintro e w1 ⟨rfl, hm1⟩
      have hs1 := hs.mod hm1 (fun _ _ h => h)
      go_wp2_with (fail)
      refine (copy_any v B w1 hs1 (by omega)).mono ?_
      rintro e w2 ⟨y0, rfl, hy0, hm2, hf2⟩
      have hM2 := hm1.trans hm2 (V := fun _ => False) (fun _ _ h => h) (fun _ _ h => h)
      have hfy : ∀ g, y0.ownBlock = some g → w.heap.size ≤ g := fun g hg => by have := hf2 g hg; have := hm1.size; omega
      have hsz2 := hM2.size
      clear hm1 hm2 hs1 hf2
      go_wp2_with (at_builtin; refine wpList_append_lies _ rfl _ _ 26 rfl 0 5 i0 (.int .u8 0) 1 1 Try.underlying26 hi hz0 hz1 hz2 rfl (by decide) y0 B.length (U B) rfl (hy0.alloc _) ⟨w2.heap.size, 0, none⟩ 1 1 [.int .u8 c] rfl rfl (app1 _ _ _) (U_one [c]) (by omega) (by simp only [maxLen]; omega) (by omega) (Nat.zero_le _) (w2.heap.size + 1) (by simp) ?_; intro gg cap1 w3 hown1 hgrow hg hlt)
      have hy1 : Own w3 (.slice (some ⟨gg, 0, none⟩) (B.length + 1) cap1) (B ++ [c]) := by
        unfold Own
        rw [U_app]
        simpa [U] using hown1
      have hm3 : Mod (fun k => y0.ownBlock = some k) w2 w3 := ((Mod.refl _ w2).alloc _).grown hgrow (fun k hk _ => hk)
      have hM3 : Mod (fun _ => False) w w3 := hM2.trans hm3 (fun _ _ h => h) (fun q hq h => by have := hfy q h; omega)
      have hs3 := hs.mod hM3 (fun _ _ h => h)
      have hyl : (B ++ [c]).length = B.length + 1 := by simp
      clear hown1 hgrow hg hlt hy0 hM2 hfy hm3
      refine (HU _ hs3).mono ?_
      rintro e w4 ⟨k, o, lf, i, p, ps, g, s, st, rs, rr, sq, bv, rfl, hm4, hok, _⟩
      obtain ⟨he, ho4, _⟩ := hok trivial
      simp only [Ms.mk.injEq] at he
      obtain ⟨rfl, rfl, rfl, rfl, rfl, rfl, rfl, rfl, rfl, rfl, rfl, rfl, _⟩ := he
      obtain ⟨ao4, cap4, rfl⟩ := ho4.shape
      have hM4 := hM3.trans hm4 (V := fun _ => False) (fun _ _ h => h) (fun _ _ h => h)
      have hy4 := hy1.mod hm4 (fun _ _ h => h)
      have hD5 := (Mod.refl (fun _ => False) w4).alloc (.cells #[.int .i64 k, .int .i64 o, .int .i64 lf, .int .i64 i, .int .i64 p, .int .i64 ps, .int .i64 g, .bool s, .int .i64 st, .int .i64 rs, .int .i64 rr, .int .i64 sq, (.slice ao4 l'.length cap4)] 28)
      have hM5 := hM4.alloc (.cells #[.int .i64 k, .int .i64 o, .int .i64 lf, .int .i64 i, .int .i64 p, .int .i64 ps, .int .i64 g, .bool s, .int .i64 st, .int .i64 rs, .int .i64 rr, .int .i64 sq, (.slice ao4 l'.length cap4)] 28)
      have hy5 := hy4.mod hD5 (fun _ _ h => h)
      have hbs := (ho4.mod hD5 (fun _ _ h => h)).sl hbm
      clear hok hy1 hm4 hs3
      go_wp2_with (fail)
      refine (HK ao4 cap4 _ hbs).mono ?_
      rintro e w5 ⟨x5, rfl, hm5, hok5, _⟩
      obtain ⟨hx5, _⟩ := hok5 trivial
      have hM6 := hM5.trans hm5 (V := fun _ => False) (fun _ _ h => h) (fun _ _ h => h)
      have hy6 := hy5.mod hm5 (fun _ _ h => h)
      clear hok5 hy5 hy4 hD5 hM5 hm5 HK
      go_wp2_with (fail)
      refine (HU2 _ _ (hy6.sl hrng2)).mono ?_
      rintro e w6 ⟨q0, q1, q2, q3, q4, q5, q6, q7, q8, q9, q10, q11, q12, rfl, hm6, _, hno⟩
      obtain ⟨rfl, rfl, rfl, rfl, rfl, rfl, rfl, rfl, rfl, rfl, rfl, rfl, rfl⟩ := hno (by decide)
      have hD7 := (Mod.refl (fun _ => False) w6).alloc (.cells #[.int .i64 0, .int .i64 0, .int .i64 0, .int .i64 0, .int .i64 0, .int .i64 0, .int .i64 0, .bool false, .int .i64 0, .int .i64 0, .int .i64 0, .int .i64 0, (.slice none 0 0)] 28)
      have hM7 := (hM6.trans hm6 (V := fun _ => False) (fun _ _ h => h) (fun _ _ h => h)).alloc (.cells #[.int .i64 0, .int .i64 0, .int .i64 0, .int .i64 0, .int .i64 0, .int .i64 0, .int .i64 0, .bool false, .int .i64 0, .int .i64 0, .int .i64 0, .int .i64 0, (.slice none 0 0)] 28)
      have hy7 := (hy6.mod hm6 (fun _ _ h => h)).mod hD7 (fun _ _ h => h)
      have hx7 := (hx5.mod hm6 (fun _ _ h => h)).mod hD7 (fun _ _ h => h)
      clear hno hm6 hD7 hy6 hx5 HU2
      go_wp2_with (fail)
      refine (EqBytes_any x5 v B B _ (hx7.sl hrng) (hs.mod hM7 (fun _ _ h => h))).mono ?_
      rintro e w8 ⟨rfl, hm8⟩
      have hM9 := hM7.trans hm8 (V := fun _ => False) (fun _ _ h => h) (fun _ _ h => h)
      have hy9 := hy7.mod hm8 (fun _ _ h => h)
      clear hM7 hy7 hx7 hm8 hM6
      simp only [decide_true]
      go_wp2_with (fail)
      refine (HPl _ (hs.mod hM9 (fun _ _ h => h))).mono ?_
      rintro e w10 ⟨l10, rfl, hm10, _, hok10⟩
      obtain ⟨hsl, _⟩ := hok10 trivial
      have hM10 := hM9.trans hm10 (V := fun _ => False) (fun _ _ h => h) (fun _ _ h => h)
      have hy10 := hy9.mod hm10 (fun _ _ h => h)
      clear hok10 hy9 hm10 hM9
      go_wp2_with (fail)
      refine (HCh l10 _ hsl).mono ?_
      rintro e w11 ⟨x11, rfl, hm11, hok11, _⟩
      obtain ⟨hx11, _⟩ := hok11 trivial
      have hM11 := hM10.trans hm11 (V := fun _ => False) (fun _ _ h => h) (fun _ _ h => h)
      have hy11 := hy10.mod hm11 (fun _ _ h => h)
      clear hok11 hy10 hm11 hM10 hsl
      go_wp2_with (fail)
      refine (HP2 _ _ (hy11.sl hrng2)).mono ?_
      rintro e w12 ⟨l12, rfl, hm12, _, _⟩
      have hM12 := hM11.trans hm12 (V := fun _ => False) (fun _ _ h => h) (fun _ _ h => h)
      have hx12 := hx11.mod hm12 (fun _ _ h => h)
      clear hy11 hm12 hM11 hx11
      go_wp2_with (fail)
      refine (EqBytes_any x11 v B B _ (hx12.sl hrng) (hs.mod hM12 (fun _ _ h => h))).mono ?_
      rintro e w13 ⟨rfl, hm13⟩
      simp only [decide_true]
      go_wp2
      go_ret
      exact ⟨rfl, hM12.trans hm13 (V := fun _ => False) (fun _ _ h => h) (fun _ _ h => h)⟩

    · have hfn : (plE B != 0) = true := by simp [hF]
      generalize plE B = Ep at HPl hF hfn
      generalize plL B = pp at HPl
      clear HP2
      obtain ⟨hpk, hck⟩ := pk_un hrng hE
      have hun2 := (un_pk (m := prM B) [c] hck).2
      rw [hpk, if_neg (by simp)] at hun2
      rw [hE] at HU
      rw [hun2] at HU2
      have HK : ∀ ao cap W, Sl W (.slice ao (prM B).body.length cap) (prM B).body → Calls Try.prog 10 #[.agg #[.int .i64 (prM B).kind, .int .i64 (prM B).origin, .int .i64 (prM B).life, .int .i64 (prM B).id, .int .i64 (prM B).part, .int .i64 (prM B).parts, .int .i64 (prM B).groups, .bool (prM B).safe, .int .i64 (prM B).st, .int .i64 (prM B).rs, .int .i64 (prM B).rr, .int .i64 (prM B).sq, .slice ao (prM B).body.length cap]] W fun e w' => ∃ v1, e = .returned (.tuple #[v1, .int .i64 0]) ∧ Mod (fun _ => False) W w' ∧ ((0 : Int) = 0 → Own w' v1 B ∧ (∀ g, v1.ownBlock = some g → W.heap.size ≤ g)) ∧ ((0 : Int) ≠ 0 → v1 = .slice none 0 0) := by
        intro ao cap W hW
        have := Pack_any (prM B).kind (prM B).origin (prM B).life (prM B).id (prM B).part (prM B).parts (prM B).groups (prM B).safe (prM B).st (prM B).rs (prM B).rr (prM B).sq ao cap (prM B).body W hW
        rw [show Ms.mk (prM B).kind (prM B).origin (prM B).life (prM B).id (prM B).part (prM B).parts (prM B).groups (prM B).safe (prM B).st (prM B).rs (prM B).rr (prM B).sq (prM B).body = prM B from rfl, hck, hpk] at this
        exact this
      generalize prM B = mm at HU HK hbm
      clear hpk hck hun2 hE
      obtain ⟨k', o', lf', i', p', ps', g', s', st', rs', rr', sq', l'⟩ := mm
      dsimp only at HU HK hbm
      generalize prM (B ++ [c]) = m2 at HU2
      go_enter Try.func8, Try.ntmps8
      go_wp2_with (fail)
      refine (awake _).mono ?_
      rintro e w1 ⟨rfl, hm1⟩
      have hs1 := hs.mod hm1 (fun _ _ h => h)
      go_wp2_with (fail)
      refine (copy_any v B w1 hs1 (by omega)).mono ?_
      rintro e w2 ⟨y0, rfl, hy0, hm2, hf2⟩
      have hM2 := hm1.trans hm2 (V := fun _ => False) (fun _ _ h => h) (fun _ _ h => h)
      have hfy : ∀ g, y0.ownBlock = some g → w.heap.size ≤ g := fun g hg => by have := hf2 g hg; have := hm1.size; omega
      have hsz2 := hM2.size
      clear hm1 hm2 hs1 hf2
      go_wp2_with (at_builtin; refine wpList_append_lies _ rfl _ _ 26 rfl 0 5 i0 (.int .u8 0) 1 1 Try.underlying26 hi hz0 hz1 hz2 rfl (by decide) y0 B.length (U B) rfl (hy0.alloc _) ⟨w2.heap.size, 0, none⟩ 1 1 [.int .u8 c] rfl rfl (app1 _ _ _) (U_one [c]) (by omega) (by simp only [maxLen]; omega) (by omega) (Nat.zero_le _) (w2.heap.size + 1) (by simp) ?_; intro gg cap1 w3 hown1 hgrow hg hlt)
      have hy1 : Own w3 (.slice (some ⟨gg, 0, none⟩) (B.length + 1) cap1) (B ++ [c]) := by
        unfold Own
        rw [U_app]
        simpa [U] using hown1
      have hm3 : Mod (fun k => y0.ownBlock = some k) w2 w3 := ((Mod.refl _ w2).alloc _).grown hgrow (fun k hk _ => hk)
      have hM3 : Mod (fun _ => False) w w3 := hM2.trans hm3 (fun _ _ h => h) (fun q hq h => by have := hfy q h; omega)
      have hs3 := hs.mod hM3 (fun _ _ h => h)
      have hyl : (B ++ [c]).length = B.length + 1 := by simp
      clear hown1 hgrow hg hlt hy0 hM2 hfy hm3
      refine (HU _ hs3).mono ?_
      rintro e w4 ⟨k, o, lf, i, p, ps, g, s, st, rs, rr, sq, bv, rfl, hm4, hok, _⟩
      obtain ⟨he, ho4, _⟩ := hok trivial
      simp only [Ms.mk.injEq] at he
      obtain ⟨rfl, rfl, rfl, rfl, rfl, rfl, rfl, rfl, rfl, rfl, rfl, rfl, _⟩ := he
      obtain ⟨ao4, cap4, rfl⟩ := ho4.shape
      have hM4 := hM3.trans hm4 (V := fun _ => False) (fun _ _ h => h) (fun _ _ h => h)
      have hy4 := hy1.mod hm4 (fun _ _ h => h)
      have hD5 := (Mod.refl (fun _ => False) w4).alloc (.cells #[.int .i64 k, .int .i64 o, .int .i64 lf, .int .i64 i, .int .i64 p, .int .i64 ps, .int .i64 g, .bool s, .int .i64 st, .int .i64 rs, .int .i64 rr, .int .i64 sq, (.slice ao4 l'.length cap4)] 28)
      have hM5 := hM4.alloc (.cells #[.int .i64 k, .int .i64 o, .int .i64 lf, .int .i64 i, .int .i64 p, .int .i64 ps, .int .i64 g, .bool s, .int .i64 st, .int .i64 rs, .int .i64 rr, .int .i64 sq, (.slice ao4 l'.length cap4)] 28)
      have hy5 := hy4.mod hD5 (fun _ _ h => h)
      have hbs := (ho4.mod hD5 (fun _ _ h => h)).sl hbm
      clear hok hy1 hm4 hs3
      go_wp2_with (fail)
      refine (HK ao4 cap4 _ hbs).mono ?_
      rintro e w5 ⟨x5, rfl, hm5, hok5, _⟩
      obtain ⟨hx5, _⟩ := hok5 trivial
      have hM6 := hM5.trans hm5 (V := fun _ => False) (fun _ _ h => h) (fun _ _ h => h)
      have hy6 := hy5.mod hm5 (fun _ _ h => h)
      clear hok5 hy5 hy4 hD5 hM5 hm5 HK
      go_wp2_with (fail)
      refine (HU2 _ _ (hy6.sl hrng2)).mono ?_
      rintro e w6 ⟨q0, q1, q2, q3, q4, q5, q6, q7, q8, q9, q10, q11, q12, rfl, hm6, _, hno⟩
      obtain ⟨rfl, rfl, rfl, rfl, rfl, rfl, rfl, rfl, rfl, rfl, rfl, rfl, rfl⟩ := hno (by decide)
      have hD7 := (Mod.refl (fun _ => False) w6).alloc (.cells #[.int .i64 0, .int .i64 0, .int .i64 0, .int .i64 0, .int .i64 0, .int .i64 0, .int .i64 0, .bool false, .int .i64 0, .int .i64 0, .int .i64 0, .int .i64 0, (.slice none 0 0)] 28)
      have hM7 := (hM6.trans hm6 (V := fun _ => False) (fun _ _ h => h) (fun _ _ h => h)).alloc (.cells #[.int .i64 0, .int .i64 0, .int .i64 0, .int .i64 0, .int .i64 0, .int .i64 0, .int .i64 0, .bool false, .int .i64 0, .int .i64 0, .int .i64 0, .int .i64 0, (.slice none 0 0)] 28)
      have hy7 := (hy6.mod hm6 (fun _ _ h => h)).mod hD7 (fun _ _ h => h)
      have hx7 := (hx5.mod hm6 (fun _ _ h => h)).mod hD7 (fun _ _ h => h)
      clear hno hm6 hD7 hy6 hx5 HU2
      go_wp2_with (fail)
      refine (EqBytes_any x5 v B B _ (hx7.sl hrng) (hs.mod hM7 (fun _ _ h => h))).mono ?_
      rintro e w8 ⟨rfl, hm8⟩
      have hM9 := hM7.trans hm8 (V := fun _ => False) (fun _ _ h => h) (fun _ _ h => h)
      have hy9 := hy7.mod hm8 (fun _ _ h => h)
      clear hM7 hy7 hx7 hm8 hM6
      simp only [decide_true]
      go_wp2_with (fail)
      refine (HPl _ (hs.mod hM9 (fun _ _ h => h))).mono ?_
      rintro e w10 ⟨l10, rfl, hm10, hnil, _⟩
      obtain rfl := hnil hF
      have hM10 := hM9.trans hm10 (V := fun _ => False) (fun _ _ h => h) (fun _ _ h => h)
      clear hnil
      go_wp2
      go_ret
      exact ⟨rfl, hM10⟩

  · by_cases hF : plE B = 0
    · obtain ⟨hpl, hch⟩ := pl_back hrng hF
      have hpl2 := (pl_pk (plL B) [c] hch).2
      rw [hpl, if_neg (by simp)] at hpl2
      rw [hF] at HPl
      rw [hpl2] at HP2
      have HCh := fun u W h => Charts u (plL B) W h
      rw [hch, hpl] at HCh
      generalize plL B = pp at HPl HCh
      generalize plL (B ++ [c]) = p2 at HP2
      clear hpl hch hpl2 hF
      have hen : (unE B == 0) = false := by simp [hE]
      generalize unE B = E at HU hE hen
      clear HU2
      generalize prM B = mm at HU
      go_enter Try.func8, Try.ntmps8
      go_wp2_with (fail)
      refine (awake _).mono ?_
      rintro e w1 ⟨rfl, hm1⟩
      have hs1 := hs.mod hm1 (fun _ _ h => h)
      go_wp2_with (fail)
      refine (copy_any v B w1 hs1 (by omega)).mono ?_
      rintro e w2 ⟨y0, rfl, hy0, hm2, hf2⟩
      have hM2 := hm1.trans hm2 (V := fun _ => False) (fun _ _ h => h) (fun _ _ h => h)
      have hfy : ∀ g, y0.ownBlock = some g → w.heap.size ≤ g := fun g hg => by have := hf2 g hg; have := hm1.size; omega
      have hsz2 := hM2.size
      clear hm1 hm2 hs1 hf2
      go_wp2_with (at_builtin; refine wpList_append_lies _ rfl _ _ 26 rfl 0 5 i0 (.int .u8 0) 1 1 Try.underlying26 hi hz0 hz1 hz2 rfl (by decide) y0 B.length (U B) rfl (hy0.alloc _) ⟨w2.heap.size, 0, none⟩ 1 1 [.int .u8 c] rfl rfl (app1 _ _ _) (U_one [c]) (by omega) (by simp only [maxLen]; omega) (by omega) (Nat.zero_le _) (w2.heap.size + 1) (by simp) ?_; intro gg cap1 w3 hown1 hgrow hg hlt)
      have hy1 : Own w3 (.slice (some ⟨gg, 0, none⟩) (B.length + 1) cap1) (B ++ [c]) := by
        unfold Own
        rw [U_app]
        simpa [U] using hown1
      have hm3 : Mod (fun k => y0.ownBlock = some k) w2 w3 := ((Mod.refl _ w2).alloc _).grown hgrow (fun k hk _ => hk)
      have hM3 : Mod (fun _ => False) w w3 := hM2.trans hm3 (fun _ _ h => h) (fun q hq h => by have := hfy q h; omega)
      have hs3 := hs.mod hM3 (fun _ _ h => h)
      have hyl : (B ++ [c]).length = B.length + 1 := by simp
      clear hown1 hgrow hg hlt hy0 hM2 hfy hm3
      refine (HU _ hs3).mono ?_
      rintro e w4 ⟨q0, q1, q2, q3, q4, q5, q6, q7, q8, q9, q10, q11, q12, rfl, hm4, _, hno⟩
      obtain ⟨rfl, rfl, rfl, rfl, rfl, rfl, rfl, rfl, rfl, rfl, rfl, rfl, rfl⟩ := hno hE
      have hD9 := (Mod.refl (fun _ => False) w4).alloc (.cells #[.int .i64 0, .int .i64 0, .int .i64 0, .int .i64 0, .int .i64 0, .int .i64 0, .int .i64 0, .bool false, .int .i64 0, .int .i64 0, .int .i64 0, .int .i64 0, (.slice none 0 0)] 28)
      have hM9 := (hM3.trans hm4 (V := fun _ => False) (fun _ _ h => h) (fun _ _ h => h)).alloc (.cells #[.int .i64 0, .int .i64 0, .int .i64 0, .int .i64 0, .int .i64 0, .int .i64 0, .int .i64 0, .bool false, .int .i64 0, .int .i64 0, .int .i64 0, .int .i64 0, (.slice none 0 0)] 28)
      have hy9 := (hy1.mod hm4 (fun _ _ h => h)).mod hD9 (fun _ _ h => h)
      clear hno hm4 hD9 hy1 hs3
      go_wp2_with (fail)
      refine (HPl _ (hs.mod hM9 (fun _ _ h => h))).mono ?_
      rintro e w10 ⟨l10, rfl, hm10, _, hok10⟩
      obtain ⟨hsl, _⟩ := hok10 trivial
      have hM10 := hM9.trans hm10 (V := fun _ => False) (fun _ _ h => h) (fun _ _ h => h)
      have hy10 := hy9.mod hm10 (fun _ _ h => h)
      clear hok10 hy9 hm10 hM9
      go_wp2_with (fail)
      refine (HCh l10 _ hsl).mono ?_
      rintro e w11 ⟨x11, rfl, hm11, hok11, _⟩
      obtain ⟨hx11, _⟩ := hok11 trivial
      have hM11 := hM10.trans hm11 (V := fun _ => False) (fun _ _ h => h) (fun _ _ h => h)
      have hy11 := hy10.mod hm11 (fun _ _ h => h)
      clear hok11 hy10 hm11 hM10 hsl
      go_wp2_with (fail)
      refine (HP2 _ _ (hy11.sl hrng2)).mono ?_
      rintro e w12 ⟨l12, rfl, hm12, _, _⟩
      have hM12 := hM11.trans hm12 (V := fun _ => False) (fun _ _ h => h) (fun _ _ h => h)
      have hx12 := hx11.mod hm12 (fun _ _ h => h)
      clear hy11 hm12 hM11 hx11
      go_wp2_with (fail)
      refine (EqBytes_any x11 v B B _ (hx12.sl hrng) (hs.mod hM12 (fun _ _ h => h))).mono ?_
      rintro e w13 ⟨rfl, hm13⟩
      simp only [decide_true]
      go_wp2
      go_ret
      exact ⟨rfl, hM12.trans hm13 (V := fun _ => False) (fun _ _ h => h) (fun _ _ h => h)⟩

    · have hfn : (plE B != 0) = true := by simp [hF]
      generalize plE B = Ep at HPl hF hfn
      generalize plL B = pp at HPl
      clear HP2
      have hen : (unE B == 0) = false := by simp [hE]
      generalize unE B = E at HU hE hen
      clear HU2
      generalize prM B = mm at HU
      go_enter Try.func8, Try.ntmps8
      go_wp2_with (fail)
      refine (awake _).mono ?_
      rintro e w1 ⟨rfl, hm1⟩
      have hs1 := hs.mod hm1 (fun _ _ h => h)
      go_wp2_with (fail)
      refine (copy_any v B w1 hs1 (by omega)).mono ?_
      rintro e w2 ⟨y0, rfl, hy0, hm2, hf2⟩
      have hM2 := hm1.trans hm2 (V := fun _ => False) (fun _ _ h => h) (fun _ _ h => h)
      have hfy : ∀ g, y0.ownBlock = some g → w.heap.size ≤ g := fun g hg => by have := hf2 g hg; have := hm1.size; omega
      have hsz2 := hM2.size
      clear hm1 hm2 hs1 hf2
      go_wp2_with (at_builtin; refine wpList_append_lies _ rfl _ _ 26 rfl 0 5 i0 (.int .u8 0) 1 1 Try.underlying26 hi hz0 hz1 hz2 rfl (by decide) y0 B.length (U B) rfl (hy0.alloc _) ⟨w2.heap.size, 0, none⟩ 1 1 [.int .u8 c] rfl rfl (app1 _ _ _) (U_one [c]) (by omega) (by simp only [maxLen]; omega) (by omega) (Nat.zero_le _) (w2.heap.size + 1) (by simp) ?_; intro gg cap1 w3 hown1 hgrow hg hlt)
      have hy1 : Own w3 (.slice (some ⟨gg, 0, none⟩) (B.length + 1) cap1) (B ++ [c]) := by
        unfold Own
        rw [U_app]
        simpa [U] using hown1
      have hm3 : Mod (fun k => y0.ownBlock = some k) w2 w3 := ((Mod.refl _ w2).alloc _).grown hgrow (fun k hk _ => hk)
      have hM3 : Mod (fun _ => False) w w3 := hM2.trans hm3 (fun _ _ h => h) (fun q hq h => by have := hfy q h; omega)
      have hs3 := hs.mod hM3 (fun _ _ h => h)
      have hyl : (B ++ [c]).length = B.length + 1 := by simp
      clear hown1 hgrow hg hlt hy0 hM2 hfy hm3
      refine (HU _ hs3).mono ?_
      rintro e w4 ⟨q0, q1, q2, q3, q4, q5, q6, q7, q8, q9, q10, q11, q12, rfl, hm4, _, hno⟩
      obtain ⟨rfl, rfl, rfl, rfl, rfl, rfl, rfl, rfl, rfl, rfl, rfl, rfl, rfl⟩ := hno hE
      have hD9 := (Mod.refl (fun _ => False) w4).alloc (.cells #[.int .i64 0, .int .i64 0, .int .i64 0, .int .i64 0, .int .i64 0, .int .i64 0, .int .i64 0, .bool false, .int .i64 0, .int .i64 0, .int .i64 0, .int .i64 0, (.slice none 0 0)] 28)
      have hM9 := (hM3.trans hm4 (V := fun _ => False) (fun _ _ h => h) (fun _ _ h => h)).alloc (.cells #[.int .i64 0, .int .i64 0, .int .i64 0, .int .i64 0, .int .i64 0, .int .i64 0, .int .i64 0, .bool false, .int .i64 0, .int .i64 0, .int .i64 0, .int .i64 0, (.slice none 0 0)] 28)
      have hy9 := (hy1.mod hm4 (fun _ _ h => h)).mod hD9 (fun _ _ h => h)
      clear hno hm4 hD9 hy1 hs3
      go_wp2_with (fail)
      refine (HPl _ (hs.mod hM9 (fun _ _ h => h))).mono ?_
      rintro e w10 ⟨l10, rfl, hm10, hnil, _⟩
      obtain rfl := hnil hF
      have hM10 := hM9.trans hm10 (V := fun _ => False) (fun _ _ h => h) (fun _ _ h => h)
      clear hnil
      go_wp2
      go_ret
      exact ⟨rfl, hM10⟩

namespace parcelOnce
open Go.ChangeShapes Go.WideShapes Go.ChangeAt Go.RowKit
set_option maxRecDepth 100000 in
theorem lifted (os : Os) (started : os.Started) (H : Type) (enc : TypeId × Value → H) :
    ReturnsInHanded {} Try.checked os 8 .any (Rows.parcelOnceSpec.pre6 enc Try.prog Try.f8 Rows.parcelOnceRow.domain false) (Rows.parcelOnceSpec.post enc Try.prog Try.f8 false true false false) := by
  refine returnsInHanded_of_change_sized (C := Try.checked) own started (by kernel_rfl) Try.func8
    (ChangeSpec.witness6 (enc := enc) (C := Try.checked) false ⟨#[], #[.slice none 0 0, .int .u8 0], []⟩ 8 (by kernel_rfl) (by kernel_rfl) (by kernel_rfl) (by kernel_rfl)) ?_
  intro W base args ds gs before hval0 hW hcnd hsz0 _
  have hval : ∀ (j : Nat) t v, Try.f8.params[j]? = some t → args[j]? = some v → Value.okWide Try.prog W .any base t v := hval0
  have hsz : (DataW.weightsEach Try.prog (Try.f8.params.toList ++ Rows.parcelOnceSpec.plain.varTypes Try.prog) (ds ++ gs)).all (· ≤ reachBytes) = true := hsz0
  have hW' := hW
  obtain ⟨p, q, hA0, hV, rfl, hfz, hnd⟩ := hW
  have hA : DataW.TrodAll enc Try.prog W 0 (fun _ => true) true Try.f8.params.toList args.toList ds p := hA0
  rw [Try.params8] at hA hval hsz
  obtain ⟨v0, vs0, d0, ds0, p0, q0, hargs, rfl, rfl, h0, r0⟩ := trodAll_cons hA
  obtain ⟨v1, vs1, d1, ds1, p1, q1, rfl, rfl, rfl, h1, r1⟩ := trodAll_cons r0
  obtain ⟨rfl, rfl, rfl⟩ := trodAll_nil r1
  obtain rfl : args = #[v0, v1] := by cases args; simp_all
  obtain ⟨rfl, rfl⟩ := trodVars_none hV
  have hs0 := okWide_slice Try.underlying26 (hval 0 26 v0 rfl rfl)
  have k0 := h0
  have lt0 : ∀ x ∈ p0, x.block < W.heap.size := by obtain ⟨m, hm⟩ := k0; exact DataW.trod_lt m _ _ _ hm
  obtain ⟨B0, hB0, hBl0⟩ : ∃ B, Sl W v0 B ∧ B.length ≤ 140737488351232 := by
    obtain ⟨ao, len, cap, rfl⟩ := hs0
    obtain ⟨fuel, hf⟩ := h0
    obtain ⟨B, hB, hx⟩ := sl_of_trod (c := .slice ao len cap) (by simpa [Value.cells] using hf)
    refine ⟨B, hB, ?_⟩
    simp only at hx
    rcases hx with ⟨rfl, rfl⟩ | ⟨e, s, rfl, hlen⟩
    · simp
    · have := sized_slice hsz (j := 0) (t := 26) (e := 5) rfl rfl Try.underlying26
      rw [bytes5] at this
      simp only [reachBytes] at this
      omega
  have k1 := h1
  have lt1 : ∀ x ∈ p1, x.block < W.heap.size := by obtain ⟨m, hm⟩ := k1; exact DataW.trod_lt m _ _ _ hm
  obtain ⟨a1, rfl, rfl, rfl, w1⟩ := open_int Try.underlying5 (hval 1 5 v1 rfl rfl) h1
  have hc1 := bounds_u8 w1
  clear hA0 hval0
  refine (once_walk v0 B0 a1 W hB0 hBl0 (by omega)).mono fun e W' ⟨he, hm⟩ => ?_
  subst he
  have bel : Below W.heap.size W W' := hm.below _ (Nat.le_refl _) (fun _ h => h.elim)
  exact ⟨_, rfl, _, _, _, [], _, [], hW', trodAll_mk1 (shut_bool Try.underlying4 _), (trodAll_cons_mk (Below.trod laidOut (by kernel_rfl) (of_decide_eq_true (by kernel_rfl)) k0 bel lt0) (trodAll_cons_mk (Below.trod laidOut (by kernel_rfl) (of_decide_eq_true (by kernel_rfl)) k1 bel lt1) trodAll_mk0)), rfl, bel.frame _, fun h => by cases h⟩

theorem over : Rows.parcelOnceRow.holds Try.pinned (OpenSpec.ofChange Rows.parcelOnceSpec) :=
  OpenClaim.holds_of_wide 8 Try.f8 rfl rfl rfl rfl rfl rfl rfl ⟨rfl, rfl, rfl, rfl, rfl⟩ rfl rfl rfl rfl rfl (by kernel_rfl) Try.func8 (by kernel_rfl)
    (of_decide_eq_true (by kernel_rfl)) (by unfold Func.isWrapper; first | (rw [if_pos (by decide +kernel)]; kernel_rfl) | (rw [if_neg (by decide +kernel)]; exact ⟨rfl, rfl⟩))
    (fun os started H enc _ => lifted os started H enc)
end parcelOnce
theorem parcelOnce_holds : Rows.ParcelOnceSaid := parcelOnce.over

end Go.Proofs.Ytinopcjogmhppaa
