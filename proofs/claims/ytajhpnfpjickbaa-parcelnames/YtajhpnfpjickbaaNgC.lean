/- ParcelCharts: the body of places, or why there is none, is the document's. No conditions beyond sizes that a slice has. -/
import Derived.Test.YtajhpnfpjickbaaCy
import Derived.Test.YtajhpnfpjickbaaEn
import Derived.Test.YtajhpnfpjickbaaCz
import Derived.Test.YtajhpnfpjickbaaRd
import Derived.Test.YtajhpnfpjickbaaRs
import Derived.Maps.AppendAt
namespace Go.Proofs.Ytajhpnfpjickbaa
open Go.RowKit
set_option maxRecDepth 100000 in
set_option maxHeartbeats 2000000 in
theorem back_walk (k o lf i p ps g : Int) (s : Bool) (st rs rr sq : Int) (ao : Option Addr) (cap : Nat) (l : List Int) (w : World) (hs : Sl w (.slice ao l.length cap) l) :
    Calls Try.prog 36 #[.agg #[.int .i64 k, .int .i64 o, .int .i64 lf, .int .i64 i, .int .i64 p, .int .i64 ps, .int .i64 g, .bool s, .int .i64 st, .int .i64 rs, .int .i64 rr, .int .i64 sq, .slice ao l.length cap]] w fun e w' => e = .returned (.bool true) ∧ Mod (fun _ => False) w w' := by
  have HC := fun W h => Check_any k o lf i p ps g s st rs rr sq ao cap l W h
  have HP := fun W h => Pack_any k o lf i p ps g s st rs rr sq ao cap l W h
  have hm0 := MB.new w k o lf i p ps g s st rs rr sq (.slice ao l.length cap)
  have hA := (Mod.refl (fun _ => False) w).alloc (.cells #[.int .i64 k, .int .i64 o, .int .i64 lf, .int .i64 i, .int .i64 p, .int .i64 ps, .int .i64 g, .bool s, .int .i64 st, .int .i64 rs, .int .i64 rr, .int .i64 sq, (.slice ao l.length cap)] 28)
  have hrb := hs.rng
  by_cases hc : chk ⟨k, o, lf, i, p, ps, g, s, st, rs, rr, sq, l⟩ = 0
  case neg =>
    generalize chk ⟨k, o, lf, i, p, ps, g, s, st, rs, rr, sq, l⟩ = E at HC HP hc
    have hen : (E != 0) = true := by simp [hc]
    go_enter Try.func36, Try.ntmps36
    go_wp2_with (fail)
    refine (awake _).mono ?_
    rintro e w1 ⟨rfl, hm1⟩
    have hA1 := hA.trans hm1 (V := fun _ => False) (fun _ _ h => h) (fun _ _ h => h)
    have hb1 := hm0.mod hm1 (fun h => h)
    obtain ⟨a0, a1, a2, a3, a4, a5, a6, a7, a8, a9, a10, a11, a12⟩ := hb1.cells
    go_wp2_with (fail)
    refine (HP _ (hs.mod hA1 (fun _ _ h => h))).mono ?_
    rintro e w2 ⟨v1, rfl, hm2, _, hnil⟩
    obtain rfl := hnil hc
    have hA2 := hA1.trans hm2 (V := fun _ => False) (fun _ _ h => h) (fun _ _ h => h)
    have hb2 := hb1.mod hm2 (fun h => h)
    clear a0 a1 a2 a3 a4 a5 a6 a7 a8 a9 a10 a11 a12
    obtain ⟨a0, a1, a2, a3, a4, a5, a6, a7, a8, a9, a10, a11, a12⟩ := hb2.cells
    go_wp2_with (fail)
    refine (HC _ (hs.mod hA2 (fun _ _ h => h))).mono ?_
    rintro e w3 ⟨rfl, hm3⟩
    have hA3 := hA2.trans hm3 (V := fun _ => False) (fun _ _ h => h) (fun _ _ h => h)
    go_wp2
    go_ret
    exact ⟨by simp, hA3⟩
  case pos =>
    obtain ⟨u1, u2⟩ := un_pk0 hc
    have hr := pk_rng ⟨k, o, lf, i, p, ps, g, s, st, rs, rr, sq, l⟩ hrb
    have hlen := pk_len ⟨k, o, lf, i, p, ps, g, s, st, rs, rr, sq, l⟩
    have hl := (chk_parts hc).1
    dsimp only at hl hlen
    rw [hc] at HC HP
    have HU := fun v W h => Unpack_any v (pk ⟨k, o, lf, i, p, ps, g, s, st, rs, rr, sq, l⟩) W h (by omega)
    unfold Unp at HU
    rw [u1, u2] at HU
    dsimp only at HU
    generalize pk ⟨k, o, lf, i, p, ps, g, s, st, rs, rr, sq, l⟩ = B at HP HU hr hlen
    clear hc u1 u2
    go_enter Try.func36, Try.ntmps36
    go_wp2_with (fail)
    refine (awake _).mono ?_
    rintro e w1 ⟨rfl, hm1⟩
    have hA1 := hA.trans hm1 (V := fun _ => False) (fun _ _ h => h) (fun _ _ h => h)
    have hb1 := hm0.mod hm1 (fun h => h)
    obtain ⟨a0, a1, a2, a3, a4, a5, a6, a7, a8, a9, a10, a11, a12⟩ := hb1.cells
    go_wp2_with (fail)
    refine (HP _ (hs.mod hA1 (fun _ _ h => h))).mono ?_
    rintro e w2 ⟨v1, rfl, hm2, hok, _⟩
    obtain ⟨ho, _⟩ := hok trivial
    have hA2 := hA1.trans hm2 (V := fun _ => False) (fun _ _ h => h) (fun _ _ h => h)
    have hb2 := hb1.mod hm2 (fun h => h)
    clear a0 a1 a2 a3 a4 a5 a6 a7 a8 a9 a10 a11 a12 hok HP
    go_wp2_with (fail)
    refine (HU _ _ (ho.sl hr)).mono ?_
    rintro e w3 ⟨k', o', lf', i', p', ps', g', s', st', rs', rr', sq', bv', rfl, hm3, hok3, _⟩
    obtain ⟨he, ho3, _⟩ := hok3 trivial
    simp only [Ms.mk.injEq] at he
    obtain ⟨rfl, rfl, rfl, rfl, rfl, rfl, rfl, rfl, rfl, rfl, rfl, rfl, _⟩ := he
    obtain ⟨ao3, cap3, rfl⟩ := ho3.shape
    have hA3 := hA2.trans hm3 (V := fun _ => False) (fun _ _ h => h) (fun _ _ h => h)
    have hb3 := hb2.mod hm3 (fun h => h)
    have hD := (Mod.refl (fun _ => False) w3).alloc (.cells #[.int .i64 k', .int .i64 o', .int .i64 lf', .int .i64 i', .int .i64 p', .int .i64 ps', .int .i64 g', .bool s', .int .i64 st', .int .i64 rs', .int .i64 rr', .int .i64 sq', (.slice ao3 l.length cap3)] 28)
    have hn4 := MB.new w3 k' o' lf' i' p' ps' g' s' st' rs' rr' sq' (.slice ao3 l.length cap3)
    have ho4 := (ho3.mod hD (fun _ _ h => h)).sl hrb
    have hb4 := hb3.mod hD (fun h => h)
    have hA4 := hA3.alloc (.cells #[.int .i64 k', .int .i64 o', .int .i64 lf', .int .i64 i', .int .i64 p', .int .i64 ps', .int .i64 g', .bool s', .int .i64 st', .int .i64 rs', .int .i64 rr', .int .i64 sq', (.slice ao3 l.length cap3)] 28)
    obtain ⟨a0, a1, a2, a3, a4, a5, a6, a7, a8, a9, a10, a11, a12⟩ := hb4.cells
    clear hok3 HU
    go_wp2_with (fail)
    refine (HC _ (hs.mod hA4 (fun _ _ h => h))).mono ?_
    rintro e w5 ⟨rfl, hm5⟩
    have hA5 := hA4.trans hm5 (V := fun _ => False) (fun _ _ h => h) (fun _ _ h => h)
    have ho5 := ho4.mod hm5 (fun _ _ h => h)
    clear a0 a1 a2 a3 a4 a5 a6 a7 a8 a9 a10 a11 a12
    obtain ⟨a0, a1, a2, a3, a4, a5, a6, a7, a8, a9, a10, a11, a12⟩ := (hb4.mod hm5 (fun h => h)).cells
    obtain ⟨b0, b1, b2, b3, b4, b5, b6, b7, b8, b9, b10, b11, b12⟩ := (hn4.mod hm5 (fun h => h)).cells
    go_wp2_with (fail)
    refine (same_eq k' o' lf' i' p' ps' g' s' st' rs' rr' sq' ao3 ao cap3 cap l w5 ho5 (hs.mod hA5 (fun _ _ h => h))).mono ?_
    rintro e w6 ⟨rfl, hm6⟩
    have hA6 := hA5.trans hm6 (V := fun _ => False) (fun _ _ h => h) (fun _ _ h => h)
    go_wp2
    go_ret
    exact ⟨by simp, hA6⟩
end Go.Proofs.Ytajhpnfpjickbaa
namespace Go.Proofs.Ytajhpnfpjickbaa
open Go.RowKit
set_option maxRecDepth 100000 in
set_option maxHeartbeats 4000000 in
theorem once_walk (v : Value) (B : List Int) (c : Int) (w : World) (hs : Sl w v B) (hb : B.length ≤ 140737488351232) (hc : 0 ≤ c ∧ c ≤ 255) :
    Calls Try.prog 38 #[v, .int .u8 c] w fun e w' => e = .returned (.bool true) ∧ Mod (fun _ => False) w w' := by
  obtain ⟨i0, hi, hz0, hz1, hz2⟩ := info_parts info5
  have hrng := hs.rng
  have hrng2 : ∀ x ∈ B ++ [c], 0 ≤ x ∧ x ≤ 255 := rng_app hrng (by intro x hx; simp only [List.mem_singleton] at hx; subst hx; exact hc)
  have HU := fun W h => Unpack_any v B W h (by omega)
  have HPl := fun W h => Places v B W h (by omega)
  have HU2 := fun u W h => Unpack_any u (B ++ [c]) W h (by simp; omega)
  have HP2 := fun u W h => Places u (B ++ [c]) W h (by simp; omega)
  have hbm : ∀ x ∈ (prM B).body, 0 ≤ x ∧ x ≤ 255 := fun x hx => hrng x (pr_mem B x hx)
  unfold Unp at HU HU2

  by_cases hE : unE B = 0
  · by_cases hF : plE B = 0
    · obtain ⟨hpl, hch⟩ := pl_back hrng hF
      have hpl2 := (pl_pk (plL B) [c] hch).2
      rw [hpl, if_neg (by simp)] at hpl2
      rw [hF] at HPl
      rw [hpl2] at HP2
      have HCh := fun u W h => Charts u (plL B) W h
      rw [hch, hpl] at HCh
      generalize plL B = pp at HPl HCh
      generalize plL (B ++ [c]) = p2 at HP2
      clear hpl hch hpl2 hF
      obtain ⟨hpk, hck⟩ := pk_un hrng hE
      have hun2 := (un_pk (m := prM B) [c] hck).2
      rw [hpk, if_neg (by simp)] at hun2
      rw [hE] at HU
      rw [hun2] at HU2
      have HK : ∀ ao cap W, Sl W (.slice ao (prM B).body.length cap) (prM B).body → Calls Try.prog 13 #[.agg #[.int .i64 (prM B).kind, .int .i64 (prM B).origin, .int .i64 (prM B).life, .int .i64 (prM B).id, .int .i64 (prM B).part, .int .i64 (prM B).parts, .int .i64 (prM B).groups, .bool (prM B).safe, .int .i64 (prM B).st, .int .i64 (prM B).rs, .int .i64 (prM B).rr, .int .i64 (prM B).sq, .slice ao (prM B).body.length cap]] W fun e w' => ∃ v1, e = .returned (.tuple #[v1, .int .i64 0]) ∧ Mod (fun _ => False) W w' ∧ ((0 : Int) = 0 → Own w' v1 B ∧ (∀ g, v1.ownBlock = some g → W.heap.size ≤ g)) ∧ ((0 : Int) ≠ 0 → v1 = .slice none 0 0) := by
        intro ao cap W hW
        have := Pack_any (prM B).kind (prM B).origin (prM B).life (prM B).id (prM B).part (prM B).parts (prM B).groups (prM B).safe (prM B).st (prM B).rs (prM B).rr (prM B).sq ao cap (prM B).body W hW
        rw [show Ms.mk (prM B).kind (prM B).origin (prM B).life (prM B).id (prM B).part (prM B).parts (prM B).groups (prM B).safe (prM B).st (prM B).rs (prM B).rr (prM B).sq (prM B).body = prM B from rfl, hck, hpk] at this
        exact this
      generalize prM B = mm at HU HK hbm
      clear hpk hck hun2 hE
      obtain ⟨k', o', lf', i', p', ps', g', s', st', rs', rr', sq', l'⟩ := mm
      dsimp only at HU HK hbm
      generalize prM (B ++ [c]) = m2 at HU2
      go_enter Try.func38, Try.ntmps38
      go_wp2_with (fail)
      refine (awake _).mono ?_
      rintro e w1 ⟨rfl, hm1⟩
      have hs1 := hs.mod hm1 (fun _ _ h => h)
      go_wp2_with (fail)
      refine (copy_any v B w1 hs1 (by omega)).mono ?_
      rintro e w2 ⟨y0, rfl, hy0, hm2, hf2⟩
      have hM2 := hm1.trans hm2 (V := fun _ => False) (fun _ _ h => h) (fun _ _ h => h)
      have hfy : ∀ g, y0.ownBlock = some g → w.heap.size ≤ g := fun g hg => by have := hf2 g hg; have := hm1.size; omega
      have hsz2 := hM2.size
      clear hm1 hm2 hs1 hf2
      go_wp2_with (at_builtin; refine wpList_append_lies _ rfl _ _ 26 rfl 0 5 i0 (.int .u8 0) 1 1 Try.underlying26 hi hz0 hz1 hz2 rfl (by decide) y0 B.length (U B) rfl (hy0.alloc _) ⟨w2.heap.size, 0, none⟩ 1 1 [.int .u8 c] rfl rfl (app1 _ _ _) (U_one [c]) (by omega) (by simp only [maxLen]; omega) (by omega) (Nat.zero_le _) (w2.heap.size + 1) (by simp) ?_; intro gg cap1 w3 hown1 hgrow hg hlt)
      have hy1 : Own w3 (.slice (some ⟨gg, 0, none⟩) (B.length + 1) cap1) (B ++ [c]) := by
        unfold Own
        rw [U_app]
        simpa [U] using hown1
      have hm3 : Mod (fun k => y0.ownBlock = some k) w2 w3 := ((Mod.refl _ w2).alloc _).grown hgrow (fun k hk _ => hk)
      have hM3 : Mod (fun _ => False) w w3 := hM2.trans hm3 (fun _ _ h => h) (fun q hq h => by have := hfy q h; omega)
      have hs3 := hs.mod hM3 (fun _ _ h => h)
      have hyl : (B ++ [c]).length = B.length + 1 := by simp
      clear hown1 hgrow hg hlt hy0 hM2 hfy hm3
      refine (HU _ hs3).mono ?_
      rintro e w4 ⟨k, o, lf, i, p, ps, g, s, st, rs, rr, sq, bv, rfl, hm4, hok, _⟩
      obtain ⟨he, ho4, _⟩ := hok trivial
      simp only [Ms.mk.injEq] at he
      obtain ⟨rfl, rfl, rfl, rfl, rfl, rfl, rfl, rfl, rfl, rfl, rfl, rfl, _⟩ := he
      obtain ⟨ao4, cap4, rfl⟩ := ho4.shape
      have hM4 := hM3.trans hm4 (V := fun _ => False) (fun _ _ h => h) (fun _ _ h => h)
      have hy4 := hy1.mod hm4 (fun _ _ h => h)
      have hD5 := (Mod.refl (fun _ => False) w4).alloc (.cells #[.int .i64 k, .int .i64 o, .int .i64 lf, .int .i64 i, .int .i64 p, .int .i64 ps, .int .i64 g, .bool s, .int .i64 st, .int .i64 rs, .int .i64 rr, .int .i64 sq, (.slice ao4 l'.length cap4)] 28)
      have hM5 := hM4.alloc (.cells #[.int .i64 k, .int .i64 o, .int .i64 lf, .int .i64 i, .int .i64 p, .int .i64 ps, .int .i64 g, .bool s, .int .i64 st, .int .i64 rs, .int .i64 rr, .int .i64 sq, (.slice ao4 l'.length cap4)] 28)
      have hy5 := hy4.mod hD5 (fun _ _ h => h)
      have hbs := (ho4.mod hD5 (fun _ _ h => h)).sl hbm
      clear hok hy1 hm4 hs3
      go_wp2_with (fail)
      refine (HK ao4 cap4 _ hbs).mono ?_
      rintro e w5 ⟨x5, rfl, hm5, hok5, _⟩
      obtain ⟨hx5, _⟩ := hok5 trivial
      have hM6 := hM5.trans hm5 (V := fun _ => False) (fun _ _ h => h) (fun _ _ h => h)
      have hy6 := hy5.mod hm5 (fun _ _ h => h)
      clear hok5 hy5 hy4 hD5 hM5 hm5 HK
      go_wp2_with (fail)
      refine (HU2 _ _ (hy6.sl hrng2)).mono ?_
      rintro e w6 ⟨q0, q1, q2, q3, q4, q5, q6, q7, q8, q9, q10, q11, q12, rfl, hm6, _, hno⟩
      obtain ⟨rfl, rfl, rfl, rfl, rfl, rfl, rfl, rfl, rfl, rfl, rfl, rfl, rfl⟩ := hno (by decide)
      have hD7 := (Mod.refl (fun _ => False) w6).alloc (.cells #[.int .i64 0, .int .i64 0, .int .i64 0, .int .i64 0, .int .i64 0, .int .i64 0, .int .i64 0, .bool false, .int .i64 0, .int .i64 0, .int .i64 0, .int .i64 0, (.slice none 0 0)] 28)
      have hM7 := (hM6.trans hm6 (V := fun _ => False) (fun _ _ h => h) (fun _ _ h => h)).alloc (.cells #[.int .i64 0, .int .i64 0, .int .i64 0, .int .i64 0, .int .i64 0, .int .i64 0, .int .i64 0, .bool false, .int .i64 0, .int .i64 0, .int .i64 0, .int .i64 0, (.slice none 0 0)] 28)
      have hy7 := (hy6.mod hm6 (fun _ _ h => h)).mod hD7 (fun _ _ h => h)
      have hx7 := (hx5.mod hm6 (fun _ _ h => h)).mod hD7 (fun _ _ h => h)
      clear hno hm6 hD7 hy6 hx5 HU2
      go_wp2_with (fail)
      refine (EqBytes_any x5 v B B _ (hx7.sl hrng) (hs.mod hM7 (fun _ _ h => h))).mono ?_
      rintro e w8 ⟨rfl, hm8⟩
      have hM9 := hM7.trans hm8 (V := fun _ => False) (fun _ _ h => h) (fun _ _ h => h)
      have hy9 := hy7.mod hm8 (fun _ _ h => h)
      clear hM7 hy7 hx7 hm8 hM6
      simp only [decide_true]
      go_wp2_with (fail)
      refine (HPl _ (hs.mod hM9 (fun _ _ h => h))).mono ?_
      rintro e w10 ⟨l10, rfl, hm10, _, hok10⟩
      obtain ⟨hsl, _⟩ := hok10 trivial
      have hM10 := hM9.trans hm10 (V := fun _ => False) (fun _ _ h => h) (fun _ _ h => h)
      have hy10 := hy9.mod hm10 (fun _ _ h => h)
      clear hok10 hy9 hm10 hM9
      go_wp2_with (fail)
      refine (HCh l10 _ hsl).mono ?_
      rintro e w11 ⟨x11, rfl, hm11, hok11, _⟩
      obtain ⟨hx11, _⟩ := hok11 trivial
      have hM11 := hM10.trans hm11 (V := fun _ => False) (fun _ _ h => h) (fun _ _ h => h)
      have hy11 := hy10.mod hm11 (fun _ _ h => h)
      clear hok11 hy10 hm11 hM10 hsl
      go_wp2_with (fail)
      refine (HP2 _ _ (hy11.sl hrng2)).mono ?_
      rintro e w12 ⟨l12, rfl, hm12, _, _⟩
      have hM12 := hM11.trans hm12 (V := fun _ => False) (fun _ _ h => h) (fun _ _ h => h)
      have hx12 := hx11.mod hm12 (fun _ _ h => h)
      clear hy11 hm12 hM11 hx11
      go_wp2_with (fail)
      refine (EqBytes_any x11 v B B _ (hx12.sl hrng) (hs.mod hM12 (fun _ _ h => h))).mono ?_
      rintro e w13 ⟨rfl, hm13⟩
      simp only [decide_true]
      go_wp2
      go_ret
      exact ⟨rfl, hM12.trans hm13 (V := fun _ => False) (fun _ _ h => h) (fun _ _ h => h)⟩

    · have hfn : (plE B != 0) = true := by simp [hF]
      generalize plE B = Ep at HPl hF hfn
      generalize plL B = pp at HPl
      clear HP2
      obtain ⟨hpk, hck⟩ := pk_un hrng hE
      have hun2 := (un_pk (m := prM B) [c] hck).2
      rw [hpk, if_neg (by simp)] at hun2
      rw [hE] at HU
      rw [hun2] at HU2
      have HK : ∀ ao cap W, Sl W (.slice ao (prM B).body.length cap) (prM B).body → Calls Try.prog 13 #[.agg #[.int .i64 (prM B).kind, .int .i64 (prM B).origin, .int .i64 (prM B).life, .int .i64 (prM B).id, .int .i64 (prM B).part, .int .i64 (prM B).parts, .int .i64 (prM B).groups, .bool (prM B).safe, .int .i64 (prM B).st, .int .i64 (prM B).rs, .int .i64 (prM B).rr, .int .i64 (prM B).sq, .slice ao (prM B).body.length cap]] W fun e w' => ∃ v1, e = .returned (.tuple #[v1, .int .i64 0]) ∧ Mod (fun _ => False) W w' ∧ ((0 : Int) = 0 → Own w' v1 B ∧ (∀ g, v1.ownBlock = some g → W.heap.size ≤ g)) ∧ ((0 : Int) ≠ 0 → v1 = .slice none 0 0) := by
        intro ao cap W hW
        have := Pack_any (prM B).kind (prM B).origin (prM B).life (prM B).id (prM B).part (prM B).parts (prM B).groups (prM B).safe (prM B).st (prM B).rs (prM B).rr (prM B).sq ao cap (prM B).body W hW
        rw [show Ms.mk (prM B).kind (prM B).origin (prM B).life (prM B).id (prM B).part (prM B).parts (prM B).groups (prM B).safe (prM B).st (prM B).rs (prM B).rr (prM B).sq (prM B).body = prM B from rfl, hck, hpk] at this
        exact this
      generalize prM B = mm at HU HK hbm
      clear hpk hck hun2 hE
      obtain ⟨k', o', lf', i', p', ps', g', s', st', rs', rr', sq', l'⟩ := mm
      dsimp only at HU HK hbm
      generalize prM (B ++ [c]) = m2 at HU2
      go_enter Try.func38, Try.ntmps38
      go_wp2_with (fail)
      refine (awake _).mono ?_
      rintro e w1 ⟨rfl, hm1⟩
      have hs1 := hs.mod hm1 (fun _ _ h => h)
      go_wp2_with (fail)
      refine (copy_any v B w1 hs1 (by omega)).mono ?_
      rintro e w2 ⟨y0, rfl, hy0, hm2, hf2⟩
      have hM2 := hm1.trans hm2 (V := fun _ => False) (fun _ _ h => h) (fun _ _ h => h)
      have hfy : ∀ g, y0.ownBlock = some g → w.heap.size ≤ g := fun g hg => by have := hf2 g hg; have := hm1.size; omega
      have hsz2 := hM2.size
      clear hm1 hm2 hs1 hf2
      go_wp2_with (at_builtin; refine wpList_append_lies _ rfl _ _ 26 rfl 0 5 i0 (.int .u8 0) 1 1 Try.underlying26 hi hz0 hz1 hz2 rfl (by decide) y0 B.length (U B) rfl (hy0.alloc _) ⟨w2.heap.size, 0, none⟩ 1 1 [.int .u8 c] rfl rfl (app1 _ _ _) (U_one [c]) (by omega) (by simp only [maxLen]; omega) (by omega) (Nat.zero_le _) (w2.heap.size + 1) (by simp) ?_; intro gg cap1 w3 hown1 hgrow hg hlt)
      have hy1 : Own w3 (.slice (some ⟨gg, 0, none⟩) (B.length + 1) cap1) (B ++ [c]) := by
        unfold Own
        rw [U_app]
        simpa [U] using hown1
      have hm3 : Mod (fun k => y0.ownBlock = some k) w2 w3 := ((Mod.refl _ w2).alloc _).grown hgrow (fun k hk _ => hk)
      have hM3 : Mod (fun _ => False) w w3 := hM2.trans hm3 (fun _ _ h => h) (fun q hq h => by have := hfy q h; omega)
      have hs3 := hs.mod hM3 (fun _ _ h => h)
      have hyl : (B ++ [c]).length = B.length + 1 := by simp
      clear hown1 hgrow hg hlt hy0 hM2 hfy hm3
      refine (HU _ hs3).mono ?_
      rintro e w4 ⟨k, o, lf, i, p, ps, g, s, st, rs, rr, sq, bv, rfl, hm4, hok, _⟩
      obtain ⟨he, ho4, _⟩ := hok trivial
      simp only [Ms.mk.injEq] at he
      obtain ⟨rfl, rfl, rfl, rfl, rfl, rfl, rfl, rfl, rfl, rfl, rfl, rfl, _⟩ := he
      obtain ⟨ao4, cap4, rfl⟩ := ho4.shape
      have hM4 := hM3.trans hm4 (V := fun _ => False) (fun _ _ h => h) (fun _ _ h => h)
      have hy4 := hy1.mod hm4 (fun _ _ h => h)
      have hD5 := (Mod.refl (fun _ => False) w4).alloc (.cells #[.int .i64 k, .int .i64 o, .int .i64 lf, .int .i64 i, .int .i64 p, .int .i64 ps, .int .i64 g, .bool s, .int .i64 st, .int .i64 rs, .int .i64 rr, .int .i64 sq, (.slice ao4 l'.length cap4)] 28)
      have hM5 := hM4.alloc (.cells #[.int .i64 k, .int .i64 o, .int .i64 lf, .int .i64 i, .int .i64 p, .int .i64 ps, .int .i64 g, .bool s, .int .i64 st, .int .i64 rs, .int .i64 rr, .int .i64 sq, (.slice ao4 l'.length cap4)] 28)
      have hy5 := hy4.mod hD5 (fun _ _ h => h)
      have hbs := (ho4.mod hD5 (fun _ _ h => h)).sl hbm
      clear hok hy1 hm4 hs3
      go_wp2_with (fail)
      refine (HK ao4 cap4 _ hbs).mono ?_
      rintro e w5 ⟨x5, rfl, hm5, hok5, _⟩
      obtain ⟨hx5, _⟩ := hok5 trivial
      have hM6 := hM5.trans hm5 (V := fun _ => False) (fun _ _ h => h) (fun _ _ h => h)
      have hy6 := hy5.mod hm5 (fun _ _ h => h)
      clear hok5 hy5 hy4 hD5 hM5 hm5 HK
      go_wp2_with (fail)
      refine (HU2 _ _ (hy6.sl hrng2)).mono ?_
      rintro e w6 ⟨q0, q1, q2, q3, q4, q5, q6, q7, q8, q9, q10, q11, q12, rfl, hm6, _, hno⟩
      obtain ⟨rfl, rfl, rfl, rfl, rfl, rfl, rfl, rfl, rfl, rfl, rfl, rfl, rfl⟩ := hno (by decide)
      have hD7 := (Mod.refl (fun _ => False) w6).alloc (.cells #[.int .i64 0, .int .i64 0, .int .i64 0, .int .i64 0, .int .i64 0, .int .i64 0, .int .i64 0, .bool false, .int .i64 0, .int .i64 0, .int .i64 0, .int .i64 0, (.slice none 0 0)] 28)
      have hM7 := (hM6.trans hm6 (V := fun _ => False) (fun _ _ h => h) (fun _ _ h => h)).alloc (.cells #[.int .i64 0, .int .i64 0, .int .i64 0, .int .i64 0, .int .i64 0, .int .i64 0, .int .i64 0, .bool false, .int .i64 0, .int .i64 0, .int .i64 0, .int .i64 0, (.slice none 0 0)] 28)
      have hy7 := (hy6.mod hm6 (fun _ _ h => h)).mod hD7 (fun _ _ h => h)
      have hx7 := (hx5.mod hm6 (fun _ _ h => h)).mod hD7 (fun _ _ h => h)
      clear hno hm6 hD7 hy6 hx5 HU2
      go_wp2_with (fail)
      refine (EqBytes_any x5 v B B _ (hx7.sl hrng) (hs.mod hM7 (fun _ _ h => h))).mono ?_
      rintro e w8 ⟨rfl, hm8⟩
      have hM9 := hM7.trans hm8 (V := fun _ => False) (fun _ _ h => h) (fun _ _ h => h)
      have hy9 := hy7.mod hm8 (fun _ _ h => h)
      clear hM7 hy7 hx7 hm8 hM6
      simp only [decide_true]
      go_wp2_with (fail)
      refine (HPl _ (hs.mod hM9 (fun _ _ h => h))).mono ?_
      rintro e w10 ⟨l10, rfl, hm10, hnil, _⟩
      obtain rfl := hnil hF
      have hM10 := hM9.trans hm10 (V := fun _ => False) (fun _ _ h => h) (fun _ _ h => h)
      clear hnil
      go_wp2
      go_ret
      exact ⟨rfl, hM10⟩

  · by_cases hF : plE B = 0
    · obtain ⟨hpl, hch⟩ := pl_back hrng hF
      have hpl2 := (pl_pk (plL B) [c] hch).2
      rw [hpl, if_neg (by simp)] at hpl2
      rw [hF] at HPl
      rw [hpl2] at HP2
      have HCh := fun u W h => Charts u (plL B) W h
      rw [hch, hpl] at HCh
      generalize plL B = pp at HPl HCh
      generalize plL (B ++ [c]) = p2 at HP2
      clear hpl hch hpl2 hF
      have hen : (unE B == 0) = false := by simp [hE]
      generalize unE B = E at HU hE hen
      clear HU2
      generalize prM B = mm at HU
      go_enter Try.func38, Try.ntmps38
      go_wp2_with (fail)
      refine (awake _).mono ?_
      rintro e w1 ⟨rfl, hm1⟩
      have hs1 := hs.mod hm1 (fun _ _ h => h)
      go_wp2_with (fail)
      refine (copy_any v B w1 hs1 (by omega)).mono ?_
      rintro e w2 ⟨y0, rfl, hy0, hm2, hf2⟩
      have hM2 := hm1.trans hm2 (V := fun _ => False) (fun _ _ h => h) (fun _ _ h => h)
      have hfy : ∀ g, y0.ownBlock = some g → w.heap.size ≤ g := fun g hg => by have := hf2 g hg; have := hm1.size; omega
      have hsz2 := hM2.size
      clear hm1 hm2 hs1 hf2
      go_wp2_with (at_builtin; refine wpList_append_lies _ rfl _ _ 26 rfl 0 5 i0 (.int .u8 0) 1 1 Try.underlying26 hi hz0 hz1 hz2 rfl (by decide) y0 B.length (U B) rfl (hy0.alloc _) ⟨w2.heap.size, 0, none⟩ 1 1 [.int .u8 c] rfl rfl (app1 _ _ _) (U_one [c]) (by omega) (by simp only [maxLen]; omega) (by omega) (Nat.zero_le _) (w2.heap.size + 1) (by simp) ?_; intro gg cap1 w3 hown1 hgrow hg hlt)
      have hy1 : Own w3 (.slice (some ⟨gg, 0, none⟩) (B.length + 1) cap1) (B ++ [c]) := by
        unfold Own
        rw [U_app]
        simpa [U] using hown1
      have hm3 : Mod (fun k => y0.ownBlock = some k) w2 w3 := ((Mod.refl _ w2).alloc _).grown hgrow (fun k hk _ => hk)
      have hM3 : Mod (fun _ => False) w w3 := hM2.trans hm3 (fun _ _ h => h) (fun q hq h => by have := hfy q h; omega)
      have hs3 := hs.mod hM3 (fun _ _ h => h)
      have hyl : (B ++ [c]).length = B.length + 1 := by simp
      clear hown1 hgrow hg hlt hy0 hM2 hfy hm3
      refine (HU _ hs3).mono ?_
      rintro e w4 ⟨q0, q1, q2, q3, q4, q5, q6, q7, q8, q9, q10, q11, q12, rfl, hm4, _, hno⟩
      obtain ⟨rfl, rfl, rfl, rfl, rfl, rfl, rfl, rfl, rfl, rfl, rfl, rfl, rfl⟩ := hno hE
      have hD9 := (Mod.refl (fun _ => False) w4).alloc (.cells #[.int .i64 0, .int .i64 0, .int .i64 0, .int .i64 0, .int .i64 0, .int .i64 0, .int .i64 0, .bool false, .int .i64 0, .int .i64 0, .int .i64 0, .int .i64 0, (.slice none 0 0)] 28)
      have hM9 := (hM3.trans hm4 (V := fun _ => False) (fun _ _ h => h) (fun _ _ h => h)).alloc (.cells #[.int .i64 0, .int .i64 0, .int .i64 0, .int .i64 0, .int .i64 0, .int .i64 0, .int .i64 0, .bool false, .int .i64 0, .int .i64 0, .int .i64 0, .int .i64 0, (.slice none 0 0)] 28)
      have hy9 := (hy1.mod hm4 (fun _ _ h => h)).mod hD9 (fun _ _ h => h)
      clear hno hm4 hD9 hy1 hs3
      go_wp2_with (fail)
      refine (HPl _ (hs.mod hM9 (fun _ _ h => h))).mono ?_
      rintro e w10 ⟨l10, rfl, hm10, _, hok10⟩
      obtain ⟨hsl, _⟩ := hok10 trivial
      have hM10 := hM9.trans hm10 (V := fun _ => False) (fun _ _ h => h) (fun _ _ h => h)
      have hy10 := hy9.mod hm10 (fun _ _ h => h)
      clear hok10 hy9 hm10 hM9
      go_wp2_with (fail)
      refine (HCh l10 _ hsl).mono ?_
      rintro e w11 ⟨x11, rfl, hm11, hok11, _⟩
      obtain ⟨hx11, _⟩ := hok11 trivial
      have hM11 := hM10.trans hm11 (V := fun _ => False) (fun _ _ h => h) (fun _ _ h => h)
      have hy11 := hy10.mod hm11 (fun _ _ h => h)
      clear hok11 hy10 hm11 hM10 hsl
      go_wp2_with (fail)
      refine (HP2 _ _ (hy11.sl hrng2)).mono ?_
      rintro e w12 ⟨l12, rfl, hm12, _, _⟩
      have hM12 := hM11.trans hm12 (V := fun _ => False) (fun _ _ h => h) (fun _ _ h => h)
      have hx12 := hx11.mod hm12 (fun _ _ h => h)
      clear hy11 hm12 hM11 hx11
      go_wp2_with (fail)
      refine (EqBytes_any x11 v B B _ (hx12.sl hrng) (hs.mod hM12 (fun _ _ h => h))).mono ?_
      rintro e w13 ⟨rfl, hm13⟩
      simp only [decide_true]
      go_wp2
      go_ret
      exact ⟨rfl, hM12.trans hm13 (V := fun _ => False) (fun _ _ h => h) (fun _ _ h => h)⟩

    · have hfn : (plE B != 0) = true := by simp [hF]
      generalize plE B = Ep at HPl hF hfn
      generalize plL B = pp at HPl
      clear HP2
      have hen : (unE B == 0) = false := by simp [hE]
      generalize unE B = E at HU hE hen
      clear HU2
      generalize prM B = mm at HU
      go_enter Try.func38, Try.ntmps38
      go_wp2_with (fail)
      refine (awake _).mono ?_
      rintro e w1 ⟨rfl, hm1⟩
      have hs1 := hs.mod hm1 (fun _ _ h => h)
      go_wp2_with (fail)
      refine (copy_any v B w1 hs1 (by omega)).mono ?_
      rintro e w2 ⟨y0, rfl, hy0, hm2, hf2⟩
      have hM2 := hm1.trans hm2 (V := fun _ => False) (fun _ _ h => h) (fun _ _ h => h)
      have hfy : ∀ g, y0.ownBlock = some g → w.heap.size ≤ g := fun g hg => by have := hf2 g hg; have := hm1.size; omega
      have hsz2 := hM2.size
      clear hm1 hm2 hs1 hf2
      go_wp2_with (at_builtin; refine wpList_append_lies _ rfl _ _ 26 rfl 0 5 i0 (.int .u8 0) 1 1 Try.underlying26 hi hz0 hz1 hz2 rfl (by decide) y0 B.length (U B) rfl (hy0.alloc _) ⟨w2.heap.size, 0, none⟩ 1 1 [.int .u8 c] rfl rfl (app1 _ _ _) (U_one [c]) (by omega) (by simp only [maxLen]; omega) (by omega) (Nat.zero_le _) (w2.heap.size + 1) (by simp) ?_; intro gg cap1 w3 hown1 hgrow hg hlt)
      have hy1 : Own w3 (.slice (some ⟨gg, 0, none⟩) (B.length + 1) cap1) (B ++ [c]) := by
        unfold Own
        rw [U_app]
        simpa [U] using hown1
      have hm3 : Mod (fun k => y0.ownBlock = some k) w2 w3 := ((Mod.refl _ w2).alloc _).grown hgrow (fun k hk _ => hk)
      have hM3 : Mod (fun _ => False) w w3 := hM2.trans hm3 (fun _ _ h => h) (fun q hq h => by have := hfy q h; omega)
      have hs3 := hs.mod hM3 (fun _ _ h => h)
      have hyl : (B ++ [c]).length = B.length + 1 := by simp
      clear hown1 hgrow hg hlt hy0 hM2 hfy hm3
      refine (HU _ hs3).mono ?_
      rintro e w4 ⟨q0, q1, q2, q3, q4, q5, q6, q7, q8, q9, q10, q11, q12, rfl, hm4, _, hno⟩
      obtain ⟨rfl, rfl, rfl, rfl, rfl, rfl, rfl, rfl, rfl, rfl, rfl, rfl, rfl⟩ := hno hE
      have hD9 := (Mod.refl (fun _ => False) w4).alloc (.cells #[.int .i64 0, .int .i64 0, .int .i64 0, .int .i64 0, .int .i64 0, .int .i64 0, .int .i64 0, .bool false, .int .i64 0, .int .i64 0, .int .i64 0, .int .i64 0, (.slice none 0 0)] 28)
      have hM9 := (hM3.trans hm4 (V := fun _ => False) (fun _ _ h => h) (fun _ _ h => h)).alloc (.cells #[.int .i64 0, .int .i64 0, .int .i64 0, .int .i64 0, .int .i64 0, .int .i64 0, .int .i64 0, .bool false, .int .i64 0, .int .i64 0, .int .i64 0, .int .i64 0, (.slice none 0 0)] 28)
      have hy9 := (hy1.mod hm4 (fun _ _ h => h)).mod hD9 (fun _ _ h => h)
      clear hno hm4 hD9 hy1 hs3
      go_wp2_with (fail)
      refine (HPl _ (hs.mod hM9 (fun _ _ h => h))).mono ?_
      rintro e w10 ⟨l10, rfl, hm10, hnil, _⟩
      obtain rfl := hnil hF
      have hM10 := hM9.trans hm10 (V := fun _ => False) (fun _ _ h => h) (fun _ _ h => h)
      clear hnil
      go_wp2
      go_ret
      exact ⟨rfl, hM10⟩
end Go.Proofs.Ytajhpnfpjickbaa
namespace Go.Proofs.Ytajhpnfpjickbaa
open Go.RowKit
theorem pls_rng : ∀ l : List Pl, ∀ c ∈ pls l, 0 ≤ c ∧ c ≤ 255
  | [] => by simp [pls]
  | p :: l => rng_app (packs_rng _) (pls_rng l)
theorem flat_some {l : List Pl} {k : Nat} (hk : k < (flat l).length) : ((flat l).map (Value.int .i64))[k]? = some (.int .i64 ((flat l).getD k 0)) := by
  simp [hk]
theorem row_slp {w : World} {v : Value} {l : List Pl} (h : w.ownsRow 0 58 4 v l.length ((flat l).map (Value.int .i64))) (hr : ∀ p ∈ l, I64 p.ring ∧ I64 p.mb) : SlP w v l := by
  refine ⟨?_, hr⟩
  have hl := flat_len l
  rcases h.2 with ⟨rfl, h0⟩ | ⟨g, cap, cur, rfl, hb, hg, hn, hcm, hcs, ht⟩
  · exact ⟨none, 0, by rw [h0], by omega, by simp [maxLen], fun _ => rfl, fun hne => absurd (List.eq_nil_of_length_eq_zero h0) hne⟩
  · refine ⟨some ⟨g, 0, none⟩, cap, rfl, hn, hcm, (by intro h; cases h), fun _ => ⟨g, 0, rfl, fun j p hp => ?_⟩⟩
    have hj : j < l.length := (List.getElem?_eq_some_iff.1 hp).1
    obtain ⟨e0, e1, e2, e3⟩ := flat_get l j p hp
    rw [Nat.zero_add]
    refine ⟨?_, ?_, ?_, ?_⟩
    · rw [World.ownsRow.cellAt h (j * 4) (by omega), flat_some (by omega), e0]
    · rw [World.ownsRow.cellAt h (j * 4 + 1) (by omega), flat_some (by omega), e1]
    · rw [World.ownsRow.cellAt h (j * 4 + 2) (by omega), flat_some (by omega), e2]
    · rw [World.ownsRow.cellAt h (j * 4 + 3) (by omega), flat_some (by omega), e3]
theorem slp_cells {w : World} {b off : Nat} {l : List Pl} (hc : ∀ j p, l[j]? = some p → Pc w b (off + j * 4) p) : ∀ j u, ((flat l).map (Value.int .i64))[j]? = some u → w.cell? ((⟨b, off, none⟩ : Addr).add j) = some u := by
  intro k u hu
  have hl := flat_len l
  have hk : k < (flat l).length := by
    rcases Nat.lt_or_ge k (flat l).length with h | h
    · exact h
    · rw [List.getElem?_eq_none (by simpa using h)] at hu; cases hu
  rw [flat_some hk] at hu
  cases hu
  rw [add_at]
  have hj : k / 4 < l.length := by omega
  obtain ⟨p, hp⟩ : ∃ p, l[k / 4]? = some p := ⟨l[k / 4], by simp [hj]⟩
  obtain ⟨e0, e1, e2, e3⟩ := flat_get l (k / 4) p hp
  obtain ⟨c0, c1, c2, c3⟩ := hc (k / 4) p hp
  rcases (show k = k / 4 * 4 ∨ k = k / 4 * 4 + 1 ∨ k = k / 4 * 4 + 2 ∨ k = k / 4 * 4 + 3 by omega) with h | h | h | h
  · rw [h, e0]; exact c0
  · rw [h, e1]; exact c1
  · rw [h, e2]; exact c2
  · rw [h, e3]; exact c3
set_option maxRecDepth 100000 in
set_option maxHeartbeats 2000000 in
theorem charts_walk (v : Value) (l : List Pl) (w : World) (hs : SlP w v l) (hb : l.length * 32 ≤ 140737488351232) :
    Calls Try.prog 5 #[v] w fun e w' => e = .returned (.bool true) ∧ Mod (fun _ => False) w w' := by
  obtain ⟨i0, hi, hz0, hz1, hz2⟩ := info_parts infoPlace
  have hr := hs.rng
  obtain ⟨ao, cap, rfl, h1, h2, h3, h4⟩ := hs.form
  cases ao with
  | none =>
    obtain rfl := h3 rfl
    obtain rfl : l = [] := List.eq_nil_of_length_eq_zero (by omega)
    have hin : SlP w (.slice none 0 0) [] := SlP.nil w
    have hM1 := Mod.refl (fun _ => False) w
    simp only [List.length_nil] at hs ⊢
    clear h4 hr h1 h3
    go_enter Try.func5, Try.ntmps5
    go_wp2_with (fail)
    refine (Charts _ [] _ hin).mono ?_
    rintro e w2 ⟨x2, rfl, hm2, hok2, hno2⟩
    have hM2 := hM1.trans hm2 (V := fun _ => False) (fun _ _ h => h) (fun _ _ h => h)
    have hin2 := hin.mod hm2 (fun _ _ _ h => h)
    go_wp2_with (fail)
    refine (dCharts _ [] _ (hs.mod hM2 (fun _ _ _ h => h))).mono ?_
    rintro e w3 ⟨x3, rfl, hm3, hok3, hno3⟩
    have hM3 := hM2.trans hm3 (V := fun _ => False) (fun _ _ h => h) (fun _ _ h => h)
    have hin3 := hin2.mod hm3 (fun _ _ _ h => h)
    obtain ⟨Bx, hrB, hx2, hx3⟩ : ∃ Bx : List Int, (∀ c ∈ Bx, 0 ≤ c ∧ c ≤ 255) ∧ Own w3 x2 Bx ∧ Own w3 x3 Bx := by
      by_cases h0 : chE [] = 0
      · exact ⟨pkl [], rng_app (packs_rng _) (pls_rng []), (hok2 h0).1.mod hm3 (fun _ _ h => h), (hok3 h0).1⟩
      · obtain rfl := hno2 h0
        obtain rfl := hno3 h0
        exact ⟨[], by simp, Own.nil _, Own.nil _⟩
    clear hok2 hok3 hno2 hno3 hm2 hm3 hM1 hM2 hin hin2
    go_wp2_with (fail)
    refine (EqBytes_any x2 x3 Bx Bx _ (hx2.sl hrB) (hx3.sl hrB)).mono ?_
    rintro e w4 ⟨rfl, hm4⟩
    have hM4 := hM3.trans hm4 (V := fun _ => False) (fun _ _ h => h) (fun _ _ h => h)
    simp only [decide_true]
    go_wp2_with (fail)
    refine (SamePlaces_eq _ _ [] _ (hin3.mod hm4 (fun _ _ _ h => h)) (hs.mod hM4 (fun _ _ _ h => h))).mono ?_
    rintro e w5 ⟨rfl, hm5⟩
    have hM5 := hM4.trans hm5 (V := fun _ => False) (fun _ _ h => h) (fun _ _ h => h)
    go_wp2_with (fail)
    refine (awake _).mono ?_
    rintro e w6 ⟨rfl, hm6⟩
    go_wp2
    go_ret
    exact ⟨by simp, hM5.trans hm6 (V := fun _ => False) (fun _ _ h => h) (fun _ _ h => h)⟩
  | some a =>
    have hcells : ∀ j u, ((flat l).map (Value.int .i64))[j]? = some u → w.cell? (a.add j) = some u := by
      by_cases hl : l = []
      · subst hl; intro j u hu; simp [flat] at hu
      · obtain ⟨b, off, e, hc⟩ := h4 hl
        cases e
        exact slp_cells hc
    have hfl := flat_len l
    clear h4
    go_enter Try.func5, Try.ntmps5
    go_wp2_with (at_builtin; refine wpList_append_own_at _ rfl _ _ 41 rfl 0 58 i0 (.agg #[.int .i64 0, .int .i64 0, .int .i64 0, .int .i64 0]) 4 32 Try.underlying41 hi hz0 hz1 hz2 rfl (by decide) (.slice none 0 0) 0 [] rfl (World.ownsRow_nil _ _ _ _) a l.length cap ((flat l).map (Value.int .i64)) rfl (by simp [hfl]; omega) hcells (by intro u hu; obtain ⟨_, _, rfl⟩ := List.mem_map.1 hu; rfl) (by simp only [maxLen]; omega) (by omega) (Nat.zero_le _) ?_; intro v2 w2' hown2 hgrow hnil hat; simp only [Nat.zero_add, List.nil_append] at hown2)
    have hin := row_slp hown2 hr
    have hM1 : Mod (fun _ => False) w w2' := (Mod.refl _ w).grown hgrow (by intro k hk; simp [Value.ownBlock] at hk)
    clear hown2 hgrow hnil hat hcells
    refine (Charts _ l _ hin).mono ?_
    rintro e w2 ⟨x2, rfl, hm2, hok2, hno2⟩
    have hM2 := hM1.trans hm2 (V := fun _ => False) (fun _ _ h => h) (fun _ _ h => h)
    have hin2 := hin.mod hm2 (fun _ _ _ h => h)
    go_wp2_with (fail)
    refine (dCharts _ l _ (hs.mod hM2 (fun _ _ _ h => h))).mono ?_
    rintro e w3 ⟨x3, rfl, hm3, hok3, hno3⟩
    have hM3 := hM2.trans hm3 (V := fun _ => False) (fun _ _ h => h) (fun _ _ h => h)
    have hin3 := hin2.mod hm3 (fun _ _ _ h => h)
    obtain ⟨Bx, hrB, hx2, hx3⟩ : ∃ Bx : List Int, (∀ c ∈ Bx, 0 ≤ c ∧ c ≤ 255) ∧ Own w3 x2 Bx ∧ Own w3 x3 Bx := by
      by_cases h0 : chE l = 0
      · exact ⟨pkl l, rng_app (packs_rng _) (pls_rng l), (hok2 h0).1.mod hm3 (fun _ _ h => h), (hok3 h0).1⟩
      · obtain rfl := hno2 h0
        obtain rfl := hno3 h0
        exact ⟨[], by simp, Own.nil _, Own.nil _⟩
    clear hok2 hok3 hno2 hno3 hm2 hm3 hM1 hM2 hin hin2
    go_wp2_with (fail)
    refine (EqBytes_any x2 x3 Bx Bx _ (hx2.sl hrB) (hx3.sl hrB)).mono ?_
    rintro e w4 ⟨rfl, hm4⟩
    have hM4 := hM3.trans hm4 (V := fun _ => False) (fun _ _ h => h) (fun _ _ h => h)
    simp only [decide_true]
    go_wp2_with (fail)
    refine (SamePlaces_eq _ _ l _ (hin3.mod hm4 (fun _ _ _ h => h)) (hs.mod hM4 (fun _ _ _ h => h))).mono ?_
    rintro e w5 ⟨rfl, hm5⟩
    have hM5 := hM4.trans hm5 (V := fun _ => False) (fun _ _ h => h) (fun _ _ h => h)
    go_wp2_with (fail)
    refine (awake _).mono ?_
    rintro e w6 ⟨rfl, hm6⟩
    go_wp2
    go_ret
    exact ⟨by simp, hM5.trans hm6 (V := fun _ => False) (fun _ _ h => h) (fun _ _ h => h)⟩
section
open Go.ChangeShapes Go.WideShapes Go.ChangeAt Go.RowKit
variable {H : Type} {enc : TypeId × Value → H} {W : World}
theorem cellsP : Try.prog.cellsOf 58 = 4 := by kernel_rfl
theorem bytesP : Try.prog.bytesOf 58 = 32 := by kernel_rfl
/-- A place's cells. -/
theorem place_cells {n : Nat} {c0 c1 c2 c3 : Value} {x : DataW H × List MemPlace} {sp : Nat → Bool} (h : DataW.trod enc Try.prog W 0 sp true n 58 [c0, c1, c2, c3] = some x) :
    ∃ p : Pl, c0 = .int .i64 p.ring ∧ c1 = .int .i64 p.ps ∧ c2 = .int .i64 p.pr ∧ c3 = .int .i64 p.mb ∧ I64 p.ring ∧ I64 p.mb := by
  obtain ⟨y0, y1, y2, m, hx, _, t0, t1, t2⟩ := Deep.trod_struct3 Try.underlying58 h
  simp only [cells3, cellsR, List.drop_zero, List.drop_succ_cons, List.take_succ_cons, List.take_zero] at t0 t1 t2
  obtain ⟨z0, z1, m', _, _, u0, u1⟩ := trod_struct2 Try.underlying23 t1
  simp only [cells3, List.drop_zero, List.drop_succ_cons, List.take_succ_cons, List.take_zero] at u0 u1
  obtain ⟨k0, e0, _, w0⟩ := DataW.trod_int Try.underlying3 t0
  obtain ⟨k1, e1, _, w1⟩ := DataW.trod_int Try.underlying3 u0
  obtain ⟨k2, e2, _, w2⟩ := DataW.trod_int Try.underlying3 u1
  obtain ⟨k3, e3, _, w3⟩ := DataW.trod_int Try.underlying3 t2
  simp at e0 e1 e2 e3
  exact ⟨⟨k0, k1, k2, k3⟩, e0, e1, e2, e3, i64_of_wf w0, i64_of_wf w3⟩
theorem open_places {v : Value} {d : DataW H} {p : List MemPlace} (h : DataW.Trod enc Try.prog W 0 (fun _ => true) true 41 v d p) (hv : ∃ ao len cap, v = .slice ao len cap) :
    ∃ l : List Pl, SlP W v l ∧ ((d = .nil ∧ l = []) ∨ ∃ e s, d = .slice e s ∧ e.length = l.length) := by
  obtain ⟨ao0, len0, cap0, rfl⟩ := hv
  obtain ⟨fuel, hf⟩ := h
  rcases Deep.open_slice Try.underlying41 hf with ⟨hcs, hx⟩ | ⟨a, len, cap, m, n, D, Pq, hcs, _, hl, hm, hmm, hx, hel⟩
  · simp [Value.cells] at hcs
    obtain ⟨rfl, rfl, rfl⟩ := hcs
    refine ⟨[], SlP.nil W, .inl ⟨?_, rfl⟩⟩
    exact congrArg Prod.fst hx
  · simp [Value.cells] at hcs
    obtain ⟨rfl, rfl, rfl⟩ := hcs
    simp only [if_true] at hmm
    subst hmm
    rw [cellsP] at hel
    have one : ∀ i, ∃ x : Pl, i < len0 → (W.cell? (a.add (i * 4)) = some (.int .i64 x.ring) ∧ W.cell? (a.add (i * 4 + 1)) = some (.int .i64 x.ps) ∧ W.cell? (a.add (i * 4 + 2)) = some (.int .i64 x.pr) ∧ W.cell? (a.add (i * 4 + 3)) = some (.int .i64 x.mb)) ∧ (I64 x.ring ∧ I64 x.mb) := by
      intro i
      by_cases hi : i < len0
      · obtain ⟨cs, hcells, ht⟩ := hel i (by omega)
        obtain ⟨_, hlen, hc⟩ := World.cells?_some hcells
        match cs, hlen with
        | [c0, c1, c2, c3], _ =>
          obtain ⟨x, rfl, rfl, rfl, rfl, hi1, hi2⟩ := place_cells ht
          refine ⟨x, fun _ => ⟨?_, hi1, hi2⟩⟩
          have q0 := hc 0 (by omega)
          have q1 := hc 1 (by omega)
          have q2 := hc 2 (by omega)
          have q3 := hc 3 (by omega)
          simp only [Deep.add_add] at q0 q1 q2 q3
          simp at q0 q1 q2 q3
          exact ⟨q0, q1, q2, q3⟩
      · exact ⟨⟨0, 0, 0, 0⟩, fun h => absurd h hi⟩
    obtain ⟨f, hfx⟩ := Classical.axiomOfChoice one
    have hdl : ((List.range len0).map f).length = len0 := by simp
    refine ⟨(List.range len0).map f, ⟨⟨some a, m, by rw [hdl], by rw [hdl]; omega, by omega, (by intro h; cases h), fun hne => ?_⟩, ?_⟩, ?_⟩
    · have h0 : 0 < len0 := by
        rcases Nat.eq_zero_or_pos len0 with h | h
        · subst h; simp at hne
        · exact h
      obtain ⟨b, off, spot⟩ := a
      have hc0 := (hfx 0 h0).1.1
      have hspot : spot = none := by simpa [Addr.add] using World.cell?_spot hc0
      subst hspot
      refine ⟨b, off, rfl, fun i d hd => ?_⟩
      have hi : i < len0 := by
        rcases Nat.lt_or_ge i len0 with h | h
        · exact h
        · rw [List.getElem?_eq_none (by rw [hdl]; exact h)] at hd; cases hd
      have ed : d = f i := by simpa [hi] using hd.symm
      subst ed
      have := (hfx i hi).1
      simpa only [Pc, add_at, Nat.add_assoc] using this
    · intro d hd
      obtain ⟨i, hi, rfl⟩ := List.mem_map.1 hd
      exact (hfx i (List.mem_range.1 hi)).2
    · right
      refine ⟨_, _, congrArg Prod.fst hx, ?_⟩
      simp
end
namespace parcelCharts
open Go.ChangeShapes Go.WideShapes Go.ChangeAt Go.RowKit
set_option maxRecDepth 100000 in
theorem lifted (os : Os) (started : os.Started) (H : Type) (enc : TypeId × Value → H) :
    ReturnsInHanded {} Try.checked os 5 .any (Rows.parcelChartsSpec.pre6 enc Try.prog Try.f5 Rows.parcelChartsRow.domain false) (Rows.parcelChartsSpec.post enc Try.prog Try.f5 false true false false) := by
  refine returnsInHanded_of_change_sized (C := Try.checked) own started (by kernel_rfl) Try.func5
    (ChangeSpec.witness6 (enc := enc) (C := Try.checked) false ⟨#[], #[.slice none 0 0], []⟩ 8 (by kernel_rfl) (by kernel_rfl) (by kernel_rfl) (by kernel_rfl)) ?_
  intro W base args ds gs before hval0 hW hcnd hsz0 _
  have hval : ∀ (j : Nat) t v, Try.f5.params[j]? = some t → args[j]? = some v → Value.okWide Try.prog W .any base t v := hval0
  have hsz : (DataW.weightsEach Try.prog (Try.f5.params.toList ++ Rows.parcelChartsSpec.plain.varTypes Try.prog) (ds ++ gs)).all (· ≤ reachBytes) = true := hsz0
  have hW' := hW
  obtain ⟨p, q, hA0, hV, rfl, hfz, hnd⟩ := hW
  have hA : DataW.TrodAll enc Try.prog W 0 (fun _ => true) true Try.f5.params.toList args.toList ds p := hA0
  rw [Try.params5] at hA hval hsz
  obtain ⟨v0, vs0, d0, ds0, p0, q0, hargs, rfl, rfl, h0, r0⟩ := trodAll_cons hA
  obtain ⟨rfl, rfl, rfl⟩ := trodAll_nil r0
  obtain rfl : args = #[v0] := by cases args; simp_all
  obtain ⟨rfl, rfl⟩ := trodVars_none hV
  have k0 := h0
  have lt0 : ∀ x ∈ p0, x.block < W.heap.size := by obtain ⟨m, hm⟩ := k0; exact DataW.trod_lt m _ _ _ hm
  obtain ⟨L0, hL0, hx0⟩ := open_places h0 (okWide_slice Try.underlying41 (hval 0 41 v0 rfl rfl))
  have hl0 : L0.length * 32 ≤ 140737488351232 := by
    rcases hx0 with ⟨rfl, rfl⟩ | ⟨e, s, rfl, hlen⟩
    · simp
    · have := sized_slice hsz (j := 0) (t := 41) (e := 58) rfl rfl Try.underlying41
      rw [bytesP] at this
      simp only [reachBytes] at this
      omega
  clear hA0 hval0
  refine (charts_walk v0 L0 W hL0 hl0).mono fun e W' ⟨he, hm⟩ => ?_
  subst he
  have bel : Below W.heap.size W W' := hm.below _ (Nat.le_refl _) (fun _ h => h.elim)
  exact ⟨_, rfl, _, _, _, [], _, [], hW', trodAll_mk1 (shut_bool Try.underlying4 _), (trodAll_cons_mk (Below.trod laidOut (by kernel_rfl) (of_decide_eq_true (by kernel_rfl)) k0 bel lt0) trodAll_mk0), rfl, bel.frame _, fun h => by cases h⟩

theorem over : Rows.parcelChartsRow.holds Try.pinned (OpenSpec.ofChange Rows.parcelChartsSpec) :=
  OpenClaim.holds_of_wide 5 Try.f5 rfl rfl rfl rfl rfl rfl rfl ⟨rfl, rfl, rfl, rfl, rfl⟩ rfl rfl rfl rfl rfl (by kernel_rfl) Try.func5 (by kernel_rfl)
    (of_decide_eq_true (by kernel_rfl)) (by unfold Func.isWrapper; first | (rw [if_pos (by decide +kernel)]; kernel_rfl) | (rw [if_neg (by decide +kernel)]; exact ⟨rfl, rfl⟩))
    (fun os started H enc _ => lifted os started H enc)
end parcelCharts
theorem parcelCharts_holds : Rows.ParcelChartsSaid := parcelCharts.over
end Go.Proofs.Ytajhpnfpjickbaa
