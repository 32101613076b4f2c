/- Contracts of parcel's Unpack and Check, by how long the bytes are, and of what a MsgOld has. Conditions: sizes that a slice of bytes has. -/
import Derived.Test.YthiijonmnebjgaaGreatCu
import Derived.Test.YthiijonmnebjgaaGreatCe
namespace Go.Proofs.YthiijonmnebjgaaGreat
open Go.RowKit
set_option maxRecDepth 100000 in
set_option maxHeartbeats 2000000 in
theorem isOld_of (k o lf i p ps g : Int) (s : Bool) (st rs rr sq : Int) (ao : Option Addr) (cap : Nat) (l : List Int) (w : World) (hs : Sl w (.slice ao l.length cap) l)
    (HB : ∀ W, Sl W (.slice ao l.length cap) l → Calls Tryz.prog 115 #[.slice ao l.length cap] W fun e w' => e = .returned (.bool (in0 l)) ∧ Mod (fun _ => False) W w') :
    Calls Tryz.prog 91 #[.agg #[.int .i64 k, .int .i64 o, .int .i64 lf, .int .i64 i, .int .i64 p, .int .i64 ps, .int .i64 g, .bool s, .int .i64 st, .int .i64 rs, .int .i64 rr, .int .i64 sq, .slice ao l.length cap]] w fun e w' => e = .returned (.bool (od ⟨k, o, lf, i, p, ps, g, s, st, rs, rr, sq, l⟩)) ∧ Mod (fun _ => False) w w' := by
  have H := isClients k o lf i p ps g s st rs rr sq ao cap l
  have HI := pNode i
  have HR := isRing rs rr
  have hm0 := MB.new w k o lf i p ps g s st rs rr sq (.slice ao l.length cap)
  have hA := (Mod.refl (fun _ => False) w).alloc (.cells #[.int .i64 k, .int .i64 o, .int .i64 lf, .int .i64 i, .int .i64 p, .int .i64 ps, .int .i64 g, .bool s, .int .i64 st, .int .i64 rs, .int .i64 rr, .int .i64 sq, .slice ao l.length cap] 43)
  unfold od
  dsimp only
  generalize in0 l = c4 at HB ⊢
  generalize isr rs rr = c3 at HR ⊢
  generalize nd i = c2 at HI ⊢
  generalize pln ⟨k, o, lf, i, p, ps, g, s, st, rs, rr, sq, l⟩ = c1 at H ⊢
  cases c1 with
  | false =>
    go_enter Tryz.func91, Tryz.ntmps91
    go_wp2_with (fail)
    refine (H _).mono ?_
    rintro e w1 ⟨rfl, hm⟩
    have hmw := hA.trans hm (V := fun _ => False) (fun _ _ h => h) (fun _ _ h => h)
    go_wp2
    go_ret
    exact ⟨by simp, hmw⟩
  | true =>
    cases c2 with
    | false =>
      go_enter Tryz.func91, Tryz.ntmps91
      go_wp2_with (fail)
      refine (H _).mono ?_
      rintro e w1 ⟨rfl, hm⟩
      have hmw := hA.trans hm (V := fun _ => False) (fun _ _ h => h) (fun _ _ h => h)
      obtain ⟨a0, a1, a2, a3, a4, a5, a6, a7, a8, a9, a10, a11, a12⟩ := MB.cells (hm0.mod hm (fun h => h))
      go_wp2_with (fail)
      refine (HI _).mono ?_
      rintro e w2 ⟨rfl, rfl⟩
      go_wp2
      go_ret
      exact ⟨by simp, hmw⟩
    | true =>
      cases c3 with
      | false =>
        go_enter Tryz.func91, Tryz.ntmps91
        go_wp2_with (fail)
        refine (H _).mono ?_
        rintro e w1 ⟨rfl, hm⟩
        have hmw := hA.trans hm (V := fun _ => False) (fun _ _ h => h) (fun _ _ h => h)
        obtain ⟨a0, a1, a2, a3, a4, a5, a6, a7, a8, a9, a10, a11, a12⟩ := MB.cells (hm0.mod hm (fun h => h))
        go_wp2_with (fail)
        refine (HI _).mono ?_
        rintro e w2 ⟨rfl, rfl⟩
        go_wp2_with (fail)
        refine (HR _).mono ?_
        rintro e w3 ⟨rfl, hm3⟩
        have hmw3 := hmw.trans hm3 (V := fun _ => False) (fun _ _ h => h) (fun _ _ h => h)
        go_wp2
        go_ret
        exact ⟨by simp, hmw3⟩
      | true =>
        by_cases hsq : 0 < sq
        · go_enter Tryz.func91, Tryz.ntmps91
          go_wp2_with (fail)
          refine (H _).mono ?_
          rintro e w1 ⟨rfl, hm⟩
          have hmw := hA.trans hm (V := fun _ => False) (fun _ _ h => h) (fun _ _ h => h)
          have hb1 := hm0.mod hm (fun h => h)
          obtain ⟨a0, a1, a2, a3, a4, a5, a6, a7, a8, a9, a10, a11, a12⟩ := MB.cells hb1
          go_wp2_with (fail)
          refine (HI _).mono ?_
          rintro e w2 ⟨rfl, rfl⟩
          go_wp2_with (fail)
          refine (HR _).mono ?_
          rintro e w3 ⟨rfl, hm3⟩
          have hmw3 := hmw.trans hm3 (V := fun _ => False) (fun _ _ h => h) (fun _ _ h => h)
          have hs3 := hs.mod hmw3 (fun _ _ h => h)
          clear a0 a1 a2 a3 a4 a5 a6 a7 a8 a9 a10 a11 a12
          obtain ⟨a0, a1, a2, a3, a4, a5, a6, a7, a8, a9, a10, a11, a12⟩ := MB.cells (hb1.mod hm3 (fun h => h))
          go_wp2_with (fail)
          refine (HB _ hs3).mono ?_
          rintro e w4 ⟨rfl, hm4⟩
          have hmw4 := hmw3.trans hm4 (V := fun _ => False) (fun _ _ h => h) (fun _ _ h => h)
          go_wp2
          go_ret
          exact ⟨by simp [hsq], hmw4⟩
        · go_enter Tryz.func91, Tryz.ntmps91
          go_wp2_with (fail)
          refine (H _).mono ?_
          rintro e w1 ⟨rfl, hm⟩
          have hmw := hA.trans hm (V := fun _ => False) (fun _ _ h => h) (fun _ _ h => h)
          have hb1 := hm0.mod hm (fun h => h)
          obtain ⟨a0, a1, a2, a3, a4, a5, a6, a7, a8, a9, a10, a11, a12⟩ := MB.cells hb1
          go_wp2_with (fail)
          refine (HI _).mono ?_
          rintro e w2 ⟨rfl, rfl⟩
          go_wp2_with (fail)
          refine (HR _).mono ?_
          rintro e w3 ⟨rfl, hm3⟩
          have hmw3 := hmw.trans hm3 (V := fun _ => False) (fun _ _ h => h) (fun _ _ h => h)
          clear a0 a1 a2 a3 a4 a5 a6 a7 a8 a9 a10 a11 a12
          obtain ⟨a0, a1, a2, a3, a4, a5, a6, a7, a8, a9, a10, a11, a12⟩ := MB.cells (hb1.mod hm3 (fun h => h))
          go_wp2
          go_ret
          exact ⟨by simp; omega, hmw3⟩

/-- What Unpack answers of L. -/
def Unp (L : List Int) (w : World) (e : Ending) (w' : World) : Prop := ∃ k o lf i p ps g s st rs rr sq bv, e = .returned (.tuple #[.agg #[.int .i64 k, .int .i64 o, .int .i64 lf, .int .i64 i, .int .i64 p, .int .i64 ps, .int .i64 g, .bool s, .int .i64 st, .int .i64 rs, .int .i64 rr, .int .i64 sq, bv], .int .i64 (unE L)]) ∧ Mod (fun _ => False) w w' ∧
      (unE L = 0 → Ms.mk k o lf i p ps g s st rs rr sq (prM L).body = prM L ∧ Own w' bv (prM L).body ∧ (∀ g, bv.ownBlock = some g → w.heap.size ≤ g)) ∧
      (unE L ≠ 0 → (k = 0 ∧ o = 0 ∧ lf = 0 ∧ i = 0 ∧ p = 0 ∧ ps = 0 ∧ g = 0 ∧ s = false ∧ st = 0 ∧ rs = 0 ∧ rr = 0 ∧ sq = 0 ∧ bv = .slice none 0 0))
theorem isBodyOfOld_of (v : Value) (L : List Int) (w : World) (HU : Calls Tryz.prog 59 #[v] w (Unp L w)) :
    Calls Tryz.prog 115 #[v] w fun e w' => e = .returned (.bool (in0 L)) ∧ Mod (fun _ => False) w w' := by
  rw [in0_eq]
  unfold Unp at HU
  have hz : unE L = 0 ∨ unE L ≠ 0 := by omega
  generalize prM L = m at HU ⊢
  generalize unE L = E at HU hz ⊢
  rcases hz with hz | hz
  · subst hz
    go_enter Tryz.func115, Tryz.ntmps115
    go_wp2_with (fail)
    refine HU.mono ?_
    rintro e w1 ⟨k, o, lf, i, p, ps, g, s, st, rs, rr, sq, bv, rfl, hm, hok, _⟩
    obtain ⟨e1, ho, _⟩ := hok trivial
    obtain ⟨ao, cap, rfl⟩ := ho.shape
    have hk : m.kind = k := by rw [← e1]
    clear e1 hok HU
    go_wp2
    go_ret
    refine ⟨?_, hm.alloc _⟩
    rw [hk]
    simp
  · have he : (E == 0) = false := by simp [hz]
    go_enter Tryz.func115, Tryz.ntmps115
    go_wp2_with (fail)
    refine HU.mono ?_
    rintro e w1 ⟨k, o, lf, i, p, ps, g, s, st, rs, rr, sq, bv, rfl, hm, _, hno⟩
    obtain ⟨rfl, rfl, rfl, rfl, rfl, rfl, rfl, rfl, rfl, rfl, rfl, rfl, rfl⟩ := hno hz
    clear hno HU
    go_wp2
    go_ret
    refine ⟨?_, hm.alloc _⟩
    simp [hz]

set_option maxRecDepth 100000 in
set_option maxHeartbeats 4000000 in
theorem Unpack_of (v : Value) (L : List Int) (w : World) (hs : Sl w v L) (hb : L.length ≤ 140737488355328)
    (HC : prE L = 0 → ∀ W ao cap, Sl W (.slice ao (prM L).body.length cap) (prM L).body → Calls Tryz.prog 51 #[.agg #[.int .i64 (prM L).kind, .int .i64 (prM L).origin, .int .i64 (prM L).life, .int .i64 (prM L).id, .int .i64 (prM L).part, .int .i64 (prM L).parts, .int .i64 (prM L).groups, .bool (prM L).safe, .int .i64 (prM L).st, .int .i64 (prM L).rs, .int .i64 (prM L).rr, .int .i64 (prM L).sq, .slice ao (prM L).body.length cap]] W fun e w' => e = .returned (.int .i64 (chk (prM L))) ∧ Mod (fun _ => False) W w') :
    Calls Tryz.prog 59 #[v] w (Unp L w) := by
  have hA : Mod (fun _ => False) w (w.alloc (.cells #[.int .i64 0, .int .i64 0, .int .i64 0, .int .i64 0, .int .i64 0, .int .i64 0, .int .i64 0, .bool false, .int .i64 0, .int .i64 0, .int .i64 0, .int .i64 0, (.slice none 0 0)] 43)) := (Mod.refl _ w).alloc _
  have hz0 := MB.new w 0 0 0 0 0 0 0 false 0 0 0 0 (.slice none 0 0)
  have hlt0 : w.heap.size < (w.alloc (.cells #[.int .i64 0, .int .i64 0, .int .i64 0, .int .i64 0, .int .i64 0, .int .i64 0, .int .i64 0, .bool false, .int .i64 0, .int .i64 0, .int .i64 0, .int .i64 0, (.slice none 0 0)] 43)).heap.size := by simp
  have HN := New_any v L _ (hs.mod hA (fun _ _ h => h)) hb
  have HR := fun r v w h hv => read_any r v L w h hv hb
  have hbr : ∀ c ∈ (prM L).body, 0 ≤ c ∧ c ≤ 255 := fun c hc => hs.rng c (pr_mem L c hc)
  unfold Unp unE
  clear hs
  by_cases h0 : prE L = 0
  case neg =>
    rw [if_pos h0]
    clear HC hbr
    have hen : (prE L != 0) = true := by simp [h0]
    have NE := h0
    generalize prE L = E at HR h0 hen NE ⊢
    generalize prM L = m at HR ⊢
    generalize prR L = R at HR
    have HX := True.intro
    go_enter Tryz.func59, Tryz.ntmps59
    go_wp2_with (fail)
    refine HN.mono ?_
    rintro e w1 ⟨r, v1, rfl, hr1, hm1, hp1, hp2, hg⟩
    have hA1 := hA.trans hm1 (V := fun _ => False) (fun _ _ h => h) (fun _ _ h => h)
    have hz1 := hz0.mod hm1 (fun h => h)
    go_wp2_with (fail)
    refine (HR r v1 w1 hr1 (fun g h => (hg g h).2)).mono ?_
    rintro e w2 ⟨k, o, lf, i, p, ps, g, s, st, rs, rr, sq, bv, rfl, hm2, hok, hbad⟩
    have hA2 : Mod (fun _ => False) w w2 := hA1.trans hm2 (fun _ _ h => h) (fun _ hi h => by omega)
    have hz2 := hz1.mod hm2 (by omega)
    have hs12 := hm2.size
    obtain rfl := hbad h0
    have hz3 := hz2.mod ((Mod.refl (fun _ => False) w2).alloc (.cells #[.int .i64 k, .int .i64 o, .int .i64 lf, .int .i64 i, .int .i64 p, .int .i64 ps, .int .i64 g, .bool s, .int .i64 st, .int .i64 rs, .int .i64 rr, .int .i64 sq, (.slice none 0 0)] 43)) (fun h => h)
    have hfz := hz3.frz
    obtain ⟨a0, a1, a2, a3, a4, a5, a6, a7, a8, a9, a10, a11, a12⟩ := hz3.cells
    have hF := stm_mb hz3 0 0 0 0 0 0 0 false 0 0 0 0 (.slice none 0 0)
    have hMF := (hA2.alloc (.cells #[.int .i64 k, .int .i64 o, .int .i64 lf, .int .i64 i, .int .i64 p, .int .i64 ps, .int .i64 g, .bool s, .int .i64 st, .int .i64 rs, .int .i64 rr, .int .i64 sq, (.slice none 0 0)] 43)).trans (stm_mod _ w.heap.size 0 0 0 0 0 0 0 false 0 0 0 0 (.slice none 0 0)) (V := fun _ => False) (fun _ _ h => h) (fun _ hi h => by omega)
    clear hok HR HN
    go_wp2
    show bodyPost _ _ _ _ _ (stm (w2.alloc (.cells #[.int .i64 k, .int .i64 o, .int .i64 lf, .int .i64 i, .int .i64 p, .int .i64 ps, .int .i64 g, .bool s, .int .i64 st, .int .i64 rs, .int .i64 rr, .int .i64 sq, (.slice none 0 0)] 43)) w.heap.size 0 0 0 0 0 0 0 false 0 0 0 0 (.slice none 0 0))
    generalize stm (w2.alloc (.cells #[.int .i64 k, .int .i64 o, .int .i64 lf, .int .i64 i, .int .i64 p, .int .i64 ps, .int .i64 g, .bool s, .int .i64 st, .int .i64 rs, .int .i64 rr, .int .i64 sq, (.slice none 0 0)] 43)) w.heap.size 0 0 0 0 0 0 0 false 0 0 0 0 (.slice none 0 0) = wF at hF hMF HX ⊢
    obtain ⟨d0, d1, d2, d3, d4, d5, d6, d7, d8, d9, d10, d11, d12⟩ := hF.cells
    exact bodyPost_ret (v := .tuple #[.agg #[.int .i64 0, .int .i64 0, .int .i64 0, .int .i64 0, .int .i64 0, .int .i64 0, .int .i64 0, .bool false, .int .i64 0, .int .i64 0, .int .i64 0, .int .i64 0, (.slice none 0 0)], .int .i64 E]) (by simp [results, Tryz.results59, go_sem, d0, d1, d2, d3, d4, d5, d6, d7, d8, d9, d10, d11, d12]) rfl ⟨0, 0, 0, 0, 0, 0, 0, false, 0, 0, 0, 0, .slice none 0 0, rfl, hMF, fun h => absurd h NE, fun _ => ⟨rfl, rfl, rfl, rfl, rfl, rfl, rfl, rfl, rfl, rfl, rfl, rfl, rfl⟩⟩
  case pos =>
    rw [if_neg (by simp [h0])]
    replace HC := HC h0
    rw [h0] at HR
    generalize hmm : prM L = m at HR HC hbr ⊢
    obtain ⟨k', o', lf', i', p', ps', g', s', st', rs', rr', sq', l'⟩ := m
    dsimp only at HC hbr HR ⊢
    generalize prR L = R at HR ⊢
    clear h0 hmm
    cases R with
    | cons x R =>
      rw [if_pos (by simp)]
      have NE : (4 : Int) ≠ 0 := by decide
      have hlen : 0 < (x :: R).length := by simp
      generalize x :: R = R' at HR hlen
      clear HC
      have HX := True.intro
      go_enter Tryz.func59, Tryz.ntmps59
      go_wp2_with (fail)
      refine HN.mono ?_
      rintro e w1 ⟨r, v1, rfl, hr1, hm1, hp1, hp2, hg⟩
      have hA1 := hA.trans hm1 (V := fun _ => False) (fun _ _ h => h) (fun _ _ h => h)
      have hz1 := hz0.mod hm1 (fun h => h)
      go_wp2_with (fail)
      refine (HR r v1 w1 hr1 (fun g h => (hg g h).2)).mono ?_
      rintro e w2 ⟨k, o, lf, i, p, ps, g, s, st, rs, rr, sq, bv, rfl, hm2, hok, hbad⟩
      have hA2 : Mod (fun _ => False) w w2 := hA1.trans hm2 (fun _ _ h => h) (fun _ hi h => by omega)
      have hz2 := hz1.mod hm2 (by omega)
      have hs12 := hm2.size
      obtain ⟨he, ho, hf, v3, hr3⟩ := hok trivial
      simp only [Ms.mk.injEq] at he
      obtain ⟨rfl, rfl, rfl, rfl, rfl, rfl, rfl, rfl, rfl, rfl, rfl, rfl, _⟩ := he
      obtain ⟨ao, cap, rfl⟩ := ho.shape
      have hr4 := hr3.mod ((Mod.refl (fun _ => False) w2).alloc (.cells #[.int .i64 k, .int .i64 o, .int .i64 lf, .int .i64 i, .int .i64 p, .int .i64 ps, .int .i64 g, .bool s, .int .i64 st, .int .i64 rs, .int .i64 rr, .int .i64 sq, (.slice ao l'.length cap)] 43)) (fun h => h) (fun _ _ h => h)
      have hz3 := hz2.mod ((Mod.refl (fun _ => False) w2).alloc (.cells #[.int .i64 k, .int .i64 o, .int .i64 lf, .int .i64 i, .int .i64 p, .int .i64 ps, .int .i64 g, .bool s, .int .i64 st, .int .i64 rs, .int .i64 rr, .int .i64 sq, (.slice ao l'.length cap)] 43)) (fun h => h)
      have hfz := hz3.frz
      obtain ⟨a0, a1, a2, a3, a4, a5, a6, a7, a8, a9, a10, a11, a12⟩ := hz3.cells
      have hF := stm_mb hz3 0 0 0 0 0 0 0 false 0 0 0 0 (.slice none 0 0)
      have hMF := (hA2.alloc (.cells #[.int .i64 k, .int .i64 o, .int .i64 lf, .int .i64 i, .int .i64 p, .int .i64 ps, .int .i64 g, .bool s, .int .i64 st, .int .i64 rs, .int .i64 rr, .int .i64 sq, (.slice ao l'.length cap)] 43)).trans (stm_mod _ w.heap.size 0 0 0 0 0 0 0 false 0 0 0 0 (.slice none 0 0)) (V := fun _ => False) (fun _ _ h => h) (fun _ hi h => by omega)
      clear hok HR HN
      go_wp2_with (fail)
      refine (Left_any r v3 R' _ hr4).mono ?_
      rintro e w5 ⟨rfl, rfl⟩
      go_wp2
      show bodyPost _ _ _ _ _ (stm (w2.alloc (.cells #[.int .i64 k, .int .i64 o, .int .i64 lf, .int .i64 i, .int .i64 p, .int .i64 ps, .int .i64 g, .bool s, .int .i64 st, .int .i64 rs, .int .i64 rr, .int .i64 sq, (.slice ao l'.length cap)] 43)) w.heap.size 0 0 0 0 0 0 0 false 0 0 0 0 (.slice none 0 0))
      generalize stm (w2.alloc (.cells #[.int .i64 k, .int .i64 o, .int .i64 lf, .int .i64 i, .int .i64 p, .int .i64 ps, .int .i64 g, .bool s, .int .i64 st, .int .i64 rs, .int .i64 rr, .int .i64 sq, (.slice ao l'.length cap)] 43)) w.heap.size 0 0 0 0 0 0 0 false 0 0 0 0 (.slice none 0 0) = wF at hF hMF HX ⊢
      obtain ⟨d0, d1, d2, d3, d4, d5, d6, d7, d8, d9, d10, d11, d12⟩ := hF.cells
      exact bodyPost_ret (v := .tuple #[.agg #[.int .i64 0, .int .i64 0, .int .i64 0, .int .i64 0, .int .i64 0, .int .i64 0, .int .i64 0, .bool false, .int .i64 0, .int .i64 0, .int .i64 0, .int .i64 0, (.slice none 0 0)], .int .i64 4]) (by simp [results, Tryz.results59, go_sem, d0, d1, d2, d3, d4, d5, d6, d7, d8, d9, d10, d11, d12]) rfl ⟨0, 0, 0, 0, 0, 0, 0, false, 0, 0, 0, 0, .slice none 0 0, rfl, hMF, fun h => absurd h NE, fun _ => ⟨rfl, rfl, rfl, rfl, rfl, rfl, rfl, rfl, rfl, rfl, rfl, rfl, rfl⟩⟩
    | nil =>
      generalize chk ⟨k', o', lf', i', p', ps', g', s', st', rs', rr', sq', l'⟩ = c at HC ⊢
      by_cases hc : c = 0
      case neg =>
        rw [if_pos (by simp [hc])]
        have NE : (4 : Int) ≠ 0 := by decide
        have hcn : (c != 0) = true := by simp [hc]
        have HX := True.intro
        go_enter Tryz.func59, Tryz.ntmps59
        go_wp2_with (fail)
        refine HN.mono ?_
        rintro e w1 ⟨r, v1, rfl, hr1, hm1, hp1, hp2, hg⟩
        have hA1 := hA.trans hm1 (V := fun _ => False) (fun _ _ h => h) (fun _ _ h => h)
        have hz1 := hz0.mod hm1 (fun h => h)
        go_wp2_with (fail)
        refine (HR r v1 w1 hr1 (fun g h => (hg g h).2)).mono ?_
        rintro e w2 ⟨k, o, lf, i, p, ps, g, s, st, rs, rr, sq, bv, rfl, hm2, hok, hbad⟩
        have hA2 : Mod (fun _ => False) w w2 := hA1.trans hm2 (fun _ _ h => h) (fun _ hi h => by omega)
        have hz2 := hz1.mod hm2 (by omega)
        have hs12 := hm2.size
        obtain ⟨he, ho, hf, v3, hr3⟩ := hok trivial
        simp only [Ms.mk.injEq] at he
        obtain ⟨rfl, rfl, rfl, rfl, rfl, rfl, rfl, rfl, rfl, rfl, rfl, rfl, _⟩ := he
        obtain ⟨ao, cap, rfl⟩ := ho.shape
        have hM5 := (Mod.refl (fun _ => False) w2).alloc (.cells #[.int .i64 k, .int .i64 o, .int .i64 lf, .int .i64 i, .int .i64 p, .int .i64 ps, .int .i64 g, .bool s, .int .i64 st, .int .i64 rs, .int .i64 rr, .int .i64 sq, (.slice ao l'.length cap)] 43)
        have hr4 := hr3.mod hM5 (fun h => h) (fun _ _ h => h)
        have hs4 := (ho.mod hM5 (fun _ _ h => h)).sl hbr
        have hz3 := hz2.mod hM5 (fun h => h)
        have hA3 := hA2.alloc (.cells #[.int .i64 k, .int .i64 o, .int .i64 lf, .int .i64 i, .int .i64 p, .int .i64 ps, .int .i64 g, .bool s, .int .i64 st, .int .i64 rs, .int .i64 rr, .int .i64 sq, (.slice ao l'.length cap)] 43)
        have HC5 := HC _ ao cap hs4
        clear hok HR HN HC
        go_wp2_with (fail)
        refine (Left_any r v3 [] _ hr4).mono ?_
        rintro e w5 ⟨rfl, rfl⟩
        go_wp2_with (fail)
        refine HC5.mono ?_
        rintro e w6 ⟨rfl, hm6⟩
        have hz6 := hz3.mod hm6 (fun h => h)
        have hfz := hz6.frz
        obtain ⟨a0, a1, a2, a3, a4, a5, a6, a7, a8, a9, a10, a11, a12⟩ := hz6.cells
        have hF := stm_mb hz6 0 0 0 0 0 0 0 false 0 0 0 0 (.slice none 0 0)
        have hMF := (hA3.trans hm6 (V := fun _ => False) (fun _ _ h => h) (fun _ _ h => h)).trans (stm_mod _ w.heap.size 0 0 0 0 0 0 0 false 0 0 0 0 (.slice none 0 0)) (V := fun _ => False) (fun _ _ h => h) (fun _ hi h => by omega)
        go_wp2
        show bodyPost _ _ _ _ _ (stm w6 w.heap.size 0 0 0 0 0 0 0 false 0 0 0 0 (.slice none 0 0))
        generalize stm w6 w.heap.size 0 0 0 0 0 0 0 false 0 0 0 0 (.slice none 0 0) = wF at hF hMF HX ⊢
        obtain ⟨d0, d1, d2, d3, d4, d5, d6, d7, d8, d9, d10, d11, d12⟩ := hF.cells
        exact bodyPost_ret (v := .tuple #[.agg #[.int .i64 0, .int .i64 0, .int .i64 0, .int .i64 0, .int .i64 0, .int .i64 0, .int .i64 0, .bool false, .int .i64 0, .int .i64 0, .int .i64 0, .int .i64 0, (.slice none 0 0)], .int .i64 4]) (by simp [results, Tryz.results59, go_sem, d0, d1, d2, d3, d4, d5, d6, d7, d8, d9, d10, d11, d12]) rfl ⟨0, 0, 0, 0, 0, 0, 0, false, 0, 0, 0, 0, .slice none 0 0, rfl, hMF, fun h => absurd h NE, fun _ => ⟨rfl, rfl, rfl, rfl, rfl, rfl, rfl, rfl, rfl, rfl, rfl, rfl, rfl⟩⟩
      case pos =>
        subst hc
        rw [if_neg (by simp)]
        have HX := True.intro
        go_enter Tryz.func59, Tryz.ntmps59
        go_wp2_with (fail)
        refine HN.mono ?_
        rintro e w1 ⟨r, v1, rfl, hr1, hm1, hp1, hp2, hg⟩
        have hA1 := hA.trans hm1 (V := fun _ => False) (fun _ _ h => h) (fun _ _ h => h)
        have hz1 := hz0.mod hm1 (fun h => h)
        go_wp2_with (fail)
        refine (HR r v1 w1 hr1 (fun g h => (hg g h).2)).mono ?_
        rintro e w2 ⟨k, o, lf, i, p, ps, g, s, st, rs, rr, sq, bv, rfl, hm2, hok, hbad⟩
        have hA2 : Mod (fun _ => False) w w2 := hA1.trans hm2 (fun _ _ h => h) (fun _ hi h => by omega)
        have hz2 := hz1.mod hm2 (by omega)
        have hs12 := hm2.size
        obtain ⟨he, ho, hf, v3, hr3⟩ := hok trivial
        simp only [Ms.mk.injEq] at he
        obtain ⟨rfl, rfl, rfl, rfl, rfl, rfl, rfl, rfl, rfl, rfl, rfl, rfl, _⟩ := he
        obtain ⟨ao, cap, rfl⟩ := ho.shape
        have hM5 := (Mod.refl (fun _ => False) w2).alloc (.cells #[.int .i64 k, .int .i64 o, .int .i64 lf, .int .i64 i, .int .i64 p, .int .i64 ps, .int .i64 g, .bool s, .int .i64 st, .int .i64 rs, .int .i64 rr, .int .i64 sq, (.slice ao l'.length cap)] 43)
        have hnew := MB.new w2 k o lf i p ps g s st rs rr sq (.slice ao l'.length cap)
        have hr4 := hr3.mod hM5 (fun h => h) (fun _ _ h => h)
        have ho4 := ho.mod hM5 (fun _ _ h => h)
        have hs4 := ho4.sl hbr
        have hz3 := hz2.mod hM5 (fun h => h)
        have hA3 := hA2.alloc (.cells #[.int .i64 k, .int .i64 o, .int .i64 lf, .int .i64 i, .int .i64 p, .int .i64 ps, .int .i64 g, .bool s, .int .i64 st, .int .i64 rs, .int .i64 rr, .int .i64 sq, (.slice ao l'.length cap)] 43)
        have HC5 := HC _ ao cap hs4
        clear hok HR HN HC
        go_wp2_with (fail)
        refine (Left_any r v3 [] _ hr4).mono ?_
        rintro e w5 ⟨rfl, rfl⟩
        go_wp2_with (fail)
        refine HC5.mono ?_
        rintro e w6 ⟨rfl, hm6⟩
        have hn6 := hnew.mod hm6 (fun h => h)
        obtain ⟨b0, b1, b2, b3, b4, b5, b6, b7, b8, b9, b10, b11, b12⟩ := hn6.cells
        have hz6 := hz3.mod hm6 (fun h => h)
        have hfz := hz6.frz
        obtain ⟨a0, a1, a2, a3, a4, a5, a6, a7, a8, a9, a10, a11, a12⟩ := hz6.cells
        have hF := stm_mb hz6 k o lf i p ps g s st rs rr sq (.slice ao l'.length cap)
        have hMS := stm_mod w6 w.heap.size k o lf i p ps g s st rs rr sq (.slice ao l'.length cap)
        have hMF := (hA3.trans hm6 (V := fun _ => False) (fun _ _ h => h) (fun _ _ h => h)).trans hMS (V := fun _ => False) (fun _ _ h => h) (fun _ hi h => by omega)
        have hoF := (ho4.mod hm6 (fun _ _ h => h)).mod hMS (fun g hg e => by have := hf g hg; omega)
        go_wp2
        show bodyPost _ _ _ _ _ (stm w6 w.heap.size k o lf i p ps g s st rs rr sq (.slice ao l'.length cap))
        generalize stm w6 w.heap.size k o lf i p ps g s st rs rr sq (.slice ao l'.length cap) = wF at hF hMF hoF ⊢
        obtain ⟨d0, d1, d2, d3, d4, d5, d6, d7, d8, d9, d10, d11, d12⟩ := hF.cells
        exact bodyPost_ret (v := .tuple #[.agg #[.int .i64 k, .int .i64 o, .int .i64 lf, .int .i64 i, .int .i64 p, .int .i64 ps, .int .i64 g, .bool s, .int .i64 st, .int .i64 rs, .int .i64 rr, .int .i64 sq, (.slice ao l'.length cap)], .int .i64 0]) (by simp [results, Tryz.results59, go_sem, d0, d1, d2, d3, d4, d5, d6, d7, d8, d9, d10, d11, d12]) rfl ⟨_, _, _, _, _, _, _, _, _, _, _, _, _, rfl, hMF, fun _ => ⟨rfl, hoF, fun g hg => by have := hf g hg; omega⟩, fun h => absurd rfl h⟩

/-- Check and Unpack, of bytes of any length. -/
theorem both_any : ∀ n : Nat, (∀ (L : List Int) (v : Value) (w : World), L.length = n → Sl w v L → L.length ≤ 140737488355328 → Calls Tryz.prog 59 #[v] w (Unp L w)) ∧
    (∀ (k o lf i p ps g : Int) (s : Bool) (st rs rr sq : Int) (ao : Option Addr) (cap : Nat) (l : List Int) (w : World), l.length = n → Sl w (.slice ao l.length cap) l → Calls Tryz.prog 51 #[.agg #[.int .i64 k, .int .i64 o, .int .i64 lf, .int .i64 i, .int .i64 p, .int .i64 ps, .int .i64 g, .bool s, .int .i64 st, .int .i64 rs, .int .i64 rr, .int .i64 sq, .slice ao l.length cap]] w fun e w' => e = .returned (.int .i64 (chk ⟨k, o, lf, i, p, ps, g, s, st, rs, rr, sq, l⟩)) ∧ Mod (fun _ => False) w w') := by
  intro n
  induction n using Nat.strongRecOn with
  | ind n ih =>
    have hU : ∀ (L : List Int) (v : Value) (w : World), L.length = n → Sl w v L → L.length ≤ 140737488355328 → Calls Tryz.prog 59 #[v] w (Unp L w) := by
      intro L v w hn hs hb
      refine Unpack_of v L w hs hb fun h0 W ao cap hW => ?_
      have hl := (pr_len h0).1
      exact (ih (prM L).body.length (by omega)).2 _ _ _ _ _ _ _ _ _ _ _ _ ao cap (prM L).body W rfl hW
    refine ⟨hU, ?_⟩
    intro k o lf i p ps g s st rs rr sq ao cap l w hn hs
    refine Check_of k o lf i p ps g s st rs rr sq ao cap l w hs fun hl hk W hW => ?_
    exact isOld_of k o lf i p ps g s st rs rr sq ao cap l W hW fun W' hW' => isBodyOfOld_of _ l W' (hU l _ W' hn hW' (by omega))
theorem Unpack_any (v : Value) (L : List Int) (w : World) (hs : Sl w v L) (hb : L.length ≤ 140737488355328) : Calls Tryz.prog 59 #[v] w (Unp L w) := (both_any L.length).1 L v w rfl hs hb
theorem Check_any (k o lf i p ps g : Int) (s : Bool) (st rs rr sq : Int) (ao : Option Addr) (cap : Nat) (l : List Int) (w : World) (hs : Sl w (.slice ao l.length cap) l) : Calls Tryz.prog 51 #[.agg #[.int .i64 k, .int .i64 o, .int .i64 lf, .int .i64 i, .int .i64 p, .int .i64 ps, .int .i64 g, .bool s, .int .i64 st, .int .i64 rs, .int .i64 rr, .int .i64 sq, .slice ao l.length cap]] w fun e w' => e = .returned (.int .i64 (chk ⟨k, o, lf, i, p, ps, g, s, st, rs, rr, sq, l⟩)) ∧ Mod (fun _ => False) w w' :=
  (both_any l.length).2 k o lf i p ps g s st rs rr sq ao cap l w rfl hs
end Go.Proofs.YthiijonmnebjgaaGreat
