/- Contracts of parcel's readPlaces, Places, and of what a chart has. Conditions: sizes that a slice of bytes has. -/
import Derived.Test.YthiijonmnebjgaaGreatCq
namespace Go.Proofs.YthiijonmnebjgaaGreat
open Go.RowKit
theorem rpv_rng : ∀ n l, ∀ p ∈ rpv n l, I64 p.ring ∧ I64 p.mb
  | 0, _ => by simp [rpv]
  | n + 1, l => by
    rw [rpv_succ]
    split
    · intro p hp
      rcases List.mem_cons.1 hp with rfl | hp
      · have h0 := nums_getD (rdv_nums 4 l) 0
        have h3 := nums_getD (rdv_nums 4 l) 3
        unfold I64 plc
        dsimp only
        omega
      · exact rpv_rng n _ p hp
    · simp
theorem readPlaces (r : Nat) (v : Value) (L : List Int) (w : World) (h : Rd w r v L) (hv : ∀ g, v.ownBlock = some g → g < w.heap.size) :
    Calls Tryz.prog 128 #[.pointer (some ⟨r, 0, none⟩)] w fun e w' => ∃ v1, e = .returned (.tuple #[v1, .int .i64 (rlE L)]) ∧ Mod (fun x => x = r) w w' ∧
      (rlE L ≠ 0 → v1 = .slice none 0 0) ∧
      (rlE L = 0 → SlP w' v1 (plL L) ∧ (∀ g, v1.ownBlock = some g → w.heap.size ≤ g ∧ g < w'.heap.size) ∧ ∃ v', Rd w' r v' (rpr (plN L).toNat (rdr 1 L))) := by
  by_cases h1 : rde 1 L = 0
  · by_cases h4 : 4 < plN L
    · have H := get1_start r v L w h hv
      have hE : rlE L = 5 := by unfold rlE; rw [if_neg (by simp [h1]), if_pos h4]
      rw [hE]
      rw [h1] at H
      generalize plN L = N at H h4
      clear h hv h1 hE
      go_enter Tryz.func128, Tryz.ntmps128
      go_wp2_with (fail)
      refine H.mono ?_
      rintro e w1 ⟨rfl, v1, hr1, hm1, ho1, hs1, hok⟩
      have c0 := (hok trivial).cell
      go_wp2
      go_ret2
      exact ⟨_, rfl, hm1, fun _ => rfl, fun h => absurd h (by decide)⟩
    · have hE : rlE L = rpe (plN L).toNat (rdr 1 L) := by unfold rlE; rw [if_neg (by simp [h1]), if_neg h4]
      rw [hE]
      refine (readPlaces_go r v L w h hv h1 (by omega)).mono ?_
      rintro e w' ⟨v1, rfl, hm, hn, hok⟩
      refine ⟨v1, rfl, hm, hn, fun h0 => ?_⟩
      obtain ⟨b, rfl, hpa, hb1, hb2, hr⟩ := hok h0
      have hN0 : 0 ≤ plN L := (nums_getD (rdv_nums 1 L) 0).1
      refine ⟨hpa.slp (rpv_len _ _ h0) (by omega) (rpv_rng _ _), ?_, hr⟩
      intro g hg
      simp only [Value.ownBlock, Option.some.injEq] at hg
      omega
  · have H := get1_start r v L w h hv
    have hE : rlE L = rde 1 L := by unfold rlE; rw [if_pos h1]
    rw [hE]
    have hen : (rde 1 L != 0) = true := by simp [h1]
    generalize rde 1 L = E at H h1 hen ⊢
    clear h hv hE
    go_enter Tryz.func128, Tryz.ntmps128
    go_wp2_with (fail)
    refine H.mono ?_
    rintro e w1 ⟨rfl, v1, hr1, hm1, ho1, hs1, hok⟩
    go_wp2
    go_ret2
    exact ⟨_, rfl, hm1, fun _ => rfl, fun h => absurd h h1⟩
set_option maxRecDepth 100000 in
/-- Places: the places of a body, in memory of their own, or what is wrong with it. -/
theorem Places (v : Value) (L : List Int) (w : World) (h : Sl w v L) (hb : L.length ≤ 140737488355328) :
    Calls Tryz.prog 125 #[v] w fun e w' => ∃ v1, e = .returned (.tuple #[v1, .int .i64 (plE L)]) ∧ Mod (fun _ => False) w w' ∧
      (plE L ≠ 0 → v1 = .slice none 0 0) ∧ (plE L = 0 → SlP w' v1 (plL L) ∧ (∀ g, v1.ownBlock = some g → w.heap.size ≤ g ∧ g < w'.heap.size)) := by
  have HN := New_any v L w h hb
  clear h
  rw [plE_rl]
  by_cases h0 : rlE L = 0
  case neg =>
    rw [if_pos h0]
    have HR := fun r v w h hv => readPlaces r v L w h hv
    have hen : (rlE L != 0) = true := by simp [h0]
    generalize rlE L = E at HR h0 hen ⊢
    go_enter Tryz.func125, Tryz.ntmps125
    go_wp2_with (fail)
    refine HN.mono ?_
    rintro e w1 ⟨p, v1, rfl, hr1, hm1, hp1, hp2, hg⟩
    go_wp2_with (fail)
    refine (HR p v1 w1 hr1 (fun g h => (hg g h).2)).mono ?_
    rintro e w2 ⟨v2, rfl, hm2, hnil, _⟩
    obtain rfl := hnil h0
    go_wp2
    go_ret2
    exact ⟨_, rfl, hm1.trans hm2 (fun _ _ h => h) (fun _ hi h => by omega), fun _ => rfl, fun h => absurd h h0⟩
  case pos =>
    rw [if_neg (by simp [h0])]
    have HR := fun r v w h hv => readPlaces r v L w h hv
    rw [h0] at HR
    generalize rpr (plN L).toNat (rdr 1 L) = R at HR ⊢
    generalize plL L = l at HR ⊢
    have HA := fun v w h => areHeld v l w h
    cases R with
    | cons x R =>
      rw [if_pos (by simp)]
      clear HA
      have hlen : 0 < (x :: R).length := by simp
      generalize x :: R = R' at HR hlen
      go_enter Tryz.func125, Tryz.ntmps125
      go_wp2_with (fail)
      refine HN.mono ?_
      rintro e w1 ⟨p, v1, rfl, hr1, hm1, hp1, hp2, hg⟩
      go_wp2_with (fail)
      refine (HR p v1 w1 hr1 (fun g h => (hg g h).2)).mono ?_
      rintro e w2 ⟨v2, rfl, hm2, _, hok⟩
      obtain ⟨hs, hf, v3, hr3⟩ := hok trivial
      go_wp2_with (fail)
      refine (Left_any p v3 R' w2 hr3).mono ?_
      rintro e w3 ⟨rfl, rfl⟩
      go_wp2
      go_ret2
      exact ⟨_, rfl, hm1.trans hm2 (fun _ _ h => h) (fun _ hi h => by omega), fun _ => rfl, fun h => absurd h (by decide)⟩
    | nil =>
      cases hh : held 0 l with
      | false =>
        rw [hh] at HA
        rw [if_pos (by simp)]
        clear hh
        go_enter Tryz.func125, Tryz.ntmps125
        go_wp2_with (fail)
        refine HN.mono ?_
        rintro e w1 ⟨p, v1, rfl, hr1, hm1, hp1, hp2, hg⟩
        go_wp2_with (fail)
        refine (HR p v1 w1 hr1 (fun g h => (hg g h).2)).mono ?_
        rintro e w2 ⟨v2, rfl, hm2, _, hok⟩
        obtain ⟨hs, hf, v3, hr3⟩ := hok trivial
        go_wp2_with (fail)
        refine (Left_any p v3 [] w2 hr3).mono ?_
        rintro e w3 ⟨rfl, rfl⟩
        go_wp2_with (fail)
        refine (HA _ _ hs).mono ?_
        rintro e w4 ⟨rfl, hm4⟩
        go_wp2
        go_ret2
        exact ⟨_, rfl, (hm1.trans hm2 (V := fun _ => False) (fun _ _ h => h) (fun _ hi h => by omega)).trans hm4 (fun _ _ h => h) (fun _ _ h => h), fun _ => rfl, fun h => absurd h (by decide)⟩
      | true =>
        rw [hh] at HA
        rw [if_neg (by simp)]
        clear hh
        go_enter Tryz.func125, Tryz.ntmps125
        go_wp2_with (fail)
        refine HN.mono ?_
        rintro e w1 ⟨p, v1, rfl, hr1, hm1, hp1, hp2, hg⟩
        go_wp2_with (fail)
        refine (HR p v1 w1 hr1 (fun g h => (hg g h).2)).mono ?_
        rintro e w2 ⟨v2, rfl, hm2, _, hok⟩
        obtain ⟨hs, hf, v3, hr3⟩ := hok trivial
        go_wp2_with (fail)
        refine (Left_any p v3 [] w2 hr3).mono ?_
        rintro e w3 ⟨rfl, rfl⟩
        go_wp2_with (fail)
        refine (HA _ _ hs).mono ?_
        rintro e w4 ⟨rfl, hm4⟩
        have hs4 := hs.mod hm4 (fun _ _ _ h => h)
        have := hm1.size
        have h4s := hm4.size
        go_wp2
        go_ret2
        exact ⟨_, rfl, (hm1.trans hm2 (V := fun _ => False) (fun _ _ h => h) (fun _ hi h => by omega)).trans hm4 (fun _ _ h => h) (fun _ _ h => h), fun h => absurd rfl h, fun _ => ⟨hs4, fun g hg => by have := hf g hg; omega⟩⟩
theorem isBodyOfPlaces (v : Value) (L : List Int) (w : World) (h : Sl w v L) (hb : L.length ≤ 140737488355328) :
    Calls Tryz.prog 113 #[v] w fun e w' => e = .returned (.bool (plE L == 0)) ∧ Mod (fun _ => False) w w' := by
  have H := Places v L w h hb
  generalize plE L = E at H ⊢
  clear h
  go_enter Tryz.func113, Tryz.ntmps113
  go_wp2_with (fail)
  refine H.mono ?_
  rintro e w1 ⟨v1, rfl, hm, _, _⟩
  go_wp2
  go_ret
  exact ⟨rfl, hm⟩

set_option maxHeartbeats 2000000 in
theorem isChart (k o lf i p ps g : Int) (s : Bool) (st rs rr sq : Int) (ao : Option Addr) (cap : Nat) (l : List Int) (w : World) (hs : Sl w (.slice ao l.length cap) l) (hb : l.length ≤ 140737488355328) : Calls Tryz.prog 90 #[.agg #[.int .i64 k, .int .i64 o, .int .i64 lf, .int .i64 i, .int .i64 p, .int .i64 ps, .int .i64 g, .bool s, .int .i64 st, .int .i64 rs, .int .i64 rr, .int .i64 sq, .slice ao l.length cap]] w fun e w' => e = .returned (.bool (ch ⟨k, o, lf, i, p, ps, g, s, st, rs, rr, sq, l⟩)) ∧ Mod (fun _ => False) w w' := by
  have H := isClients k o lf i p ps g s st rs rr sq ao cap l
  have hm0 := MB.new w k o lf i p ps g s st rs rr sq (.slice ao l.length cap)
  have hA := (Mod.refl (fun _ => False) w).alloc (.cells #[.int .i64 k, .int .i64 o, .int .i64 lf, .int .i64 i, .int .i64 p, .int .i64 ps, .int .i64 g, .bool s, .int .i64 st, .int .i64 rs, .int .i64 rr, .int .i64 sq, .slice ao l.length cap] 43)
  have HP := fun W h => isBodyOfPlaces (.slice ao l.length cap) l W h hb
  unfold ch
  dsimp only
  generalize plE l = E at HP ⊢
  cases hc : pln ⟨k, o, lf, i, p, ps, g, s, st, rs, rr, sq, l⟩ with
  | false =>
    rw [hc] at H
    go_enter Tryz.func90, Tryz.ntmps90
    go_wp2_with (fail)
    refine (H _).mono ?_
    rintro e w1 ⟨rfl, hm⟩
    have hmw := hA.trans hm (V := fun _ => False) (fun _ _ h => h) (fun _ _ h => h)
    have hs1 := hs.mod hmw (fun _ _ h => h)
    obtain ⟨a0, a1, a2, a3, a4, a5, a6, a7, a8, a9, a10, a11, a12⟩ := MB.cells (hm0.mod hm (fun h => h))
    go_wp2
    go_ret
    refine ⟨?_, hmw⟩
    clear hs hs1 HP H hm0 hA hm hmw a0 a1 a2 a3 a4 a5 a6 a7 a8 a9 a10 a11 a12
    simp
  | true =>
    rw [hc] at H
    by_cases hi : i = 0
    · subst hi
      go_enter Tryz.func90, Tryz.ntmps90
      go_wp2_with (fail)
      refine (H _).mono ?_
      rintro e w1 ⟨rfl, hm⟩
      have hmw := hA.trans hm (V := fun _ => False) (fun _ _ h => h) (fun _ _ h => h)
      have hs1 := hs.mod hmw (fun _ _ h => h)
      obtain ⟨a0, a1, a2, a3, a4, a5, a6, a7, a8, a9, a10, a11, a12⟩ := MB.cells (hm0.mod hm (fun h => h))
      go_wp2_with (fail)
      refine (HP _ hs1).mono ?_
      rintro e w2 ⟨rfl, hm2⟩
      replace hmw := hmw.trans hm2 (V := fun _ => False) (fun _ _ h => h) (fun _ _ h => h)
      go_wp2
      go_ret
      refine ⟨?_, hmw⟩
      clear hm2 hs hs1 HP H hm0 hA hm hmw a0 a1 a2 a3 a4 a5 a6 a7 a8 a9 a10 a11 a12
      simp
    · have hib : (i == 0) = false := by simp [hi]
      go_enter Tryz.func90, Tryz.ntmps90
      go_wp2_with (fail)
      refine (H _).mono ?_
      rintro e w1 ⟨rfl, hm⟩
      have hmw := hA.trans hm (V := fun _ => False) (fun _ _ h => h) (fun _ _ h => h)
      have hs1 := hs.mod hmw (fun _ _ h => h)
      obtain ⟨a0, a1, a2, a3, a4, a5, a6, a7, a8, a9, a10, a11, a12⟩ := MB.cells (hm0.mod hm (fun h => h))
      go_wp2
      go_ret
      refine ⟨?_, hmw⟩
      clear hs hs1 HP H hm0 hA hm hmw a0 a1 a2 a3 a4 a5 a6 a7 a8 a9 a10 a11 a12
      simp [hi]
end Go.Proofs.YthiijonmnebjgaaGreat
