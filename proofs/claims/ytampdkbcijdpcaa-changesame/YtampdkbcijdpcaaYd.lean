/- Contract of a window's Put of data that are new. Conditions: sizes that a slice of bytes has; as many data as a map can have. -/
import Derived.Test.YtampdkbcijdpcaaYc
namespace Go.Proofs.Ytampdkbcijdpcaa
open Go.RowKit Go.Maps
theorem Wm.c1 {w : World} {p : Nat} {X : Nat → Prop} {J : Int → Option Dt} {a h : Int} {n : Nat} (hw : Wm w p X J a h n) : w.cell? ⟨p, 1, none⟩ = some (.int .i64 a) ∧ w.frozen? ⟨p, 1, none⟩ = false := by
  obtain ⟨B, V, N, h1, _⟩ := hw.blk
  exact ⟨h1.cellv (j := 1) rfl, h1.frz 1⟩
set_option maxRecDepth 100000 in
set_option maxHeartbeats 4000000 in
theorem Put_new {w : World} {p : Nat} {X : Nat → Prop} {J : Int → Option Dt} {a h : Int} {n : Nat} (hw : Wn w p X J a h n) (d : Dt) (ao : Option Addr) (cap : Nat) (hs : Sl w (.slice ao d.m.body.length cap) d.m.body) (hb : d.m.body.length ≤ 140737488355328) (ho : okP d = true) (hN : n < 1000000000000) (hJ : (J d.n).isSome = false) :
    Calls Try.prog 9 #[.pointer (some ⟨p, 0, none⟩), dv d (.slice ao d.m.body.length cap)] w fun e w' => ∃ X' a', e = .returned (.tuple #[.bool true, .int .i64 0]) ∧ Wn w' p X' (upd J d.n (some d)) a' (max h d.n) (n + 1) ∧ a ≤ a' ∧ Mod X w w' ∧ Gone w X X' := by
  have hA := (Mod.refl (fun _ => False) w).alloc (.cells #[.int .i64 d.q, .int .i64 d.r, .int .i64 d.n, .int .i64 d.s, .int .i64 d.t, .int .i64 d.m.kind, .int .i64 d.m.origin, .int .i64 d.m.life, .int .i64 d.m.id, .int .i64 d.m.part, .int .i64 d.m.parts, .int .i64 d.m.groups, .bool d.m.safe, .int .i64 d.m.st, .int .i64 d.m.rs, .int .i64 d.m.rr, .int .i64 d.m.sq, .slice ao d.m.body.length cap] 44)
  have hD := Bk.new w #[.int .i64 d.q, .int .i64 d.r, .int .i64 d.n, .int .i64 d.s, .int .i64 d.t, .int .i64 d.m.kind, .int .i64 d.m.origin, .int .i64 d.m.life, .int .i64 d.m.id, .int .i64 d.m.part, .int .i64 d.m.parts, .int .i64 d.m.groups, .bool d.m.safe, .int .i64 d.m.st, .int .i64 d.m.rs, .int .i64 d.m.rr, .int .i64 d.m.sq, .slice ao d.m.body.length cap] 44
  have HW : Hid (Wn _ p X J a h n) := hw.keep hA
  obtain ⟨B, V, N, h1, h2, _, _, h5⟩ := HW.out.mem.blk
  have HN := isNone_w (h1.cellv (j := 0) rfl)
  have HC := CheckRing d.q d.r (w.alloc (.cells #[.int .i64 d.q, .int .i64 d.r, .int .i64 d.n, .int .i64 d.s, .int .i64 d.t, .int .i64 d.m.kind, .int .i64 d.m.origin, .int .i64 d.m.life, .int .i64 d.m.id, .int .i64 d.m.part, .int .i64 d.m.parts, .int .i64 d.m.groups, .bool d.m.safe, .int .i64 d.m.st, .int .i64 d.m.rs, .int .i64 d.m.rr, .int .i64 d.m.sq, .slice ao d.m.body.length cap] 44))
  obtain ⟨o1, o2, o3⟩ := okP_parts ho
  rw [o1] at HC
  have hn0 : ¬ d.n < 1 := by omega
  have hn1 : ¬ 9007199254740991 < d.n := by omega
  have HI : Hid (I64 d.n) := ⟨by omega, by omega⟩
  have HR : Hid (1 ≤ d.n ∧ d.n ≤ 9007199254740991) := ⟨o2, o3⟩
  have HWP : Hid (Wn w p X J a h n) := hw
  have HSL : Hid (Sl w _ _) := hs
  have HD : Hid (Bk _ _ _ _) := hD
  have HA : Hid (Mod _ _ _) := hA
  clear h1 h2 h5 hw hD hA hs o1 o2 o3 ho
  unfold dv
  go_enter Try.func9, Try.ntmps9
  go_wp2_with (first | (go_at_call 28; refine HN.mono ?_; rintro e w' ⟨rfl, rfl⟩) | (go_at_call 29; refine HC.mono ?_; rintro e w1 ⟨rfl, hm1⟩; have c2 := (HD.out.other' hm1).cellv (j := 2) rfl))
  have HM1 : Hid (Mod _ _ _) := HA.out.and hm1
  have HD1 : Hid (Bk _ _ _ _) := HD.out.other' hm1
  have HW1 : Hid (Wn w1 p X J a h n) := HW.out.keep hm1
  have HH := has_w HW1.out.mem d.n HI.out
  clear hm1 HC HN HD HA HW
  rw [hJ] at HH
  have HJ : Hid ((J d.n).isSome = false) := hJ
  clear hJ
  refine HH.mono ?_
  rintro e w2 ⟨rfl, hm2⟩
  have HM2 : Hid (Mod _ w w2) := HM1.out.and hm2
  have HD2 : Hid (Bk w2 _ _ _) := HD1.out.other' hm2
  have HW2 : Hid (Wn w2 p X J a h n) := HW1.out.keep hm2
  clear hm2 HM1 HD1 HW1 HH c2
  go_upto_region 7 with (fail)
  obtain ⟨B, V, N, h1, h2, h3, h4, h5⟩ := HW2.out.mem.blk
  have c0 : w2.cell? ⟨p, 0, none⟩ = some (.map (some B)) := h1.cellv (j := 0) rfl
  obtain ⟨db, edb⟩ : ∃ db, db = w.heap.size := ⟨_, rfl⟩
  have hD2 := HD2.out
  rw [← edb] at hD2 ⊢
  have HDB : Hid (db = w.heap.size) := edb
  clear edb HD2
  have m0 : w2.cell? ⟨db, 0, none⟩ = some (.int .i64 d.q) := hD2.cellv (j := 0) rfl
  have m1 : w2.cell? ⟨db, 1, none⟩ = some (.int .i64 d.r) := hD2.cellv (j := 1) rfl
  have m2 : w2.cell? ⟨db, 2, none⟩ = some (.int .i64 d.n) := hD2.cellv (j := 2) rfl
  have m3 : w2.cell? ⟨db, 3, none⟩ = some (.int .i64 d.s) := hD2.cellv (j := 3) rfl
  have m4 : w2.cell? ⟨db, 4, none⟩ = some (.int .i64 d.t) := hD2.cellv (j := 4) rfl
  have m5 : w2.cell? ⟨db, 5, none⟩ = some (.int .i64 d.m.kind) := hD2.cellv (j := 5) rfl
  have m6 : w2.cell? ⟨db, 6, none⟩ = some (.int .i64 d.m.origin) := hD2.cellv (j := 6) rfl
  have m7 : w2.cell? ⟨db, 7, none⟩ = some (.int .i64 d.m.life) := hD2.cellv (j := 7) rfl
  have m8 : w2.cell? ⟨db, 8, none⟩ = some (.int .i64 d.m.id) := hD2.cellv (j := 8) rfl
  have m9 : w2.cell? ⟨db, 9, none⟩ = some (.int .i64 d.m.part) := hD2.cellv (j := 9) rfl
  have m10 : w2.cell? ⟨db, 10, none⟩ = some (.int .i64 d.m.parts) := hD2.cellv (j := 10) rfl
  have m11 : w2.cell? ⟨db, 11, none⟩ = some (.int .i64 d.m.groups) := hD2.cellv (j := 11) rfl
  have m12 : w2.cell? ⟨db, 12, none⟩ = some (.bool d.m.safe) := hD2.cellv (j := 12) rfl
  have m13 : w2.cell? ⟨db, 13, none⟩ = some (.int .i64 d.m.st) := hD2.cellv (j := 13) rfl
  have m14 : w2.cell? ⟨db, 14, none⟩ = some (.int .i64 d.m.rs) := hD2.cellv (j := 14) rfl
  have m15 : w2.cell? ⟨db, 15, none⟩ = some (.int .i64 d.m.rr) := hD2.cellv (j := 15) rfl
  have m16 : w2.cell? ⟨db, 16, none⟩ = some (.int .i64 d.m.sq) := hD2.cellv (j := 16) rfl
  have m17 : w2.cell? ⟨db, 17, none⟩ = some (.slice ao d.m.body.length cap) := hD2.cellv (j := 17) rfl
  have hdr := (Mod.refl (fun _ => False) w2).drew
  have HC := clone_st d _ w2.drew ((HSL.out.mod (HM2.out) (fun _ _ h => h)).mod hdr (fun _ _ h => h)) hb
  have HB : Hid (Bk w2 p 76 #[.map (some B), .int .i64 a, .int .i64 h]) := h1
  have HX : Hid (Mn w2 B J V N) := h2
  have HV : Hid (N ≤ n ∧ X B ∧ ∀ k d, J k = some d → Own w2 (V k) d.m.body ∧ ∀ g, (V k).ownBlock = some g → X g) := ⟨h3, h4, h5⟩
  have HDD : Hid (Bk w2 db 44 _) := hD2
  clear h1 h2 h3 h4 h5 hD2
  unfold dv at HC
  go_cut [] (fun wx => P7 w2 wx p B X J a h n d)
  case first =>
    go_region_law (refine step_cl (by rfl) _ (by rfl) _ (by rfl) _ HC ?_; rintro r w3 ⟨a3, c3, rfl, ho3, hm3, hg3⟩; have HG3 : Hid (∀ g, (Value.slice a3 d.m.body.length c3).ownBlock = some g → w2.drew.heap.size ≤ g) := hg3; clear hg3; replace c0 : w3.cell? ⟨p, 0, none⟩ = some (.map (some B)) := hm3.cell c0 (fun h => h); replace m2 : w3.cell? ⟨db, 2, none⟩ = some (.int .i64 d.n) := hm3.cell m2 (fun h => h); obtain ⟨w4, hrun, hX4, htu⟩ := ((HX.out.mod hdr (fun h => h)).mod hm3 (fun h => h)).store HI.out HJ.out (by have := HV.out.1; unfold maxLen; omega) d (.slice a3 d.m.body.length c3); unfold dv at hrun)
    all_goals go_wp2
    all_goals go_meet
    all_goals exact ⟨⟨.slice a3 d.m.body.length c3, Wm.put ((HB.out.mod hdr (fun h => h)).mod hm3 (fun h => h)) ((HX.out.mod hdr (fun h => h)).mod hm3 (fun h => h)) HV.out.1 HV.out.2.1 (fun k z hz => ⟨(((HV.out.2.2 k z hz).1.mod hdr (fun _ _ h => h)).mod hm3 (fun _ _ h => h)), (HV.out.2.2 k z hz).2⟩) HW2.out.mem.px (fun i hi => Nat.lt_of_lt_of_le (HW2.out.mem.lt i hi) (hdr.and hm3).size) ho3 ((Mod.refl (fun i => i = B) w3).turned htu (.inl rfl)) hX4, ((hdr.and hm3).none).trans ((Mod.refl (fun i => i = B) w3).turned htu (.inl rfl)) (fun _ _ h => h) (fun _ _ h => h), fun g hg => HG3.out g hg⟩⟩
  case rest =>
  obtain ⟨⟨v, hW4, hm4, hg4⟩⟩ := hcut
  generalize wc = w4 at *
  clear HC m0 m1 m2 m3 m4 m5 m6 m7 m8 m9 m10 m11 m12 m13 m14 m15 m16 m17 c0 hdr
  obtain ⟨B', V', N', k1, _, _, _, _⟩ := hW4.blk
  have c2 : w4.cell? ⟨p, 2, none⟩ = some (.int .i64 h) := k1.cellv (j := 2) rfl
  have f2 : w4.frozen? ⟨p, 2, none⟩ = false := k1.frz 2
  have m2 : w4.cell? ⟨db, 2, none⟩ = some (.int .i64 d.n) := (HDD.out.mod hm4 (fun e => HDD.out.ne_map HX.out e.symm)).cellv (j := 2) rfl
  clear k1
  go_upto_region 8 with (fail)
  go_cut [] (fun wx => Wm wx p (fun i => X i ∨ v.ownBlock = some i) (upd J d.n (some d)) a (max h d.n) (n + 1) ∧ Mod (fun i => i = p) w4 wx)
  case first =>
    go_region
    all_goals go_wp2
    all_goals go_meet
    all_goals exact ⟨(hW4.keep ((Mod.refl _ w4).drew)).top _, ((Mod.refl (fun i => i = p) w4).drew).setCell _ _ (.inl rfl)⟩
  case rest =>
  obtain ⟨hW5, hm5⟩ := hcut
  generalize wc = w5 at *
  have HM5 : Hid (Mod X w w5) := ((HM2.out.none).trans hm4 (fun _ _ h => h) (fun i _ e => by rw [e]; exact HV.out.2.1)).trans hm5 (fun _ _ h => h) (fun i _ e => by rw [e]; exact HW2.out.mem.px)
  have HG : Hid (Gone w X (fun i => X i ∨ v.ownBlock = some i)) := fun i hi => by
    rcases hi with hi | hi
    · exact .inl hi
    · exact .inr (Nat.le_trans HM2.out.size (hg4 i hi))
  have HP : Hid (X p) := HW2.out.mem.px
  generalize (fun i => X i ∨ v.ownBlock = some i) = X' at *
  clear hW4 hm4 hg4 hm5 c2 f2 m2 HX HB HV HDD HDB
  have HEACH : Hid (∀ k, ((upd J d.n (some d)) k).isSome = true → 1 ≤ k ∧ k ≤ 9007199254740991) := fun k hk => by
    by_cases e : k = d.n
    · rw [e]; exact HR.out
    · rw [upd_other J _ e] at hk
      exact HWP.out.wp.some_i hk
  have HUP : Hid (∀ k, (J k).isSome = true → ((upd J d.n (some d)) k).isSome = true) := fun k hk => by
    by_cases e : k = d.n
    · rw [e, upd_same]; rfl
    · rw [upd_other J _ e]; exact hk
  have HFIN : Hid (∀ a', 0 ≤ a' → (∀ k, 1 ≤ k → k ≤ a' → ((upd J d.n (some d)) k).isSome = true) → (upd J d.n (some d)) (a' + 1) = none → Wp (upd J d.n (some d)) a' (max h d.n)) := fun a' q0 q1 q2 => by
    refine ⟨fun k z hz => ?_, ⟨q0, q1, q2⟩, ?_⟩
    · by_cases e : k = d.n
      · rw [e, upd_same] at hz
        cases hz
        exact ⟨e.symm, by have := HR.out; omega, by have := HR.out; omega, HSL.out.rng, hb⟩
      · rw [upd_other J _ e] at hz
        exact HWP.out.wp.each k z hz
    · obtain ⟨b1, b2, b3⟩ := HWP.out.wp.high
      have := HR.out
      refine ⟨by omega, by omega, fun k hk => ?_⟩
      by_cases e : k = d.n
      · omega
      · rw [upd_other J _ e] at hk
        have := b3 k hk
        omega
  have HA0 : Hid (0 ≤ a ∧ ∀ k, 1 ≤ k → k ≤ a → ((upd J d.n (some d)) k).isSome = true) := ⟨HWP.out.wp.aru.1, fun k k1 k2 => HUP.out k (HWP.out.wp.aru.2.1 k k1 k2)⟩
  obtain ⟨J', eJ⟩ : ∃ x, x = upd J d.n (some d) := ⟨_, rfl⟩
  obtain ⟨h', eh⟩ : ∃ x, x = max h d.n := ⟨_, rfl⟩
  rw [← eJ] at HEACH HFIN HA0 hW5
  rw [← eh] at HFIN hW5
  have HJE : Hid (J' = upd J d.n (some d)) := eJ
  have HHE : Hid (h' = max h d.n) := eh
  clear eJ eh
  clear HUP HJ HSL HI HR HWP HW2 HM2
  go_wp2
  go_loopw [53] (fun _ wr => ∃ a', Wm wr p X' J' a' h' (n + 1) ∧ a ≤ a' ∧ 0 ≤ a' ∧ Hid (∀ k, 1 ≤ k → k ≤ a' → (J' k).isSome = true) ∧ Mod X w wr) (fun _ wr => 9007199254740992 - aruOf wr p)
  case atStart => exact ⟨a, hW5, Int.le_refl _, HA0.out.1, HA0.out.2, HM5.out⟩
  case round =>
    obtain ⟨a', hWr, ha, ha0, hall, hMr⟩ := hrel
    have HMAX : Hid (a' ≤ 9007199254740991) := by
      show a' ≤ 9007199254740991
      rcases Int.lt_or_le a' 1 with h | h
      · omega
      · exact (HEACH.out a' (hall.out a' h (Int.le_refl _))).2
    have hi1 : I64 (a' + 1) := ⟨by omega, by have := HMAX.out; omega⟩
    have HH := has_w hWr (a' + 1) hi1
    have hwrap : IntKind.i64.wrap (a' + 1) = a' + 1 := by rw [IntKind.wrap_i64]; have := HMAX.out; omega
    have c1 : wr.cell? ⟨p, 1, none⟩ = some (.int .i64 a') := hWr.c1.1
    have HWr : Hid (Wm wr p X' J' a' h' (n + 1)) := hWr
    clear hWr
    cases hj : (J' (a' + 1)).isSome with
    | false =>
      rw [hj] at HH
      have HJ1 : Hid (J' (a' + 1) = none) := by show J' (a' + 1) = none; simpa using hj
      clear hj
      go_wp2_with (go_at_call 30; refine HH.mono ?_; rintro e w6 ⟨rfl, hm6⟩)
      go_ret2
      exact ⟨X', a', rfl, by rw [← HJE.out, ← HHE.out]; exact ⟨HWr.out.keep hm6, HFIN.out a' ha0 hall.out HJ1.out⟩, ha, hMr.trans hm6 (fun _ _ h => h) (fun _ _ h => h.elim), HG.out⟩
    | true =>
      rw [hj] at HH
      have HJ1 : Hid ((J' (a' + 1)).isSome = true) := hj
      clear hj
      go_wp2_with (go_at_call 30; refine HH.mono ?_; rintro e w6 ⟨rfl, hm6⟩; have c1' : w6.cell? ⟨p, 1, none⟩ = some (.int .i64 a') := hm6.cell c1 (fun h => h); have f1' := (HWr.out.keep hm6).c1.2)
      have hW7 := (HWr.out.keep hm6).up (a' + 1)
      have HW7 : Hid (Wm _ p X' J' (a' + 1) h' (n + 1)) := hW7
      clear hW7
      go_roundw
      case rel => exact ⟨a' + 1, HW7.out, by omega, by omega, fun k q1 q2 => by
        rcases Int.lt_or_le a' k with h | h
        · obtain rfl : k = a' + 1 := by omega
          exact HJ1.out
        · exact hall.out k q1 h, (hMr.trans hm6 (fun _ _ h => h) (fun _ _ h => h.elim)).setCell _ _ (.inl HP.out)⟩
      case measure =>
        rw [HW7.out.aruOf, HWr.out.aruOf]
        have := HMAX.out
        omega
end Go.Proofs.Ytampdkbcijdpcaa
