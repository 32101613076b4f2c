/- The document's Stamp and Kin. Conditions: sizes that a slice has. -/
import Derived.Test.YtlekmgjjjniomaaUw
import Derived.Test.YtlekmgjjjniomaaUh
import Derived.Lib.MinMax
import Derived.OwnWalk
namespace Go.Proofs.Ytlekmgjjjniomaa
open Go.RowKit
set_option maxRecDepth 100000 in
set_option maxHeartbeats 4000000 in
theorem dStamp (w : World) (v : Value) (c : Cm) (h : Cv w v c) (hhp : I64 c.hop) : Calls Try.prog 24 #[v] w fun e w' => e = .returned (.int .i64 (stC c)) ∧ Mod (fun _ => False) w w' := by
  obtain ⟨rs, rr, mm, hp, ce⟩ := c
  obtain ⟨cao, ccap, rfl, hs⟩ := h.form
  simp only at *
  have HC := fun W hs => dCheck19 rs rr mm hp cao ccap ce W hs hhp
  have hM := (Mod.refl (fun _ => False) w).alloc (.cells #[.int .i64 rs, .int .i64 rr, .int .i64 mm, .int .i64 hp, .slice cao ce.length ccap] 26)
  have hB := Bk.new w #[.int .i64 rs, .int .i64 rr, .int .i64 mm, .int .i64 hp, .slice cao ce.length ccap] 26
  replace hs := hs.keep hM
  have hck : ckC ⟨rs, rr, mm, hp, ce⟩ = if okC ⟨rs, rr, mm, hp, ce⟩ = true then 0 else 2 := rfl
  have hst : stC ⟨rs, rr, mm, hp, ce⟩ = if okC ⟨rs, rr, mm, hp, ce⟩ = true then min (topE ce 0 + 1) 9007199254740991 else 0 := rfl
  rw [hck] at HC
  rw [hst]
  clear h hck hst
  by_cases hok : okC ⟨rs, rr, mm, hp, ce⟩ = true
  · have hw := okC_wl hok
    have hl8 := (okC_hop hok).2.2.2.2.2
    simp only at hw hl8
    rw [if_pos hok] at HC ⊢
    clear hok
    have hR : Hid (topE ce 0 = topE (ce.drop 0) 0) := rfl
    generalize topE ce 0 = R at hR ⊢
    go_enter Try.func24, Try.ntmps24
    go_wp2_with (fail)
    refine (HC _ hs).mono ?_
    rintro e w1 ⟨rfl, hm1⟩
    replace hM := hM.and hm1
    replace hs := hs.keep hm1
    have a4 := (hB.mod hm1 (fun h => h)).cellv (j := 4) rfl
    have HS : Hid (SlE w1 (.slice cao ce.length ccap) ce ∧ Mod (fun _ => False) w w1 ∧ Wl ce ∧ Bk w1 w.heap.size 26 #[.int .i64 rs, .int .i64 rr, .int .i64 mm, .int .i64 hp, .slice cao ce.length ccap]) := ⟨hs, hM, hw, hB.mod hm1 (fun h => h)⟩
    clear HC hs hM hw hB hm1
    go_wp2
    go_loopw [3, 4] (fun g i wr => ∃ (k : Nat) (a : Int), i = .int .i64 (k : Int) ∧ g = .int .i64 a ∧ k ≤ ce.length ∧ 0 ≤ a ∧ a ≤ 9007199254740991 ∧ Hid (R = topE (ce.drop k) a) ∧ Hid (Mod (fun _ => False) w1 wr)) (fun _ i _ => ce.length - (intOf i).toNat)
    case atStart => exact ⟨0, 0, rfl, rfl, by omega, by omega, by omega, hR, Mod.refl _ _⟩
    case round =>
      clear hR a4
      obtain ⟨k, a, rfl, rfl, hk, h0, h1, hR, hMw⟩ := hrel
      have a4 := (HS.out.2.2.2.mod hMw.out (fun h => h)).cellv (j := 4) rfl
      by_cases hlt : k < ce.length
      · obtain ⟨e, he⟩ : ∃ e, ce[k]? = some e := ⟨_, List.getElem?_eq_getElem hlt⟩
        obtain ⟨b, off, rfl, hc⟩ := HS.out.1.at he
        obtain ⟨c0, c1, c2, c3, c4, c5⟩ := hc _ hMw.out
        have hck := isE_ck (HS.out.2.2.1.ok e (List.mem_of_getElem? he)).1
        have hd := topE_drop he a
        have hR2 : Hid (R = topE (ce.drop (k + 1)) (max a e.ck)) := by rw [Hid, hR.out, hd]
        obtain ⟨en, os, od, ar, hh, ck⟩ := e
        simp only at *
        have hki : (k : Int) < ce.length := by omega
        obtain ⟨q0, q1⟩ := hck
        have hb0 : 0 ≤ max a ck := by omega
        have hb1 : max a ck ≤ 9007199254740991 := by omega
        clear hc he hd hR
        go_wp2
        go_roundw
        case rel => exact ⟨k + 1, max a ck, by go_num, rfl, by omega, hb0, hb1, hR2, hMw.out⟩
        case measure => simp [intOf]; omega
      · have e : R = a := by have := hR.out; rw [List.drop_eq_nil_of_le (by omega)] at this; exact this
        subst e
        clear hR
        go_wp2
        go_ret
        refine ⟨?_, HS.out.2.1.and hMw.out⟩
        first | rfl | (congr 2; omega) | skip
  · rw [if_neg hok] at HC ⊢
    clear hok
    go_enter Try.func24, Try.ntmps24
    go_wp2_with (fail)
    refine (HC _ hs).mono ?_
    rintro e w1 ⟨rfl, hm1⟩
    go_wp2
    go_ret
    exact ⟨rfl, hM.and hm1⟩
set_option maxRecDepth 100000 in
set_option maxHeartbeats 8000000 in
theorem dKin (w : World) (v : Value) (c : Cm) (q r : Int) (h : Cv w v c) (hhp : I64 c.hop) : Calls Try.prog 22 #[v, .agg #[.int .i64 q, .int .i64 r]] w fun e w' => e = .returned (.tuple #[.int .i64 ((kinC c q r).1 : Int), .int .i64 (kinC c q r).2.1, .int .i64 (kinC c q r).2.2]) ∧ Mod (fun _ => False) w w' := by
  obtain ⟨rs, rr, mm, hp, ce⟩ := c
  obtain ⟨cao, ccap, rfl, hs⟩ := h.form
  simp only at *
  have HC := fun W hs => dCheck19 rs rr mm hp cao ccap ce W hs hhp
  have hM := ((Mod.refl (fun _ => False) w).alloc (.cells #[.int .i64 rs, .int .i64 rr, .int .i64 mm, .int .i64 hp, .slice cao ce.length ccap] 26)).alloc (.cells #[.int .i64 q, .int .i64 r] 23)
  have hB := (Bk.new w #[.int .i64 rs, .int .i64 rr, .int .i64 mm, .int .i64 hp, .slice cao ce.length ccap] 26).mod ((Mod.refl (fun _ => False) _).alloc (.cells #[.int .i64 q, .int .i64 r] 23)) (fun h => h)
  have hB1 := Bk.new (w.alloc (.cells #[.int .i64 rs, .int .i64 rr, .int .i64 mm, .int .i64 hp, .slice cao ce.length ccap] 26)) #[.int .i64 q, .int .i64 r] 23
  simp only [World.size_alloc] at hB1
  replace hs := hs.keep hM
  have hck : ckC ⟨rs, rr, mm, hp, ce⟩ = if okC ⟨rs, rr, mm, hp, ce⟩ = true then 0 else 2 := rfl
  have hst : kinC ⟨rs, rr, mm, hp, ce⟩ q r = if okC ⟨rs, rr, mm, hp, ce⟩ = true then kn q r ce 0 0 0 else (0, 0, 0) := rfl
  rw [hck] at HC
  rw [hst]
  clear h hck hst
  by_cases hok : okC ⟨rs, rr, mm, hp, ce⟩ = true
  · have hw := okC_wl hok
    have hl8 := (okC_hop hok).2.2.2.2.2
    simp only at hw hl8
    rw [if_pos hok] at HC ⊢
    clear hok
    have hR : Hid (kn q r ce 0 0 0 = kn q r (ce.drop 0) 0 0 0) := rfl
    generalize kn q r ce 0 0 0 = R at hR ⊢
    obtain ⟨R1, R2, R3⟩ := R
    simp only at *
    go_enter Try.func22, Try.ntmps22
    go_wp2_with (fail)
    refine (HC _ hs).mono ?_
    rintro e w1 ⟨rfl, hm1⟩
    replace hM := hM.and hm1
    replace hs := hs.keep hm1
    have a4 := (hB.mod hm1 (fun h => h)).cellv (j := 4) rfl
    have HS : Hid (SlE w1 (.slice cao ce.length ccap) ce ∧ Mod (fun _ => False) w w1 ∧ Wl ce ∧ Bk w1 (w.heap.size + 1) 23 #[.int .i64 q, .int .i64 r] ∧ Bk w1 w.heap.size 26 #[.int .i64 rs, .int .i64 rr, .int .i64 mm, .int .i64 hp, .slice cao ce.length ccap]) := ⟨hs, hM, hw, hB1.mod hm1 (fun h => h), hB.mod hm1 (fun h => h)⟩
    clear HC hs hM hw hB hB1 hm1
    go_wp2
    go_loopw [7, 8, 9, 10] (fun m lo hi i wr => ∃ (k M : Nat) (a b : Int), i = .int .i64 (k : Int) ∧ m = .int .i64 (M : Int) ∧ lo = .int .i64 a ∧ hi = .int .i64 b ∧ k ≤ ce.length ∧ M < 512 ∧ Hid ((R1, R2, R3) = kn q r (ce.drop k) M a b) ∧ Hid (∀ x ∈ ce.drop k, M < 2 ^ x.nd.toNat) ∧ Hid (Mod (fun _ => False) w1 wr)) (fun _ _ _ i _ => ce.length - (intOf i).toNat)
    case atStart => exact ⟨0, 0, 0, 0, rfl, rfl, rfl, rfl, by omega, by omega, hR, fun x _ => Nat.two_pow_pos _, Mod.refl _ _⟩
    case round =>
      clear hR a4
      obtain ⟨k, M, a, b, rfl, rfl, rfl, rfl, hk, hM5, hR, hX, hMw⟩ := hrel
      have a4 := (HS.out.2.2.2.2.mod hMw.out (fun h => h)).cellv (j := 4) rfl
      by_cases hlt : k < ce.length
      · obtain ⟨e, he⟩ : ∃ e, ce[k]? = some e := ⟨_, List.getElem?_eq_getElem hlt⟩
        obtain ⟨eb, off, rfl, hc⟩ := HS.out.1.at he
        obtain ⟨c0, c1, c2, c3, c4, c5⟩ := hc _ hMw.out
        have hB1 := HS.out.2.2.2.1.mod hMw.out (fun h => h)
        have r0 : ∀ o, (wr.alloc o).cell? ⟨w.heap.size + 1, 0, none⟩ = some (.int .i64 q) := fun o => (hB1.mod ((Mod.refl (fun _ => False) wr).alloc o) (fun h => h)).cellv (j := 0) rfl
        have r1 : ∀ o, (wr.alloc o).cell? ⟨w.heap.size + 1, 1, none⟩ = some (.int .i64 r) := fun o => (hB1.mod ((Mod.refl (fun _ => False) wr).alloc o) (fun h => h)).cellv (j := 1) rfl
        have hE := HS.out.2.2.1.ok e (List.mem_of_getElem? he)
        have hd := kn_drop he q r M a b
        have hX0 := hX.out e (by rw [List.drop_eq_getElem_cons hlt]; obtain ⟨_, e2⟩ := List.getElem?_eq_some_iff.1 he; rw [← e2]; exact List.mem_cons_self ..)
        have hXt : Hid (∀ x ∈ ce.drop (k + 1), M < 2 ^ x.nd.toNat) := fun x hx => hX.out x (by rw [List.drop_eq_getElem_cons hlt]; exact List.mem_cons_of_mem _ hx)
        have hXn : Hid (∀ x ∈ ce.drop (k + 1), M + 2 ^ e.nd.toNat < 2 ^ x.nd.toNat) := fun x hx => by
          have h1 := wl_drop HS.out.2.2.1 he x hx
          have h2 : 2 ^ (e.nd.toNat + 1) ≤ 2 ^ x.nd.toNat := Nat.pow_le_pow_right (by omega) (by omega)
          rw [Nat.pow_succ] at h2
          omega
        obtain ⟨h2a, h2b⟩ := two_nd e.nd hE.2.1 hE.2.2
        rw [hd] at hR
        have hn0 := hE.2.1
        have hn8 : e.nd ≤ 8 := hE.2.2
        obtain ⟨en, os, od, ar, hh, ck⟩ := e
        simp only at *
        have hki : (k : Int) < ce.length := by omega
        have hM2 : M + 2 ^ en.toNat < 512 := by omega
        have ER := eqRing os od q r
        clear hc he hd hX hB1 hE
        by_cases hq : os = q ∧ od = r
        · obtain ⟨rfl, rfl⟩ := hq
          rw [if_pos ⟨rfl, rfl⟩] at hR
          generalize hp2 : 2 ^ en.toNat = p2 at *
          clear hp2
          by_cases hz : M = 0
          · rw [if_pos hz] at hR
            have hzb : ((M : Int) == 0) = true := by simp [hz]
            clear hz
            go_wp2
            go_roundw
            case rel => exact ⟨k + 1, M + p2, ar, max b hh, by go_num, by go_num, rfl, rfl, by omega, hM2, hR, hXn, hMw.out.alloc _⟩
            case measure => simp [intOf]; omega
          · rw [if_neg hz] at hR
            have hzb : ((M : Int) == 0) = false := by simp [hz]
            clear hz
            by_cases hlo : ar < a
            · have hmin : min a ar = ar := by omega
              rw [hmin] at hR
              clear hmin
              go_wp2
              go_roundw
              case rel => exact ⟨k + 1, M + p2, ar, max b hh, by go_num, by go_num, rfl, rfl, by omega, hM2, hR, hXn, hMw.out.alloc _⟩
              case measure => simp [intOf]; omega
            · have hmin : min a ar = a := by omega
              rw [hmin] at hR
              clear hmin
              go_wp2
              go_roundw
              case rel => exact ⟨k + 1, M + p2, a, max b hh, by go_num, by go_num, rfl, rfl, by omega, hM2, hR, hXn, hMw.out.alloc _⟩
              case measure => simp [intOf]; omega
        · rw [if_neg hq] at hR
          have hqb : (decide (os = q) && decide (od = r)) = false := by simpa using hq
          rw [hqb] at ER
          clear hq hqb
          go_wp2
          go_roundw
          case rel => exact ⟨k + 1, M, a, b, by go_num, rfl, rfl, rfl, by omega, hM5, hR, hXt, hMw.out.alloc _⟩
          case measure => simp [intOf]; omega
      · have e : (R1, R2, R3) = (M, a, b) := by have := hR.out; rw [List.drop_eq_nil_of_le (by omega)] at this; exact this
        obtain ⟨rfl, rfl, rfl⟩ : R1 = M ∧ R2 = a ∧ R3 = b := by simpa using e
        clear hR
        go_wp2
        go_ret3
        exact ⟨rfl, HS.out.2.1.and hMw.out⟩
  · rw [if_neg hok] at HC ⊢
    clear hok
    go_enter Try.func22, Try.ntmps22
    go_wp2_with (fail)
    refine (HC _ hs).mono ?_
    rintro e w1 ⟨rfl, hm1⟩
    go_wp2
    go_ret3
    exact ⟨rfl, hM.and hm1⟩
end Go.Proofs.Ytlekmgjjjniomaa
