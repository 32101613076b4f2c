/- Contracts of packet's canAsk, isData, isToken, isJoin. Conditions: sizes that a slice has. -/
import Derived.Test.YtajhpnfpjickbaaK08
import Derived.Test.YtajhpnfpjickbaaK16
import Derived.Test.YtajhpnfpjickbaaK19
namespace Go.Proofs.Ytajhpnfpjickbaa
open Go.RowKit
theorem asc_drop {l : List Int} {k : Nat} {x last least : Int} (h : l[k]? = some x) : asc last least (l.drop k) = (win x least last && asc last (x + 1) (l.drop (k + 1))) := by
  obtain ⟨hk, rfl⟩ := List.getElem?_eq_some_iff.1 h
  rw [List.drop_eq_getElem_cons hk]
  rfl
set_option maxHeartbeats 1000000 in
theorem canAsk_any (v : Value) (l : List Int) (last : Int) (w : World) (hs : Cr.Sl w v l) (hi : ∀ x ∈ l, -9223372036854775808 ≤ x ∧ x ≤ 9223372036854775807) (hlast : last ≤ 9007199254740991) : Calls Try.prog 136 #[v, .int .i64 last] w fun e w' => e = .returned (.bool (cask l last)) ∧ w' = w := by
  obtain ⟨ao, cap, rfl, h1, h2, h3, h4⟩ := hs
  unfold maxLen at h2
  by_cases hl : 16 < l.length
  · have e : cask l last = false := by simp [cask]; intro h; omega
    have hli : (16 : Int) < l.length := by omega
    rw [e]
    clear h4
    go_enter Try.func136, Try.ntmps136
    go_wp2
    go_ret
    exact ⟨rfl, rfl⟩
  · have hR : Hid (cask l last = asc last 1 (l.drop 0)) := by show _ = _; simp [cask]; intro h; omega
    have hli : ¬ (16 : Int) < l.length := by omega
    generalize cask l last = R at hR ⊢
    have HW := fun x a => pkWithin x a last
    go_enter Try.func136, Try.ntmps136
    go_wp2
    go_loopw [5, 13] (fun ls i wr => ∃ (k : Nat) (least : Int), i = .int .i64 k ∧ ls = .int .i64 least ∧ k ≤ l.length ∧ Hid (R = asc last least (l.drop k)) ∧ wr = w) (fun _ i _ => l.length - (intOf i).toNat)
    case atStart => exact ⟨0, 1, rfl, rfl, by omega, hR, rfl⟩
    case round =>
      obtain ⟨k, least, rfl, rfl, hk, hR', rfl⟩ := hrel
      clear hR
      by_cases hlt : k < l.length
      · obtain ⟨x, hx⟩ : ∃ x, l[k]? = some x := ⟨_, List.getElem?_eq_getElem hlt⟩
        have hne : l ≠ [] := by rintro rfl; simp at hlt
        obtain ⟨b, off, rfl, hc⟩ := h4 hne
        have hcx := hc k hlt
        have hg : l.getD k 0 = x := by rw [List.getD_eq_getElem?_getD, hx]; rfl
        rw [hg] at hcx
        have hs := asc_drop (last := last) (least := least) hx
        have hix := hi x (List.mem_of_getElem? hx)
        rw [hs] at hR'
        have hki : (k : Int) < l.length := by omega
        have HX := HW x least
        have hwx : win x least last = true → x ≤ last := by simp [win]
        clear hs hg hx hc h4 HW
        cases hw : win x least last with
        | false =>
          rw [hw] at HX hR'
          have HR : Hid (R = false) := by show _ = _; have := hR'.out; simpa using this
          clear hR' hw
          go_wp2_with (fail)
          refine (HX _).mono ?_
          rintro e w' ⟨rfl, rfl⟩
          go_wp2
          have hRT := HR.out
          subst hRT
          go_ret
          exact ⟨rfl, rfl⟩
        | true =>
          rw [hw] at HX hR'
          have HR : Hid (R = asc last (x + 1) (l.drop (k + 1))) := by show _ = _; have := hR'.out; simpa using this
          have hxl := hwx hw
          clear hR' hw hwx
          go_wp2_with (fail)
          refine (HX _).mono ?_
          rintro e w' ⟨rfl, rfl⟩
          have hw2 : IntKind.i64.wrap (x + 1) = x + 1 := by rw [IntKind.wrap_i64]; omega
          go_wp2
          go_roundw
          case rel => exact ⟨k + 1, x + 1, by go_num, rfl, by omega, HR, by first | rfl | trivial⟩
          case measure => simp [intOf]; omega
      · have HR : Hid (R = true) := by show _ = _; have := hR'.out; rw [List.drop_eq_nil_of_le (by omega)] at this; exact this
        clear hR' h4
        go_wp2
        have hRT := HR.out
        subst hRT
        go_ret
        exact ⟨rfl, rfl⟩
set_option maxRecDepth 100000 in
set_option maxHeartbeats 4000000 in
theorem isData_any (dq dr ds dn dt : Int) (k o lf i p ps g : Int) (s : Bool) (st rs rr sq : Int) (ao : Option Addr) (cap : Nat) (l : List Int) (w : World) (hs : Sl w (.slice ao l.length cap) l) : Calls Try.prog 111 #[.agg #[.int .i64 dq, .int .i64 dr, .int .i64 ds, .int .i64 dn, .int .i64 dt, .int .i64 k, .int .i64 o, .int .i64 lf, .int .i64 i, .int .i64 p, .int .i64 ps, .int .i64 g, .bool s, .int .i64 st, .int .i64 rs, .int .i64 rr, .int .i64 sq, .slice ao l.length cap]] w fun e w' => e = .returned (.bool (okD ⟨dq, dr, ds, dn, dt, ⟨k, o, lf, i, p, ps, g, s, st, rs, rr, sq, l⟩⟩)) ∧ Mod (fun _ => False) w w' := by
  have hM := (Mod.refl (fun _ => False) w).alloc (.cells #[.int .i64 dq, .int .i64 dr, .int .i64 ds, .int .i64 dn, .int .i64 dt, .int .i64 k, .int .i64 o, .int .i64 lf, .int .i64 i, .int .i64 p, .int .i64 ps, .int .i64 g, .bool s, .int .i64 st, .int .i64 rs, .int .i64 rr, .int .i64 sq, .slice ao l.length cap] 49)
  have hBk := Bk.new w #[.int .i64 dq, .int .i64 dr, .int .i64 ds, .int .i64 dn, .int .i64 dt, .int .i64 k, .int .i64 o, .int .i64 lf, .int .i64 i, .int .i64 p, .int .i64 ps, .int .i64 g, .bool s, .int .i64 st, .int .i64 rs, .int .i64 rr, .int .i64 sq, .slice ao l.length cap] 49
  have hv : okD ⟨dq, dr, ds, dn, dt, ⟨k, o, lf, i, p, ps, g, s, st, rs, rr, sq, l⟩⟩ = (isr dq dr && (decide (0 < ds) && (nm ds && (nd dn && (nm dt && (chk ⟨k, o, lf, i, p, ps, g, s, st, rs, rr, sq, l⟩ == 0)))))) := by simp [okD, Bool.and_assoc]
  rw [hv]
  clear hv
  have H0 := pkRing dq dr
  have H2 := pkNumber ds
  have H3 := pkNode dn
  have H4 := pkNumber dt
  have H5 := fun W h => Check_any k o lf i p ps g s st rs rr sq ao cap l W h
  generalize (isr dq dr) = c0 at H0  ⊢
  generalize (nm ds) = c2 at H2  ⊢
  generalize (nd dn) = c3 at H3  ⊢
  generalize (nm dt) = c4 at H4  ⊢
  generalize (chk ⟨k, o, lf, i, p, ps, g, s, st, rs, rr, sq, l⟩) = c5 at H5  ⊢
  go_enter Try.func111, Try.ntmps111
  go_wp2_with (fail)
  refine (H0 _).mono ?_
  rintro e w0 ⟨rfl, hm0⟩
  replace hM := hM.trans hm0 (V := fun _ => False) (fun _ _ h => h) (fun _ _ h => h)
  replace hBk := hBk.mod hm0 (fun h => h)
  have a0 := hBk.cellv (j := 0) rfl
  have a1 := hBk.cellv (j := 1) rfl
  have a2 := hBk.cellv (j := 2) rfl
  have a3 := hBk.cellv (j := 3) rfl
  have a4 := hBk.cellv (j := 4) rfl
  have a5 := hBk.cellv (j := 5) rfl
  have a6 := hBk.cellv (j := 6) rfl
  have a7 := hBk.cellv (j := 7) rfl
  have a8 := hBk.cellv (j := 8) rfl
  have a9 := hBk.cellv (j := 9) rfl
  have a10 := hBk.cellv (j := 10) rfl
  have a11 := hBk.cellv (j := 11) rfl
  have a12 := hBk.cellv (j := 12) rfl
  have a13 := hBk.cellv (j := 13) rfl
  have a14 := hBk.cellv (j := 14) rfl
  have a15 := hBk.cellv (j := 15) rfl
  have a16 := hBk.cellv (j := 16) rfl
  have a17 := hBk.cellv (j := 17) rfl
  cases c0
  case false =>
    go_wp2
    go_ret
    exact ⟨by simp [*], hM⟩
  case true =>
  by_cases h1 : 0 < ds
  case neg =>
    go_wp2
    go_ret
    exact ⟨by first | (simp; done) | (simp; intros; omega) | (simp [h1]; done), hM⟩
  case pos =>
  go_wp2_with (fail)
  refine (H2 _).mono ?_
  rintro e w2 ⟨rfl, rfl⟩
  cases c2
  case false =>
    go_wp2
    go_ret
    exact ⟨by simp [*], hM⟩
  case true =>
  go_wp2_with (fail)
  refine (H3 _).mono ?_
  rintro e w3 ⟨rfl, rfl⟩
  cases c3
  case false =>
    go_wp2
    go_ret
    exact ⟨by simp [*], hM⟩
  case true =>
  go_wp2_with (fail)
  refine (H4 _).mono ?_
  rintro e w4 ⟨rfl, rfl⟩
  cases c4
  case false =>
    go_wp2
    go_ret
    exact ⟨by simp [*], hM⟩
  case true =>
  go_wp2_with (fail)
  refine (H5 _ (hs.mod hM (fun _ _ h => h))).mono ?_
  rintro e w5 ⟨rfl, hm5⟩
  replace hM := hM.trans hm5 (V := fun _ => False) (fun _ _ h => h) (fun _ _ h => h)
  replace hBk := hBk.mod hm5 (fun h => h)
  clear a0
  have a0 := hBk.cellv (j := 0) rfl
  clear a1
  have a1 := hBk.cellv (j := 1) rfl
  clear a2
  have a2 := hBk.cellv (j := 2) rfl
  clear a3
  have a3 := hBk.cellv (j := 3) rfl
  clear a4
  have a4 := hBk.cellv (j := 4) rfl
  clear a5
  have a5 := hBk.cellv (j := 5) rfl
  clear a6
  have a6 := hBk.cellv (j := 6) rfl
  clear a7
  have a7 := hBk.cellv (j := 7) rfl
  clear a8
  have a8 := hBk.cellv (j := 8) rfl
  clear a9
  have a9 := hBk.cellv (j := 9) rfl
  clear a10
  have a10 := hBk.cellv (j := 10) rfl
  clear a11
  have a11 := hBk.cellv (j := 11) rfl
  clear a12
  have a12 := hBk.cellv (j := 12) rfl
  clear a13
  have a13 := hBk.cellv (j := 13) rfl
  clear a14
  have a14 := hBk.cellv (j := 14) rfl
  clear a15
  have a15 := hBk.cellv (j := 15) rfl
  clear a16
  have a16 := hBk.cellv (j := 16) rfl
  clear a17
  have a17 := hBk.cellv (j := 17) rfl
  by_cases hz5 : c5 = 0
  case neg =>
    have hb5 : (c5 == 0) = false := by simp [hz5]
    go_wp2
    go_ret
    exact ⟨by simp [hb5], hM⟩
  case pos =>
  subst hz5
  go_wp2
  go_ret
  exact ⟨by simp [*], hM⟩
set_option maxRecDepth 100000 in
set_option maxHeartbeats 4000000 in
theorem isToken_any (rs rr hp sq ar lw st id : Int) (ao : Option Addr) (cap : Nat) (l : List Int) (w : World) (hs : Cr.Sl w (.slice ao l.length cap) l) (hi : ∀ x ∈ l, -9223372036854775808 ≤ x ∧ x ≤ 9223372036854775807) : Calls Try.prog 113 #[.agg #[.int .i64 rs, .int .i64 rr, .int .i64 hp, .int .i64 sq, .int .i64 ar, .int .i64 lw, .int .i64 st, .int .i64 id, .slice ao l.length cap]] w fun e w' => e = .returned (.bool (okT ⟨rs, rr, hp, sq, ar, lw, st, id, l⟩)) ∧ Mod (fun _ => False) w w' := by
  have hM := (Mod.refl (fun _ => False) w).alloc (.cells #[.int .i64 rs, .int .i64 rr, .int .i64 hp, .int .i64 sq, .int .i64 ar, .int .i64 lw, .int .i64 st, .int .i64 id, .slice ao l.length cap] 67)
  have hBk := Bk.new w #[.int .i64 rs, .int .i64 rr, .int .i64 hp, .int .i64 sq, .int .i64 ar, .int .i64 lw, .int .i64 st, .int .i64 id, .slice ao l.length cap] 67
  have hv : okT ⟨rs, rr, hp, sq, ar, lw, st, id, l⟩ = (isr rs rr && (decide (0 < hp) && (nm hp && (nm sq && (win ar 0 sq && (win lw 0 8 && (nm st && (nm id && cask l sq)))))))) := by simp [okT, Bool.and_assoc]
  rw [hv]
  clear hv
  have hsq : nm sq = true → sq ≤ 9007199254740991 := by simp [nm]
  have H0 := pkRing rs rr
  have H2 := pkNumber hp
  have H3 := pkNumber sq
  have H4 := pkWithin ar 0 sq
  have H5 := pkWithin lw 0 8
  have H6 := pkNumber st
  have H7 := pkNumber id
  have H8 := fun W h q => canAsk_any (.slice ao l.length cap) l sq W h hi q
  generalize (isr rs rr) = c0 at H0  ⊢
  generalize (nm hp) = c2 at H2  ⊢
  generalize (nm sq) = c3 at H3 hsq ⊢
  generalize (win ar 0 sq) = c4 at H4  ⊢
  generalize (win lw 0 8) = c5 at H5  ⊢
  generalize (nm st) = c6 at H6  ⊢
  generalize (nm id) = c7 at H7  ⊢
  generalize (cask l sq) = c8 at H8  ⊢
  go_enter Try.func113, Try.ntmps113
  go_wp2_with (fail)
  refine (H0 _).mono ?_
  rintro e w0 ⟨rfl, hm0⟩
  replace hM := hM.trans hm0 (V := fun _ => False) (fun _ _ h => h) (fun _ _ h => h)
  replace hBk := hBk.mod hm0 (fun h => h)
  have a0 := hBk.cellv (j := 0) rfl
  have a1 := hBk.cellv (j := 1) rfl
  have a2 := hBk.cellv (j := 2) rfl
  have a3 := hBk.cellv (j := 3) rfl
  have a4 := hBk.cellv (j := 4) rfl
  have a5 := hBk.cellv (j := 5) rfl
  have a6 := hBk.cellv (j := 6) rfl
  have a7 := hBk.cellv (j := 7) rfl
  have a8 := hBk.cellv (j := 8) rfl
  cases c0
  case false =>
    go_wp2
    go_ret
    exact ⟨by simp [*], hM⟩
  case true =>
  by_cases h1 : 0 < hp
  case neg =>
    go_wp2
    go_ret
    exact ⟨by first | (simp; done) | (simp; intros; omega) | (simp [h1]; done), hM⟩
  case pos =>
  go_wp2_with (fail)
  refine (H2 _).mono ?_
  rintro e w2 ⟨rfl, rfl⟩
  cases c2
  case false =>
    go_wp2
    go_ret
    exact ⟨by simp [*], hM⟩
  case true =>
  go_wp2_with (fail)
  refine (H3 _).mono ?_
  rintro e w3 ⟨rfl, rfl⟩
  cases c3
  case false =>
    go_wp2
    go_ret
    exact ⟨by simp [*], hM⟩
  case true =>
  go_wp2_with (fail)
  refine (H4 _).mono ?_
  rintro e w4 ⟨rfl, rfl⟩
  cases c4
  case false =>
    go_wp2
    go_ret
    exact ⟨by simp [*], hM⟩
  case true =>
  go_wp2_with (fail)
  refine (H5 _).mono ?_
  rintro e w5 ⟨rfl, rfl⟩
  cases c5
  case false =>
    go_wp2
    go_ret
    exact ⟨by simp [*], hM⟩
  case true =>
  go_wp2_with (fail)
  refine (H6 _).mono ?_
  rintro e w6 ⟨rfl, rfl⟩
  cases c6
  case false =>
    go_wp2
    go_ret
    exact ⟨by simp [*], hM⟩
  case true =>
  go_wp2_with (fail)
  refine (H7 _).mono ?_
  rintro e w7 ⟨rfl, rfl⟩
  cases c7
  case false =>
    go_wp2
    go_ret
    exact ⟨by simp [*], hM⟩
  case true =>
  go_wp2_with (fail)
  refine (H8 _ (hs.mod hM (fun _ _ h => h)) (hsq trivial)).mono ?_
  rintro e w8 ⟨rfl, rfl⟩
  go_wp2
  go_ret
  exact ⟨by simp [*], hM⟩
set_option maxRecDepth 100000 in
set_option maxHeartbeats 4000000 in
theorem isJoin_any (sn pc ct : Int) (w : World) (hp : -9223372036854775808 ≤ pc ∧ pc ≤ 9223372036854775807) : Calls Try.prog 114 #[.agg #[.int .i64 sn, .int .i64 pc, .int .i64 ct]] w fun e w' => e = .returned (.bool (okJ ⟨sn, pc, ct⟩)) ∧ Mod (fun _ => False) w w' := by
  have hM := (Mod.refl (fun _ => False) w).alloc (.cells #[.int .i64 sn, .int .i64 pc, .int .i64 ct] 69)
  have hBk := Bk.new w #[.int .i64 sn, .int .i64 pc, .int .i64 ct] 69
  have hv : okJ ⟨sn, pc, ct⟩ = ((Cr.chk pc == 0) && (Cr.has pc sn && nm ct)) := by simp [okJ, Bool.and_assoc]
  rw [hv]
  clear hv
  have H0 := fun W => Cr.Check pc W hp
  have H1 := Cr.Has pc sn
  have H2 := pkNumber ct
  generalize (Cr.chk pc) = c0 at H0  ⊢
  generalize (Cr.has pc sn) = c1 at H1  ⊢
  generalize (nm ct) = c2 at H2  ⊢
  go_enter Try.func114, Try.ntmps114
  go_wp2_with (fail)
  refine (H0 _).mono ?_
  rintro e w0 ⟨rfl, rfl⟩
  by_cases hz0 : c0 = 0
  case neg =>
    have hb0 : (c0 == 0) = false := by simp [hz0]
    go_wp2
    go_ret
    exact ⟨by simp [hb0], hM⟩
  case pos =>
  subst hz0
  go_wp2_with (fail)
  refine (H1 _).mono ?_
  rintro e w1 ⟨rfl, rfl⟩
  cases c1
  case false =>
    go_wp2
    go_ret
    exact ⟨by simp [*], hM⟩
  case true =>
  go_wp2_with (fail)
  refine (H2 _).mono ?_
  rintro e w2 ⟨rfl, rfl⟩
  go_wp2
  go_ret
  exact ⟨by simp [*], hM⟩
end Go.Proofs.Ytajhpnfpjickbaa
