/- GatherKnown: the chapter's examples, both ends, gatherings that are none. No conditions. -/
import Derived.Test.YtmfdgbdcbfppcaaDj
namespace Go.Proofs.Ytmfdgbdcbfppcaa
open Go.RowKit
def k1 (i : Nat) : J3 := ([⟨0, 0, 2⟩, ⟨1, 0, 0⟩, ⟨8, 9007199254740991, 0⟩, ⟨9, 0, 2⟩, ⟨1, -1, 2⟩, ⟨1, 9007199254740992, 2⟩] : List J3).getD i z3
theorem k1_arr (w : World) (t : TypeId) : Aj (w.alloc (.cells #[.int .i64 0, .int .i64 0, .int .i64 2, .int .i64 1, .int .i64 0, .int .i64 0, .int .i64 8, .int .i64 9007199254740991, .int .i64 0, .int .i64 9, .int .i64 0, .int .i64 2, .int .i64 1, .int .i64 (-1), .int .i64 2, .int .i64 1, .int .i64 9007199254740992, .int .i64 2] t)) w.heap.size t 6 k1 := by
  refine ⟨_, Bk.new w _ _, rfl, fun i hi => ?_⟩
  have : i = 0 ∨ i = 1 ∨ i = 2 ∨ i = 3 ∨ i = 4 ∨ i = 5 := by omega
  rcases this with rfl | rfl | rfl | rfl | rfl | rfl
  all_goals exact ⟨rfl, rfl, rfl⟩
def k2 (i : Nat) : J3 := ([⟨4, 12, 0⟩, ⟨9, 512, 0⟩, ⟨1, 3, 0⟩, ⟨1, 2, -1⟩, ⟨1, 2, 9007199254740992⟩, ⟨0, 2, 0⟩, ⟨1, 0, 0⟩, ⟨1, -2, 0⟩, ⟨3, 522, 0⟩, ⟨2, 8, 0⟩] : List J3).getD i z3
theorem k2_arr (w : World) (t : TypeId) : Aj (w.alloc (.cells #[.int .i64 4, .int .i64 12, .int .i64 0, .int .i64 9, .int .i64 512, .int .i64 0, .int .i64 1, .int .i64 3, .int .i64 0, .int .i64 1, .int .i64 2, .int .i64 (-1), .int .i64 1, .int .i64 2, .int .i64 9007199254740992, .int .i64 0, .int .i64 2, .int .i64 0, .int .i64 1, .int .i64 0, .int .i64 0, .int .i64 1, .int .i64 (-2), .int .i64 0, .int .i64 3, .int .i64 522, .int .i64 0, .int .i64 2, .int .i64 8, .int .i64 0] t)) w.heap.size t 10 k2 := by
  refine ⟨_, Bk.new w _ _, rfl, fun i hi => ?_⟩
  have : i = 0 ∨ i = 1 ∨ i = 2 ∨ i = 3 ∨ i = 4 ∨ i = 5 ∨ i = 6 ∨ i = 7 ∨ i = 8 ∨ i = 9 := by omega
  rcases this with rfl | rfl | rfl | rfl | rfl | rfl | rfl | rfl | rfl | rfl
  all_goals exact ⟨rfl, rfl, rfl⟩
theorem k1_ok : ∀ i : Fin 6, (k1 i.val).c = if okN (k1 i.val).s (k1 i.val).p then 0 else 2 := by decide +kernel
theorem k2_bad : ∀ i : Fin 10, mb (k2 i.val).s (k2 i.val).p (k2 i.val).c = false := by decide +kernel
theorem k2_i64 : ∀ i : Fin 10, -9223372036854775808 ≤ (k2 i.val).p ∧ (k2 i.val).p ≤ 9223372036854775807 := by decide +kernel
theorem hv_bad {n : Int} {J : Int → Option Jo} {s q k : Int} (h : mb s q k = false) : hv n J s q k = 20 := by simp [hv, h1, h2, h3, h]
/-- A gathering that is none. -/
def Nn (w : World) (v : Value) : Prop := v = .pointer none ∨ ∃ p, v = .pointer (some ⟨p, 0, none⟩) ∧ w.cell? ⟨p, 0, none⟩ = some (.int .i64 0)
theorem Nn.keep {w w' : World} {v : Value} (h : Nn w v) (hm : Mod (fun _ => False) w w') : Nn w' v := by
  rcases h with h | ⟨p, h1, h2⟩
  · exact .inl h
  · exact .inr ⟨p, h1, hm.cell h2 (fun h => h)⟩
theorem Nn.isNone {w : World} {v : Value} (h : Nn w v) : Calls Try.prog 27 #[v] w fun e w' => e = .returned (.bool true) ∧ w' = w := by
  rcases h with rfl | ⟨p, rfl, h2⟩
  · exact isNone_nil w
  · exact isNone_zero h2
theorem Nn.hears {w : World} {v : Value} (h : Nn w v) : Calls Try.prog 23 #[v, jv 1 2 0] w fun e w' => e = .returned (.int .i64 10) ∧ Mod (fun _ => False) w w' := by
  have := hears_post (w := w) (v := v) (s := 1) (q := 2) (k := 0) (x := 1) (a := false) (b := false) (.inr (.inl rfl)) (R := fun w' => Mod (fun _ => False) w w') fun W hm => by
    rcases h.keep hm with rfl | ⟨p, rfl, h2⟩
    · exact (Hear_nil 1 2 0 W).mono fun _ _ he => ⟨he.1, hm.and he.2⟩
    · exact (Hear_zero h2 1 2 0).mono fun _ _ he => ⟨he.1, hm.and he.2⟩
  exact this
theorem Nn.agreed {w : World} {v : Value} (h : Nn w v) : Calls Try.prog 15 #[v] w fun e w' => e = .returned (.bool false) ∧ w' = w := by
  have HN := h.isNone
  clear h
  go_enter Try.func15, Try.ntmps15
  go_wp2_with (go_at_call 27; refine HN.mono ?_; rintro e w ⟨rfl, rfl⟩)
  go_ret
  exact ⟨rfl, rfl⟩
theorem Nn.counter {w : World} {v : Value} (h : Nn w v) : Calls Try.prog 17 #[v] w fun e w' => e = .returned (.int .i64 0) ∧ w' = w := by
  have HN := h.isNone
  clear h
  go_enter Try.func17, Try.ntmps17
  go_wp2_with (go_at_call 27; refine HN.mono ?_; rintro e w ⟨rfl, rfl⟩)
  go_ret
  exact ⟨rfl, rfl⟩
theorem Nn.own {w : World} {v : Value} (h : Nn w v) : Calls Try.prog 13 #[v] w fun e w' => e = .returned (jv 0 0 0) ∧ Mod (fun _ => False) w w' := by
  have hA := (Mod.refl (fun _ => False) w).alloc (.cells #[.int .i64 0, .int .i64 0, .int .i64 0] 34)
  have HN := (h.keep hA).isNone
  have HB : Hid (Bk _ _ _ _) := Bk.new w #[.int .i64 0, .int .i64 0, .int .i64 0] 34
  clear h
  go_enter Try.func13, Try.ntmps13
  go_wp2_with (first | (go_at_call 27; refine HN.mono ?_; rintro e wn ⟨rfl, rfl⟩) | (refine wpList_store_row info3c rfl rfl _ _ rfl w.heap.size #[.int .i64 0, .int .i64 0, .int .i64 0] rfl rfl HB.out rfl rfl rfl ?_; intro wF hBF hMF))
  exact bodyPost_ret (resT info3c Try.underlying34 rfl rfl rfl hBF rfl) rfl ⟨rfl, hA.trans hMF (V := fun _ => False) (fun _ _ h => h) (fun q hq h => by omega)⟩
theorem Hear_bad' {w0 w : World} {p : Nat} {X : Nat → Prop} {n c g : Int} {J : Int → Option Jo} (h : Gb w0 w p X n c g J) (s q k : Int) (hq : I64 q) (hmb : mb s q k = false) : Calls Try.prog 23 #[.pointer (some ⟨p, 0, none⟩), jv s q k] w fun e w' => e = .returned (.int .i64 20) ∧ Gb w0 w' p X n c g J ∧ Mod (fun _ => False) w w' := by
  have := hears_post (w := w) (v := .pointer (some ⟨p, 0, none⟩)) (s := s) (q := q) (k := k) (x := 2) (a := false) (b := false) (.inr (.inr rfl)) (R := fun w' => Gb w0 w' p X n c g J ∧ Mod (fun _ => False) w w') fun W hm => by
    refine (Hear_bad (h.keep hm).ga s q k hq hmb).mono fun _ _ he => ⟨he.1, (h.keep hm).keep he.2, hm.and he.2⟩
  exact this
theorem nb_own2 {w0 w : World} {p : Nat} {X : Nat → Prop} {n c g : Int} {J : Int → Option Jo} (h : Gb w0 w p X n c g J) (x : Int) (hx : (hr n J : Int) = x) : Calls Try.prog 13 #[.pointer (some ⟨p, 0, none⟩)] w fun e w' => e = .returned (jv n x c) ∧ Gb w0 w' p X n c g J ∧ Mod (fun _ => False) w w' := by
  rw [← hx]
  refine (Own_w h.ga).mono ?_
  rintro e w' ⟨rfl, hm⟩
  exact ⟨rfl, h.keep hm, hm⟩
def U0 : Int → Option Jo := fun _ => none
def U1 : Int → Option Jo := upd U0 1 (some ⟨2, 0⟩)
def U2 : Int → Option Jo := upd U1 1 (some ⟨6, 0⟩)
def U3 : Int → Option Jo := upd U2 1 (some ⟨6, 1⟩)
def U4 : Int → Option Jo := upd U3 1 (some ⟨6, 9007199254740991⟩)
def U5 : Int → Option Jo := upd U4 1 (some ⟨6, 0⟩)
set_option maxRecDepth 100000 in
set_option maxHeartbeats 20000000 in
theorem known_walk (w : World) : Calls Try.prog 7 #[] w fun e w' => e = .returned (.bool true) ∧ Mod (fun _ => False) w w' := by
  go_enter Try.func7, Try.ntmps7
  go_wp2_with (fail)
  have HF0 : Hid (Aj (w.alloc (.cells #[.int .i64 0, .int .i64 0, .int .i64 2, .int .i64 1, .int .i64 0, .int .i64 0, .int .i64 8, .int .i64 9007199254740991, .int .i64 0, .int .i64 9, .int .i64 0, .int .i64 2, .int .i64 1, .int .i64 (-1), .int .i64 2, .int .i64 1, .int .i64 9007199254740992, .int .i64 2] 50)) w.heap.size 50 6 k1) := k1_arr w _
  have HM0 : Hid (Mod (fun _ => False) w (w.alloc (.cells #[.int .i64 0, .int .i64 0, .int .i64 2, .int .i64 1, .int .i64 0, .int .i64 0, .int .i64 8, .int .i64 9007199254740991, .int .i64 0, .int .i64 9, .int .i64 0, .int .i64 2, .int .i64 1, .int .i64 (-1), .int .i64 2, .int .i64 1, .int .i64 9007199254740992, .int .i64 2] 50))) := (Mod.refl _ w).alloc _
  generalize w.alloc (.cells #[.int .i64 0, .int .i64 0, .int .i64 2, .int .i64 1, .int .i64 0, .int .i64 0, .int .i64 8, .int .i64 9007199254740991, .int .i64 0, .int .i64 9, .int .i64 0, .int .i64 2, .int .i64 1, .int .i64 (-1), .int .i64 2, .int .i64 1, .int .i64 9007199254740992, .int .i64 2] 50) = w1 at *
  obtain ⟨q1, hq1⟩ : ∃ q1, q1 = w.heap.size := ⟨_, rfl⟩
  have HQ1 : Hid (q1 = w.heap.size) := hq1
  rw [← hq1] at HF0 ⊢
  clear hq1
  go_loopw [21] (fun i wr => ∃ k : Nat, i = .int .i64 (k : Int) ∧ k ≤ 6 ∧ Hid (Aj wr q1 50 6 k1 ∧ Mod (fun _ => False) w wr)) (fun i _ => 6 - (intOf i).toNat)
  case atStart => exact ⟨0, rfl, by omega, HF0.out, HM0.out⟩
  case round =>
    clear HF0 HM0
    obtain ⟨k, rfl, hk, HH⟩ := hrel
    by_cases hk6 : k < 6
    · have hki : (k : Int) < 6 := by omega
      have c0 := HH.out.1.cell0 hk6
      have c1 := HH.out.1.cell1 hk6
      have c2 := HH.out.1.cell2 hk6
      have hok := k1_ok ⟨k, hk6⟩
      simp only at hok
      generalize (k1 k).s = s at *
      generalize (k1 k).p = p at *
      generalize (k1 k).c = c at *
      have hA := (Mod.refl (fun _ => False) wr).alloc (.cells #[.int .i64 s, .int .i64 p, .int .i64 c] 50)
      have HZ : Hid (Bk (wr.alloc (.cells #[.int .i64 s, .int .i64 p, .int .i64 c] 50)) wr.heap.size 50 #[.int .i64 s, .int .i64 p, .int .i64 c]) := Bk.new wr _ _
      have HH1 : Hid (Aj (wr.alloc (.cells #[.int .i64 s, .int .i64 p, .int .i64 c] 50)) q1 50 6 k1 ∧ Mod (fun _ => False) w (wr.alloc (.cells #[.int .i64 s, .int .i64 p, .int .i64 c] 50))) := ⟨HH.out.1.mod hA (fun h => h), HH.out.2.and hA⟩
      clear hA HH
      cases ho : okN s p with
      | true =>
        rw [ho, if_pos rfl] at hok
        subst hok
        go_wp2_with (fail)
        refine (New_ok s p ho _).mono ?_
        rintro e w2 ⟨pp, X, rfl, _, _, hm2⟩
        have z2 := (Bk.mod (S := fun _ => False) HZ.out hm2 (fun h => h)).cellv (j := 2) (v := .int .i64 0) rfl
        have HH2 : Hid (Aj w2 q1 50 6 k1 ∧ Mod (fun _ => False) w w2) := ⟨HH1.out.1.mod hm2 (fun h => h), HH1.out.2.and hm2⟩
        clear hm2 HZ HH1 c0 c1 c2 ho
        go_wp2_with (fail)
        go_roundw
        case rel => exact ⟨k + 1, by go_num, by omega, HH2.out⟩
        case measure => simp [intOf]; omega
      | false =>
        rw [ho, if_neg (by simp)] at hok
        subst hok
        go_wp2_with (fail)
        refine (New_bad s p ho _).mono ?_
        rintro e w2 ⟨rfl, hm2⟩
        have z2 := (Bk.mod (S := fun _ => False) HZ.out hm2 (fun h => h)).cellv (j := 2) (v := .int .i64 2) rfl
        have HH2 : Hid (Aj w2 q1 50 6 k1 ∧ Mod (fun _ => False) w w2) := ⟨HH1.out.1.mod hm2 (fun h => h), HH1.out.2.and hm2⟩
        clear hm2 HZ HH1 c0 c1 c2 ho
        go_wp2_with (fail)
        go_roundw
        case rel => exact ⟨k + 1, by go_num, by omega, HH2.out⟩
        case measure => simp [intOf]; omega
    · obtain rfl : k = 6 := by omega
      have HM2 : Hid (Mod (fun _ => False) w wr) := HH.out.2
      clear HH
      go_wp2_with (fail)
      refine (nb_new 2 5 (by decide) w wr HM2.out).mono ?_
      rintro e w2 ⟨p, X, rfl, h⟩
      go_wp2_with (fail)
      refine (nb_join h 4 12 0).mono ?_
      rintro e w2 ⟨rfl, h⟩
      unfold jv
      go_wp2_with (fail)
      refine (nb_join h 9 512 0).mono ?_
      rintro e w2 ⟨rfl, h⟩
      unfold jv
      go_wp2_with (fail)
      refine (nb_join h 1 3 0).mono ?_
      rintro e w2 ⟨rfl, h⟩
      unfold jv
      go_wp2_with (fail)
      refine (nb_join h 1 2 (-1)).mono ?_
      rintro e w2 ⟨rfl, h⟩
      unfold jv
      go_wp2_with (fail)
      refine (nb_join h 1 2 9007199254740992).mono ?_
      rintro e w2 ⟨rfl, h⟩
      unfold jv
      go_wp2_with (fail)
      refine (nb_join h 0 2 0).mono ?_
      rintro e w2 ⟨rfl, h⟩
      unfold jv
      go_wp2_with (fail)
      refine (nb_join h 1 0 0).mono ?_
      rintro e w2 ⟨rfl, h⟩
      unfold jv
      go_wp2_with (fail)
      refine (nb_join h 1 (-2) 0).mono ?_
      rintro e w2 ⟨rfl, h⟩
      unfold jv
      go_wp2_with (fail)
      refine (nb_join h 3 522 0).mono ?_
      rintro e w2 ⟨rfl, h⟩
      unfold jv
      go_wp2_with (fail)
      refine (nb_join h 2 8 0).mono ?_
      rintro e w2 ⟨rfl, h⟩
      unfold jv
      go_wp2_with (fail)
      have HF2 : Hid (Aj (w2.alloc (.cells #[.int .i64 4, .int .i64 12, .int .i64 0, .int .i64 9, .int .i64 512, .int .i64 0, .int .i64 1, .int .i64 3, .int .i64 0, .int .i64 1, .int .i64 2, .int .i64 (-1), .int .i64 1, .int .i64 2, .int .i64 9007199254740992, .int .i64 0, .int .i64 2, .int .i64 0, .int .i64 1, .int .i64 0, .int .i64 0, .int .i64 1, .int .i64 (-2), .int .i64 0, .int .i64 3, .int .i64 522, .int .i64 0, .int .i64 2, .int .i64 8, .int .i64 0] 34)) w2.heap.size 34 10 k2) := k2_arr w2 _
      have HG2 : Hid (Gb w (w2.alloc (.cells #[.int .i64 4, .int .i64 12, .int .i64 0, .int .i64 9, .int .i64 512, .int .i64 0, .int .i64 1, .int .i64 3, .int .i64 0, .int .i64 1, .int .i64 2, .int .i64 (-1), .int .i64 1, .int .i64 2, .int .i64 9007199254740992, .int .i64 0, .int .i64 2, .int .i64 0, .int .i64 1, .int .i64 0, .int .i64 0, .int .i64 1, .int .i64 (-2), .int .i64 0, .int .i64 3, .int .i64 522, .int .i64 0, .int .i64 2, .int .i64 8, .int .i64 0] 34)) p X 2 5 5 U0) := h.keep ((Mod.refl _ w2).alloc _)
      have HXQ : Hid (∀ i, X i → i < w2.heap.size) := h.ga.lt
      clear h HM2
      generalize w2.heap.size = q2 at *
      generalize w2.alloc (.cells #[.int .i64 4, .int .i64 12, .int .i64 0, .int .i64 9, .int .i64 512, .int .i64 0, .int .i64 1, .int .i64 3, .int .i64 0, .int .i64 1, .int .i64 2, .int .i64 (-1), .int .i64 1, .int .i64 2, .int .i64 9007199254740992, .int .i64 0, .int .i64 2, .int .i64 0, .int .i64 1, .int .i64 0, .int .i64 0, .int .i64 1, .int .i64 (-2), .int .i64 0, .int .i64 3, .int .i64 522, .int .i64 0, .int .i64 2, .int .i64 8, .int .i64 0] 34) = w3 at *
      go_loopw [8] (fun i wr => ∃ k : Nat, i = .int .i64 (k : Int) ∧ k ≤ 10 ∧ Hid (Aj wr q2 34 10 k2 ∧ Gb w wr p X 2 5 5 U0)) (fun i _ => 10 - (intOf i).toNat)
      case atStart => exact ⟨0, rfl, by omega, HF2.out, HG2.out⟩
      case round =>
        clear HF2 HG2
        obtain ⟨k, rfl, hk, HH⟩ := hrel
        by_cases hk10 : k < 10
        · have hki : (k : Int) < 10 := by omega
          have c0 := HH.out.1.cell0 hk10
          have c1 := HH.out.1.cell1 hk10
          have c2 := HH.out.1.cell2 hk10
          have hmb := k2_bad ⟨k, hk10⟩
          have hi64 := k2_i64 ⟨k, hk10⟩
          simp only at hmb hi64
          generalize (k2 k).s = s at *
          generalize (k2 k).p = pp at *
          generalize (k2 k).c = c at *
          have CH := Hear_bad' HH.out.2 s pp c hi64 hmb
          have HH1 := HH
          clear HH hmb hi64
          unfold jv at CH
          go_wp2_with (fail)
          refine CH.mono ?_
          rintro e w4 ⟨rfl, h, hm4⟩
          have HA4 : Hid (Aj w4 q2 34 10 k2) := HH1.out.1.mod hm4 (fun h => h)
          clear CH HH1 c0 c1 c2
          have ER := eqJ 2 4 5 2 4 5 true (by decide)
          go_wp2_with (fail)
          refine (nb_own2 h 4 (by decide)).mono ?_
          rintro e w5 ⟨rfl, h5, hm5⟩
          have HA5 : Hid (Aj w5 q2 34 10 k2) := HA4.out.mod hm5 (fun h => h)
          unfold jv
          go_wp2_with (fail)
          refine (join_w 2 4 5 w5).mono ?_
          rintro e w6 ⟨rfl, hm6⟩
          have HA6 : Hid (Aj w6 q2 34 10 k2 ∧ Gb w w6 p X 2 5 5 U0) := ⟨HA5.out.mod hm6 (fun h => h), h5.keep hm6⟩
          unfold jv
          clear hm5 hm6 HA4 HA5 h h5 hm4
          go_wp2_with (fail)
          go_roundw
          case rel => exact ⟨k + 1, by go_num, by omega, HA6.out⟩
          case measure => simp [intOf]; omega
        · obtain rfl : k = 10 := by omega
          have h := HH.out.2
          clear HH
          have E1 := eqJ 2 4 5 2 4 5 true (by decide)
          have E2 := eqJ 2 6 5 2 6 5 true (by decide)
          go_wp2_with (fail)
          refine (nb_join h 2 14 99).mono ?_
          rintro e w2 ⟨rfl, h⟩
          unfold jv
          go_wp2_with (fail)
          refine (nb_hears h 2 14 99 ⟨by decide, by decide⟩ 0 (by decide +kernel) 5 (by decide +kernel) U0 (by unfold hJ; rw [if_neg (by decide +kernel)])).mono ?_
          rintro e w2 ⟨rfl, h⟩
          go_wp2_with (fail)
          refine (nb_counter h).mono ?_
          rintro e w2 ⟨rfl, h⟩
          go_wp2_with (fail)
          refine (nb_own h 4 (by decide)).mono ?_
          rintro e w2 ⟨rfl, h⟩
          unfold jv
          go_wp2_with (fail)
          refine (nb_join h 2 4 5).mono ?_
          rintro e w2 ⟨rfl, h⟩
          unfold jv
          go_wp2_with (fail)
          refine (nb_agreed h true (by decide)).mono ?_
          rintro e w2 ⟨rfl, h⟩
          go_wp2_with (fail)
          refine (nb_join h 1 2 0).mono ?_
          rintro e w2 ⟨rfl, h⟩
          unfold jv
          go_wp2_with (fail)
          refine (nb_hears h 1 2 0 ⟨by decide, by decide⟩ 3 (by decide +kernel) 5 (by decide +kernel) U1 rfl).mono ?_
          rintro e w2 ⟨rfl, h⟩
          go_wp2_with (fail)
          refine (nb_agreed h false (by decide)).mono ?_
          rintro e w2 ⟨rfl, h⟩
          go_wp2_with (fail)
          refine (nb_own h 6 (by decide)).mono ?_
          rintro e w2 ⟨rfl, h⟩
          unfold jv
          go_wp2_with (fail)
          refine (nb_join h 2 6 5).mono ?_
          rintro e w2 ⟨rfl, h⟩
          unfold jv
          go_wp2_with (fail)
          refine (nb_join h 1 6 0).mono ?_
          rintro e w2 ⟨rfl, h⟩
          unfold jv
          go_wp2_with (fail)
          refine (nb_hears h 1 6 0 ⟨by decide, by decide⟩ 2 (by decide +kernel) 5 (by decide +kernel) U2 rfl).mono ?_
          rintro e w2 ⟨rfl, h⟩
          go_wp2_with (fail)
          refine (nb_agreed h true (by decide)).mono ?_
          rintro e w2 ⟨rfl, h⟩
          go_wp2_with (fail)
          refine (nb_join h 1 6 1).mono ?_
          rintro e w2 ⟨rfl, h⟩
          unfold jv
          go_wp2_with (fail)
          refine (nb_hears h 1 6 1 ⟨by decide, by decide⟩ 2 (by decide +kernel) 5 (by decide +kernel) U3 rfl).mono ?_
          rintro e w2 ⟨rfl, h⟩
          go_wp2_with (fail)
          refine (nb_join h 1 6 9007199254740991).mono ?_
          rintro e w2 ⟨rfl, h⟩
          unfold jv
          go_wp2_with (fail)
          refine (nb_hears h 1 6 9007199254740991 ⟨by decide, by decide⟩ 2 (by decide +kernel) 9007199254740991 (by decide +kernel) U4 rfl).mono ?_
          rintro e w2 ⟨rfl, h⟩
          go_wp2_with (fail)
          refine (nb_counter h).mono ?_
          rintro e w2 ⟨rfl, h⟩
          go_wp2_with (fail)
          refine (nb_join h 1 6 0).mono ?_
          rintro e w2 ⟨rfl, h⟩
          unfold jv
          go_wp2_with (fail)
          refine (nb_hears h 1 6 0 ⟨by decide, by decide⟩ 2 (by decide +kernel) 9007199254740991 (by decide +kernel) U5 rfl).mono ?_
          rintro e w2 ⟨rfl, h⟩
          go_wp2_with (fail)
          refine (nb_counter h).mono ?_
          rintro e w2 ⟨rfl, h⟩
          go_wp2_with (fail)
          have HM6 : Hid (Mod (fun _ => False) w w2) := h.mod
          clear h E1 E2
          have E3 := eqJ 0 0 0 0 0 0 true (by decide)
          go_loopw [11, 12] (fun v i wr => ∃ k : Nat, i = .int .i64 (k : Int) ∧ k ≤ 2 ∧ Hid (Nn wr v ∧ Mod (fun _ => False) w wr)) (fun _ i _ => 2 - (intOf i).toNat)
          case atStart => exact ⟨0, rfl, by omega, .inl rfl, HM6.out⟩
          case round =>
            clear HM6
            obtain ⟨k, rfl, hk, HH⟩ := hrel
            by_cases hk2 : k < 2
            · have hki : (k : Int) < 2 := by omega
              have CJ := join_w 1 2 0 wr
              unfold jv at CJ
              go_wp2_with (fail)
              refine CJ.mono ?_
              rintro e w3 ⟨rfl, hm3⟩
              have HH3 : Hid (Nn w3 u11 ∧ Mod (fun _ => False) w w3) := ⟨HH.out.1.keep hm3, HH.out.2.and hm3⟩
              have CH := HH3.out.1.hears
              unfold jv at CH
              clear CJ HH hm3
              go_wp2_with (fail)
              refine CH.mono ?_
              rintro e w4 ⟨rfl, hm4⟩
              have HH4 : Hid (Nn w4 u11 ∧ Mod (fun _ => False) w w4) := ⟨HH3.out.1.keep hm4, HH3.out.2.and hm4⟩
              have CO := HH4.out.1.own
              unfold jv at CO
              clear CH HH3 hm4
              go_wp2_with (fail)
              refine CO.mono ?_
              rintro e w5 ⟨rfl, hm5⟩
              have HH5 : Hid (Nn w5 u11 ∧ Mod (fun _ => False) w w5) := ⟨HH4.out.1.keep hm5, HH4.out.2.and hm5⟩
              have CA := HH5.out.1.agreed
              have CC := HH5.out.1.counter
              clear CO HH4 hm5
              go_wp2_with (fail)
              refine CA.mono ?_
              rintro e w5 ⟨rfl, rfl⟩
              go_wp2_with (fail)
              refine CC.mono ?_
              rintro e w5 ⟨rfl, rfl⟩
              have HN : Hid (Nn (w5.alloc (.cells #[.int .i64 0, .int .i64 0, .int .i64 0, .map none] 54)) (.pointer (some ⟨w5.heap.size, 0, none⟩)) ∧ Mod (fun _ => False) w (w5.alloc (.cells #[.int .i64 0, .int .i64 0, .int .i64 0, .map none] 54))) := ⟨.inr ⟨_, rfl, (Bk.new w5 #[.int .i64 0, .int .i64 0, .int .i64 0, .map none] 54).cellv (j := 0) rfl⟩, HH5.out.2.alloc _⟩
              clear CA CC HH5
              go_wp2_with (fail)
              go_roundw
              case rel => exact ⟨k + 1, by go_num, by omega, HN.out⟩
              case measure => simp [intOf]; omega
            · obtain rfl : k = 2 := by omega
              go_wp2_with (fail)
              refine (works_any wr).mono ?_
              rintro e w3 ⟨rfl, hm3⟩
              go_wp2_with (fail)
              go_ret
              exact ⟨rfl, HH.out.2.and hm3⟩
namespace gatherKnown
open Go.ChangeShapes Go.WideShapes Go.ChangeAt Go.RowKit
set_option maxRecDepth 100000 in
theorem lifted (os : Os) (started : os.Started) (H : Type) (enc : TypeId × Value → H) :
    ReturnsInHanded {} Try.checked os 7 .any (Rows.gatherKnownSpec.pre6 enc Try.prog Try.f7 Rows.gatherKnownRow.domain false) (Rows.gatherKnownSpec.post enc Try.prog Try.f7 false true false false) := by
  refine returnsInHanded_of_change_sized (C := Try.checked) own started (by kernel_rfl) Try.func7
    (ChangeSpec.witness6 (enc := enc) (C := Try.checked) false ⟨#[], #[], []⟩ 8 (by kernel_rfl) (by kernel_rfl) (by kernel_rfl) (by kernel_rfl)) ?_
  intro W base args ds gs before hval0 hW hcnd hsz0 _
  have hval : ∀ (j : Nat) t v, Try.f7.params[j]? = some t → args[j]? = some v → Value.okWide Try.prog W .any base t v := hval0
  have hsz : (DataW.weightsEach Try.prog (Try.f7.params.toList ++ Rows.gatherKnownSpec.plain.varTypes Try.prog) (ds ++ gs)).all (· ≤ reachBytes) = true := hsz0
  have hW' := hW
  obtain ⟨p, q, hA0, hV, rfl, hfz, hnd⟩ := hW
  have hA : DataW.TrodAll enc Try.prog W 0 (fun _ => true) true Try.f7.params.toList args.toList ds p := hA0
  rw [Try.params7] at hA hval hsz
  obtain ⟨hargs, rfl, rfl⟩ := trodAll_nil hA
  obtain rfl : args = #[] := by cases args; simp_all
  obtain ⟨rfl, rfl⟩ := trodVars_none hV
  clear hA0 hval0
  refine (known_walk W).mono fun e W' ⟨he, hm⟩ => ?_
  subst he
  have bel : Below W.heap.size W W' := hm.below _ (Nat.le_refl _) (fun _ h => h.elim)
  exact ⟨_, rfl, _, _, _, [], _, [], hW', trodAll_mk1 (shut_bool Try.underlying4 _), trodAll_mk0, rfl, bel.frame _, fun h => by cases h⟩

theorem over : Rows.gatherKnownRow.holds Try.pinned (OpenSpec.ofChange Rows.gatherKnownSpec) :=
  OpenClaim.holds_of_wide 7 Try.f7 rfl rfl rfl rfl rfl rfl rfl ⟨rfl, rfl, rfl, rfl, rfl⟩ rfl rfl rfl rfl rfl (by kernel_rfl) Try.func7 (by kernel_rfl)
    (of_decide_eq_true (by kernel_rfl)) (by unfold Func.isWrapper; first | (rw [if_pos (by decide +kernel)]; kernel_rfl) | (rw [if_neg (by decide +kernel)]; exact ⟨rfl, rfl⟩))
    (fun os started H enc _ => lifted os started H enc)
end gatherKnown
theorem gatherKnown_holds : Rows.GatherKnownSaid := gatherKnown.over
end Go.Proofs.Ytmfdgbdcbfppcaa
