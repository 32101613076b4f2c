/- WindowOrder: in whatever order data come, the window is the same; of every list of ints, as the statement says it. No conditions. -/
import Derived.Test.YtejlcoakencdiaaYh
import Derived.Test.YtejlcoakencdiaaYn
namespace Go.Proofs.Ytejlcoakencdiaa
open Go.RowKit Go.Maps
theorem Wn.le {w : World} {p : Nat} {X : Nat → Prop} {J : Int → Option Dt} {a h : Int} {n m : Nat} (hw : Wn w p X J a h n) (hn : n ≤ m) : Wn w p X J a h m := by
  obtain ⟨B, V, N, h1, h2, h3, h4, h5⟩ := hw.mem.blk
  exact ⟨⟨⟨B, V, N, h1, h2, by omega, h4, h5⟩, hw.mem.px, hw.mem.lt⟩, hw.wp⟩
/-- Behind Put of data with a number. -/
def pO (J : Int → Option Dt) (k : Int) : Int → Option Dt := if (J k).isSome = true then J else upd J k (some (on k))
theorem pO_some (J : Int → Option Dt) (k z : Int) : ((pO J k) z).isSome = true ↔ ((J z).isSome = true ∨ z = k) := by
  unfold pO
  split
  · rename_i h
    constructor
    · exact fun hz => .inl hz
    · rintro (hz | rfl)
      · exact hz
      · exact h
  · by_cases e : z = k
    · subst e; simp [upd_same]
    · rw [upd_other J _ e]; simp [e]
/-- Just these numbers are there, and the greatest seen is one of them. -/
structure Fs (J : Int → Option Dt) (h : Int) (P : Int → Prop) : Prop where
  mem : ∀ k, (J k).isSome = true ↔ P k
  top : (h = 0 ∨ P h) ∧ 0 ≤ h ∧ ∀ k, P k → k ≤ h
theorem Fs.put {J : Int → Option Dt} {h : Int} {P Q : Int → Prop} (hF : Fs J h P) {k : Int} (hk : 1 ≤ k) (hQ : ∀ z, Q z ↔ (P z ∨ z = k)) : Fs (pO J k) (max h k) Q := by
  obtain ⟨t1, t2, t3⟩ := hF.top
  refine ⟨fun z => by rw [pO_some, hF.mem, hQ], ?_, by omega, fun z hz => ?_⟩
  · rcases Int.le_total k h with e | e
    · rw [Int.max_eq_left e]
      rcases t1 with t1 | t1
      · exact .inl t1
      · exact .inr ((hQ h).2 (.inl t1))
    · rw [Int.max_eq_right e]
      exact .inr ((hQ k).2 (.inr rfl))
  · rcases (hQ z).1 hz with h1 | h1
    · have := t3 z h1; omega
    · omega
theorem Fs.top_eq {J J' : Int → Option Dt} {h h' : Int} {P P' : Int → Prop} (hF : Fs J h P) (hF' : Fs J' h' P') (he : ∀ k, P k ↔ P' k) : h = h' := by
  obtain ⟨t1, t2, t3⟩ := hF.top
  obtain ⟨s1, s2, s3⟩ := hF'.top
  have a : h ≤ h' := by
    rcases t1 with t1 | t1
    · omega
    · exact s3 h ((he h).1 t1)
  have b : h' ≤ h := by
    rcases s1 with s1 | s1
    · omega
    · exact t3 h' ((he h').2 s1)
  omega
theorem Fs.same {J J' : Int → Option Dt} {h h' : Int} {P P' : Int → Prop} (hF : Fs J h P) (hF' : Fs J' h' P') (he : ∀ k, P k ↔ P' k) : ∀ k, (J k).isSome = (J' k).isSome := fun k => by
  have h1 := hF.mem k
  have h2 := hF'.mem k
  have h3 := he k
  cases e1 : (J k).isSome <;> cases e2 : (J' k).isSome <;> simp_all
/-- Two windows side by side, all of it new since w0. -/
structure Tw (w0 w : World) (p q : Nat) (Jv Jw : Int → Option Dt) (av hv aw hw : Int) (n : Nat) : Prop where
  ex : ∃ X Y, Wn w p X Jv av hv n ∧ Wn w q Y Jw aw hw n ∧ (∀ i, X i → ¬ Y i) ∧ (∀ i, X i → w0.heap.size ≤ i) ∧ (∀ i, Y i → w0.heap.size ≤ i)
  mod : Mod (fun _ => False) w0 w
theorem Tw.keep {w0 w w' : World} {p q : Nat} {Jv Jw : Int → Option Dt} {av hv aw hw : Int} {n : Nat} (h : Tw w0 w p q Jv Jw av hv aw hw n) (hm : Mod (fun _ => False) w w') : Tw w0 w' p q Jv Jw av hv aw hw n := by
  obtain ⟨X, Y, h1, h2, h3, h4, h5⟩ := h.ex
  exact ⟨⟨X, Y, h1.keep hm, h2.keep hm, h3, h4, h5⟩, h.mod.and hm⟩
theorem Tw.swap {w0 w : World} {p q : Nat} {Jv Jw : Int → Option Dt} {av hv aw hw : Int} {n : Nat} (h : Tw w0 w p q Jv Jw av hv aw hw n) : Tw w0 w q p Jw Jv aw hw av hv n := by
  obtain ⟨X, Y, h1, h2, h3, h4, h5⟩ := h.ex
  exact ⟨⟨Y, X, h2, h1, fun i hy hx => h3 i hx hy, h5, h4⟩, h.mod⟩
theorem Tw.put {w0 w : World} {p q : Nat} {Jv Jw : Int → Option Dt} {av hv aw hw : Int} {n : Nat} (h : Tw w0 w p q Jv Jw av hv aw hw n) (k : Int) (hk : 1 ≤ k ∧ k ≤ 9007199254740991) (hN : n < 1000000000000) :
    Calls Try.prog 12 #[.pointer (some ⟨p, 0, none⟩), dv (on k) (.slice none 0 0)] w fun e w' => ∃ b a', e = .returned (.tuple #[.bool b, .int .i64 0]) ∧ Tw w0 w' p q (pO Jv k) Jw a' (max hv k) aw hw (n + 1) := by
  obtain ⟨X, Y, h1, h2, h3, h4, h5⟩ := h.ex
  refine (Put_on h1 k hk hN).mono ?_
  rintro e w' ⟨X', a', rfl, g1, -, g3, g4⟩
  refine ⟨_, a', rfl, ⟨X', Y, g1, (h2.mod g3 (fun i hy hx => h3 i hx hy)).le (by omega), fun i hx hy => ?_, fun i hx => ?_, h5⟩, h.mod.trans g3 (fun _ _ h => h) (fun i hi hx => by have := h4 i hx; omega)⟩
  · rcases g4 i hx with hx | hx
    · exact h3 i hx hy
    · have := h2.mem.lt i hy; omega
  · rcases g4 i hx with hx | hx
    · exact h4 i hx
    · have := h.mod.size; omega
theorem two_new (w0 w : World) (hm0 : Mod (fun _ => False) w0 w) : Calls Try.prog 7 #[] w fun e w' => ∃ p, e = .returned (.pointer (some ⟨p, 0, none⟩)) ∧ Calls Try.prog 7 #[] w' fun e' w'' => ∃ q, e' = .returned (.pointer (some ⟨q, 0, none⟩)) ∧ Tw w0 w'' p q (fun _ => none) (fun _ => none) 0 0 0 0 0 := by
  refine (wNew w).mono ?_
  rintro e w1 ⟨p, X, rfl, h1, h2, h3⟩
  refine ⟨p, rfl, (wNew w1).mono ?_⟩
  rintro e w2 ⟨q, Y, rfl, g1, g2, g3⟩
  refine ⟨q, rfl, ⟨X, Y, h1.keep g3, g1, fun i hx hy => ?_, fun i hx => ?_, fun i hy => ?_⟩, (hm0.and h3).and g3⟩
  · have := h1.mem.lt i hx; have := g2 i hy; omega
  · have := h2 i hx; have := hm0.size; omega
  · have := g2 i hy; have := hm0.size; have := h3.size; omega
theorem Ks.nums {J : Int → Option Dt} {a h s : Int} {zs : List Int} (hp : Wp J a h) (hk : Ks J s zs) : (zs.map (fun k => (J k).getD d0)).map (·.n) = zs := by
  rw [List.map_map]
  conv => rhs; rw [← List.map_id zs]
  apply List.map_congr_left
  intro k hk'
  obtain ⟨d, hd⟩ := Option.isSome_iff_exists.1 ((hk.mem k).1 hk').2
  simp [hd, (hp.each k d hd).1]
/-- A number of the law's. -/
def nf (l : List Int) (i : Nat) : Int := 1 + br (l.getD i 0) (60 : Nat)
theorem nf_rng (l : List Int) (i : Nat) : 1 ≤ nf l i ∧ nf l i ≤ 60 := by
  have := br_rng (l.getD i 0) 60 (by omega)
  unfold nf
  omega
theorem bring60 (x : Int) (w : World) (h : I64 x) : Calls Try.prog 29 #[.int .i64 x, .int .i64 60] w fun e w' => e = .returned (.int .i64 (br x (60 : Nat))) ∧ w' = w := bring x 60 w (by omega) (by omega) h
set_option maxRecDepth 100000 in
set_option maxHeartbeats 4000000 in
theorem order_walk (v0 : Value) (l : List Int) (w : World) (hl : Si w v0 l) : Calls Try.prog 4 #[v0] w fun e w' => e = .returned (.bool true) ∧ Mod (fun _ => False) w w' := by
  have HL : Hid (Si w v0 l) := hl
  obtain ⟨av, cv, rfl, hlc, hcm, hcn, hfm⟩ := hl.form
  clear hfm hcn hl
  obtain ⟨nn, hnn⟩ : ∃ nn : Nat, nn = min l.length 100 := ⟨_, rfl⟩
  have hmin : min (l.length : Int) 100 = (nn : Int) := by omega
  have HNN : Hid (nn ≤ l.length ∧ nn ≤ 100) := ⟨by omega, by omega⟩
  clear hnn
  go_enter Try.func4, Try.ntmps4
  go_wp2_with (fail)
  refine (awake_any w).mono ?_
  rintro e w1 ⟨rfl, hm1⟩
  go_wp2_with (fail)
  refine (two_new w w1 hm1).mono ?_
  rintro e w2 ⟨p, rfl, HN2⟩
  go_wp2_with (fail)
  refine HN2.mono ?_
  rintro e w3 ⟨q, rfl, hT⟩
  clear HN2 hm1
  go_wp2_with (fail)
  go_loopw [6] (fun i wr => ∃ (j : Nat) (Jv Jw : Int → Option Dt) (a1 h1 a2 h2 : Int), i = .int .i64 (j : Int) ∧ j ≤ nn ∧ Tw w wr p q Jv Jw a1 h1 a2 h2 (2 * j) ∧ Hid (Fs Jv h1 (fun z => ∃ i, i < j ∧ z = nf l i) ∧ Fs Jw h2 (fun z => ∃ i, i < j ∧ z = nf l (nn - 1 - i)))) (fun i _ => nn - (intOf i).toNat)
  case atStart => exact ⟨0, _, _, _, _, _, _, rfl, Nat.zero_le _, hT, ⟨fun k => by simp, by simp⟩, ⟨fun k => by simp, by simp⟩⟩
  case round =>
    obtain ⟨j, Jv, Jw, a1, h1, a2, h2, rfl, hj, hTr, hF⟩ := hrel
    clear hT
    by_cases hjn : j < nn
    · have hjn' : (j : Int) < (nn : Int) := by omega
      obtain ⟨r, hr⟩ : ∃ r : Nat, r = nn - 1 - j := ⟨_, rfl⟩
      have hri : (nn : Int) - 1 - (j : Int) = (r : Int) := by omega
      have hrl : r < l.length := by have := HNN.out; omega
      have hjl : j < l.length := by have := HNN.out; omega
      have HR : Hid (r = nn - 1 - j) := hr
      have hrl' : (r : Int) < (l.length : Int) := by omega
      have hjl' : (j : Int) < (l.length : Int) := by omega
      have hn100 : (nn : Int) ≤ 100 := by have := HNN.out; omega
      have hne : l ≠ [] := by intro e; rw [e] at hjl; simp at hjl
      obtain ⟨b, off, hcs⟩ : ∃ b off, av = some ⟨b, off, none⟩ ∧ ∀ wx, Mod (fun _ => False) w wx → ∀ i, i < l.length → wx.cell? ⟨b, off + i, none⟩ = some (.int .i64 (l.getD i 0)) := by
        obtain ⟨av', cv', e, _, _, _, hfm⟩ := HL.out.form
        cases e
        obtain ⟨b, off, rfl, hc⟩ := hfm hne
        exact ⟨b, off, rfl, fun wx hm i hi => hm.cell (hc i hi) (fun h => h)⟩
      obtain ⟨rfl, hcs⟩ := hcs
      have HCS : Hid (∀ wx, Mod (fun _ => False) w wx → ∀ i, i < l.length → wx.cell? ⟨b, off + i, none⟩ = some (.int .i64 (l.getD i 0))) := hcs
      have HI : Hid (∀ i, i < l.length → I64 (l.getD i 0)) := fun i hi => HL.out.rng _ (by rw [List.getD_eq_getElem?_getD, List.getElem?_eq_getElem hi]; exact List.getElem_mem hi)
      have c1 := HCS.out wr hTr.mod j hjl
      have HB1 := bring60 (l.getD j 0) wr (HI.out j hjl)
      obtain ⟨z1, ez1⟩ : ∃ z, z = br (l.getD j 0) (60 : Nat) := ⟨_, rfl⟩
      have HK1 : Hid (nf l j = 1 + z1) := by show _ = _; rw [ez1]; rfl
      have hz1 := nf_rng l j
      rw [HK1.out] at hz1
      obtain ⟨hz1a, hz1b⟩ : 0 ≤ z1 ∧ z1 < 60 := by omega
      rw [← ez1] at HB1
      clear hcs ez1 hz1 hr hne
      generalize l.getD j 0 = x1 at c1 HB1
      go_wp2_with (fail)
      refine HB1.mono ?_
      rintro e w4 ⟨rfl, rfl⟩
      clear HB1 c1
      go_wp2_with (fail)
      refine (one_any (1 + z1) w4).mono ?_
      rintro e w5 ⟨rfl, hm5⟩
      have hT5 := hTr.keep hm5
      clear hTr hm5
      go_wp2_with (fail)
      refine (hT5.put (1 + z1) (by omega) (by omega)).mono ?_
      rintro e w6 ⟨b6, a6, rfl, hT6⟩
      clear hT5
      have c2 := HCS.out w6 hT6.mod r hrl
      have HB2 := bring60 (l.getD r 0) w6 (HI.out r hrl)
      obtain ⟨z2, ez2⟩ : ∃ z, z = br (l.getD r 0) (60 : Nat) := ⟨_, rfl⟩
      have HK2 : Hid (nf l r = 1 + z2) := by show _ = _; rw [ez2]; rfl
      have hz2 := nf_rng l r
      rw [HK2.out] at hz2
      obtain ⟨hz2a, hz2b⟩ : 0 ≤ z2 ∧ z2 < 60 := by omega
      rw [← ez2] at HB2
      clear ez2 hz2
      generalize l.getD r 0 = x2 at c2 HB2
      have hr0 : (0 : Int) ≤ (r : Int) := by omega
      go_wp2_with (fail)
      refine HB2.mono ?_
      rintro e w7 ⟨rfl, rfl⟩
      clear HB2 c2
      go_wp2_with (fail)
      refine (one_any (1 + z2) w7).mono ?_
      rintro e w8 ⟨rfl, hm8⟩
      have hT8 := (hT6.keep hm8).swap
      clear hT6 hm8
      go_wp2_with (fail)
      refine (hT8.put (1 + z2) (by omega) (by omega)).mono ?_
      rintro e w9 ⟨b9, a9, rfl, hT9⟩
      have HT9 : Hid (Tw w w9 p q (pO Jv (1 + z1)) (pO Jw (1 + z2)) a6 (max h1 (1 + z1)) a9 (max h2 (1 + z2)) (2 * (j + 1))) := by
        rw [show 2 * (j + 1) = 2 * j + 1 + 1 by omega]
        exact hT9.swap
      clear hT8 hT9
      go_wp2_with (fail)
      have HF2 : Hid (Fs (pO Jv (1 + z1)) (max h1 (1 + z1)) (fun z => ∃ i, i < j + 1 ∧ z = nf l i) ∧ Fs (pO Jw (1 + z2)) (max h2 (1 + z2)) (fun z => ∃ i, i < j + 1 ∧ z = nf l (nn - 1 - i))) := by
        refine ⟨hF.out.1.put (by omega) fun z => ?_, hF.out.2.put (by omega) fun z => ?_⟩
        · constructor
          · rintro ⟨i, hi, rfl⟩
            rcases Nat.lt_or_ge i j with h | h
            · exact .inl ⟨i, h, rfl⟩
            · obtain rfl : i = j := by omega
              exact .inr HK1.out
          · rintro (⟨i, hi, rfl⟩ | rfl)
            · exact ⟨i, by omega, rfl⟩
            · exact ⟨j, by omega, HK1.out.symm⟩
        · constructor
          · rintro ⟨i, hi, rfl⟩
            rcases Nat.lt_or_ge i j with h | h
            · exact .inl ⟨i, h, rfl⟩
            · obtain rfl : i = j := by omega
              rw [← HR.out]
              exact .inr HK2.out
          · rintro (⟨i, hi, rfl⟩ | rfl)
            · exact ⟨i, by omega, rfl⟩
            · exact ⟨j, by omega, by rw [← HR.out]; exact HK2.out.symm⟩
      go_roundw
      case rel => exact ⟨j + 1, _, _, _, _, _, _, by go_num, hjn, HT9.out, HF2⟩
      case measure => simp [intOf]; omega
    · have HJN : Hid (j = nn) := by show _ = _; omega
      have HE : Hid (∀ z, (∃ i, i < j ∧ z = nf l i) ↔ (∃ i, i < j ∧ z = nf l (nn - 1 - i))) := fun z => by
        rw [HJN.out]
        constructor
        · rintro ⟨i, hi, rfl⟩
          exact ⟨nn - 1 - i, by omega, by rw [show nn - 1 - (nn - 1 - i) = i by omega]⟩
        · rintro ⟨i, hi, rfl⟩
          exact ⟨nn - 1 - i, by omega, rfl⟩
      have HS : Hid (∀ k, (Jv k).isSome = (Jw k).isSome) := hF.out.1.same hF.out.2 HE.out
      have eh := hF.out.1.top_eq hF.out.2 HE.out
      subst eh
      obtain ⟨X, Y, k1, k2, k3, k4, k5⟩ := hTr.ex
      have ea := k1.wp.aru_eq k2.wp HS.out
      subst ea
      have HM : Hid (Mod (fun _ => False) w wr) := hTr.mod
      have HW1 : Hid (Wn wr p X Jv a1 h1 (2 * j)) := k1
      have HW2 : Hid (Wn wr q Y Jw a1 h1 (2 * j)) := k2
      have HLE : Hid (2 * j ≤ 1000000) := by show _ ≤ _; have := HNN.out; omega
      clear k1 k2 k3 k4 k5 hTr hF hmin
      go_wp2_with (fail)
      refine (Above_w HW1.out HLE.out 0).mono ?_
      rintro e w4 ⟨v4, d4, z4, rfl, hR4, hk4, hmp4, hln4, hm4⟩
      have HW24 : Hid (Wn w4 q Y Jw a1 h1 (2 * j)) := HW2.out.keep hm4
      go_wp2_with (fail)
      refine (Above_w HW24.out HLE.out 0).mono ?_
      rintro e w5 ⟨v5, d5, z5, rfl, hR5, hk5, hmp5, hln5, hm5⟩
      have ez : z4 = z5 := hk4.uniq hk5 HS.out
      have HN4 : Hid (d4.map (·.1.n) = z4) := by
        show _ = _
        have := hk4.nums HW1.out.wp
        rw [← hmp4, List.map_map] at this
        exact this
      have HN5 : Hid (d5.map (·.1.n) = z5) := by
        show _ = _
        have := hk5.nums HW2.out.wp
        rw [← hmp5, List.map_map] at this
        exact this
      have HZ : Hid (z4 = z5) := ez
      have HD4 : Hid (d4.length ≤ 1000000) := by show _ ≤ _; have := congrArg List.length HN4.out; simp at this; have := HLE.out; omega
      have HD5 : Hid (d5.length ≤ 1000000) := by show _ ≤ _; have := congrArg List.length HN5.out; simp at this; have := HLE.out; omega
      have HR4 : Hid (Rd18 w5 _ v4 d4) := hR4.keep hm5
      have HR5 : Hid (Rd18 w5 _ v5 d5) := hR5
      have HM5 : Hid (Mod (fun _ => False) w w5) := (HM.out.and hm4).and hm5
      have HA1 : Hid (Wn w5 p X Jv a1 h1 (2 * j)) := (HW1.out.keep hm4).keep hm5
      have HA2 : Hid (Wn w5 q Y Jw a1 h1 (2 * j)) := HW24.out.keep hm5
      clear hR4 hk4 hmp4 hln4 hm4 hR5 hk5 hmp5 hln5 hm5 ez HW24 HW1 HW2 HM
      have HRU1 := Aru_w HA1.out
      have HRU2 := Aru_w HA2.out
      have HHI1 := High_w HA1.out
      have HHI2 := High_w HA2.out
      go_wp2_with (fail)
      refine HRU1.mono ?_
      rintro e w6 ⟨rfl, rfl⟩
      go_wp2_with (fail)
      refine HRU2.mono ?_
      rintro e w6 ⟨rfl, rfl⟩
      go_wp2_with (fail)
      refine HHI1.mono ?_
      rintro e w6 ⟨rfl, rfl⟩
      go_wp2_with (fail)
      refine HHI2.mono ?_
      rintro e w6 ⟨rfl, rfl⟩
      clear HRU1 HRU2 HHI1 HHI2
      go_wp2_with (fail)
      refine (Gaps_w HA1.out 99).mono ?_
      rintro e w7 ⟨v7, rfl, ho7, hm7, -⟩
      go_wp2_with (fail)
      refine (Gaps_w (HA2.out.keep hm7) 99).mono ?_
      rintro e w8 ⟨v8, rfl, ho8, hm8, -⟩
      go_wp2_with (fail)
      refine (Cr.EqInts_at true ((ho7.mod hm8 (fun _ _ h => h)).sl) ho8.sl (by rw [fil_congr HS.out]; exact decide_eq_true rfl)).mono ?_
      rintro e w9 ⟨rfl, hm9⟩
      have hM9 := ((hm7.and hm8).and hm9)
      clear ho7 ho8 hm7 hm8 hm9
      go_wp2_with (fail)
      refine (numbersOf_any v4 d4 w9 (HR4.out.keep hM9).row HD4.out).mono ?_
      rintro e w10 ⟨v10, rfl, ho10, hm10, -⟩
      go_wp2_with (fail)
      refine (numbersOf_any v5 d5 w10 (HR5.out.keep (hM9.and hm10)).row HD5.out).mono ?_
      rintro e w11 ⟨v11, rfl, ho11, hm11, -⟩
      go_wp2_with (fail)
      refine (Cr.EqInts_at true ((ho10.mod hm11 (fun _ _ h => h)).sl) ho11.sl (by rw [HN4.out, HN5.out, HZ.out]; exact decide_eq_true rfl)).mono ?_
      rintro e w12 ⟨rfl, hm12⟩
      go_wp2_with (fail)
      go_ret
      exact ⟨rfl, (((HM5.out.and hM9).and hm10).and hm11).and hm12⟩
namespace windowOrder
open Go.ChangeShapes Go.WideShapes Go.ChangeAt Go.RowKit
set_option maxRecDepth 100000 in
theorem lifted (os : Os) (started : os.Started) (H : Type) (enc : TypeId × Value → H) :
    ReturnsInHanded {} Try.checked os 4 .any (Rows.windowOrderSpec.pre6 enc Try.prog Try.f4 Rows.windowOrderRow.domain false) (Rows.windowOrderSpec.post enc Try.prog Try.f4 false true false false) := by
  refine returnsInHanded_of_change_sized (C := Try.checked) own started (by kernel_rfl) Try.func4
    (ChangeSpec.witness6 (enc := enc) (C := Try.checked) false ⟨#[], #[.slice none 0 0], []⟩ 8 (by kernel_rfl) (by kernel_rfl) (by kernel_rfl) (by kernel_rfl)) ?_
  intro W base args ds gs before hval0 hW hcnd hsz0 _
  have hval : ∀ (j : Nat) t v, Try.f4.params[j]? = some t → args[j]? = some v → Value.okWide Try.prog W .any base t v := hval0
  have hsz : (DataW.weightsEach Try.prog (Try.f4.params.toList ++ Rows.windowOrderSpec.plain.varTypes Try.prog) (ds ++ gs)).all (· ≤ reachBytes) = true := hsz0
  have hW' := hW
  obtain ⟨p, q, hA0, hV, rfl, hfz, hnd⟩ := hW
  have hA : DataW.TrodAll enc Try.prog W 0 (fun _ => true) true Try.f4.params.toList args.toList ds p := hA0
  rw [Try.params4] at hA hval hsz
  obtain ⟨v0, vs0, d0, ds0, p0, q0, hargs, rfl, rfl, h0, r0⟩ := trodAll_cons hA
  obtain ⟨rfl, rfl, rfl⟩ := trodAll_nil r0
  obtain rfl : args = #[v0] := by cases args; simp_all
  obtain ⟨rfl, rfl⟩ := trodVars_none hV
  have k0 := h0
  have lt0 : ∀ x ∈ p0, x.block < W.heap.size := by obtain ⟨m, hm⟩ := k0; exact DataW.trod_lt m _ _ _ hm
  obtain ⟨B0, hB0⟩ := open_l h0 (okWide_slice Try.underlying50 (hval 0 50 v0 rfl rfl))
  clear hA0 hval0
  refine (order_walk v0 B0 W hB0).mono fun e W' ⟨he, hm⟩ => ?_
  subst he
  have bel : Below W.heap.size W W' := hm.below _ (Nat.le_refl _) (fun _ h => h.elim)
  exact ⟨_, rfl, _, _, _, [], _, [], hW', trodAll_mk1 (shut_bool Try.underlying4 _), (trodAll_cons_mk (Below.trod laidOut (by kernel_rfl) (of_decide_eq_true (by kernel_rfl)) k0 bel lt0) trodAll_mk0), rfl, bel.frame _, fun h => by cases h⟩

theorem over : Rows.windowOrderRow.holds Try.pinned (OpenSpec.ofChange Rows.windowOrderSpec) :=
  OpenClaim.holds_of_wide 4 Try.f4 rfl rfl rfl rfl rfl rfl rfl ⟨rfl, rfl, rfl, rfl, rfl⟩ rfl rfl rfl rfl rfl (by kernel_rfl) Try.func4 (by kernel_rfl)
    (of_decide_eq_true (by kernel_rfl)) (by unfold Func.isWrapper; first | (rw [if_pos (by decide +kernel)]; kernel_rfl) | (rw [if_neg (by decide +kernel)]; exact ⟨rfl, rfl⟩))
    (fun os started H enc _ => lifted os started H enc)
end windowOrder
theorem windowOrder_holds : Rows.WindowOrderSaid := windowOrder.over
end Go.Proofs.Ytejlcoakencdiaa
