/- The document's lane: what Flip does; the law's is; Bring. No conditions. -/
import Derived.Test.YthmglemjlinlgaaLg
namespace Go.Proofs.Ythmglemjlinlgaa
open Go.RowKit
/-- A power of two. -/
def pw (n : Nat) : Nat := 2 ^ n
theorem pw_succ (n : Nat) : pw (n + 1) = pw n * 2 := Nat.pow_succ 2 n
theorem pw_le {n : Nat} (h : n ≤ 8) : pw n ≤ 256 := by
  have : 2 ^ n ≤ 2 ^ 8 := Nat.pow_le_pow_right (by omega) h
  unfold pw
  omega
theorem flp_pw {c : Int} (hc : 0 ≤ c ∧ c ≤ 255) {k : Nat} (hk : k < 8) : bits .xor .u8 c ((pw k : Int) % 256) = flp c k := by
  have := flp_bits hc hk
  rwa [show (2 : Int) ^ k = ((pw k : Nat) : Int) by simp [pw]] at this
set_option maxRecDepth 100000 in
set_option maxHeartbeats 1000000 in
theorem dFlip_ok {p : Nat} {v : Value} {R : List (Dg × Value)} {a : List Bool} {i t : Nat} {w : World} (h : Dn w p v R a) (hi : i < R.length) {x : Dg × Value} (hx : R[i]? = some x) (ht : t / 8 < x.1.b.length) (htm : (t : Int) ≤ 9223372036854775807) : Calls Try.prog 19 #[.pointer (some ⟨p, 0, none⟩), .int .i64 i, .int .i64 t] w fun e w' => e = .returned (.int .i64 0) ∧ Dn w' p v (stb R i (t / 8) (flp (x.1.b.getD (t / 8) 0) (t % 8))) a ∧ Mod (Fl p v R) w w' := by
  have hN := has_any (i := i) h
  rw [decide_eq_true (by omega)] at hN
  obtain ⟨g, cap, x', rfl, hc1, hc2, hx', e0, e1, e2, o1, o2⟩ := h.at hi
  obtain rfl : x' = x := by
    rw [hx] at hx'
    exact (Option.some.inj hx').symm
  have c0 := h.c0
  obtain ⟨g2, cp, ev, hl1, hl2⟩ := o1.form (by omega)
  have hcr : 0 ≤ x'.1.b.getD (t / 8) 0 ∧ x'.1.b.getD (t / 8) 0 ≤ 255 := o2.1 _ (by simp [ht])
  have hJ2 : t % 8 < 8 := Nat.mod_lt _ (by omega)
  have hfr := flp_rng hcr hJ2
  have hfb : Hid (bits .xor .u8 (x'.1.b.getD (t / 8) 0) ((pw (t % 8) : Int) % 256) = flp (x'.1.b.getD (t / 8) 0) (t % 8)) := flp_pw hcr hJ2
  have HS := h.setb hx (g := g2) (by rw [ev]; rfl) ht hfr
  have hcell : w.cell? ⟨g2, t / 8, none⟩ = some (.int .u8 (x'.1.b.getD (t / 8) 0)) := by
    obtain ⟨_, _, e3, _, _, _, h4⟩ := (o1.sl o2.1).form
    obtain ⟨_, _, e4, h5⟩ := h4 (by intro e; rw [e] at ht; simp at ht)
    rw [ev, Value.slice.injEq] at e3
    obtain ⟨e3, _, _⟩ := e3
    rw [← e3] at e4
    cases e4
    have := h5 (t / 8) ht
    rwa [Nat.zero_add] at this
  have hfz : w.frozen? ⟨g2, t / 8, none⟩ = false := by
    obtain ⟨cur, hcur⟩ := o1.kind (g := g2) (by rw [ev]; rfl)
    simp [World.frozen?, hcur]
  have HSa : Hid (Dn _ _ _ _ _) := HS.1
  have HSb : Hid (Mod _ _ _) := HS.2
  clear HS
  obtain ⟨⟨f, tt, b⟩, u⟩ := x'
  dsimp only at *
  subst ev
  have hK3 : (t : Int).tdiv 8 = ((t / 8 : Nat) : Int) := by rw [Int.tdiv_eq_ediv_of_nonneg (by omega)]; omega
  have hJ3 : (t : Int).tmod 8 = ((t % 8 : Nat) : Int) := by rw [Int.tmod_eq_emod_of_nonneg (by omega)]; omega
  have hw : wrap64 ((t / 8 : Nat) : Int) = ((t / 8 : Nat) : Int) := by unfold wrap64; omega
  have hw2 : wrap64 ((t % 8 : Nat) : Int) = ((t % 8 : Nat) : Int) := by unfold wrap64; omega
  clear htm
  generalize flp (b.getD (t / 8) 0) (t % 8) = y at *
  generalize b.getD (t / 8) 0 = c at *
  generalize t / 8 = K at *
  generalize t % 8 = J at *
  clear h o1 o2 hx hx' hc2 hl2 hfr
  have i1 : (i : Int) < R.length := by omega
  have i2 : (K : Int) < b.length := by omega
  have HJ : Hid (J < 8) := hJ2
  go_enter Try.func19, Try.ntmps19
  go_wp2_with (go_at_call 34; refine hN.mono ?_; rintro e w' ⟨rfl, rfl⟩)
  go_loop [7, 8] (fun z k => ∃ n : Nat, z = .int .i64 ((pw n : Nat) : Int) ∧ k = .int .i64 n ∧ n ≤ J) (fun _ k => J - (intOf k).toNat)
  case atStart => exact ⟨0, rfl, rfl, Nat.zero_le _⟩
  case round =>
    obtain ⟨n, rfl, rfl, hn⟩ := hrel
    by_cases hlt : n < J
    · have hp := pw_le (Nat.le_trans hn (Nat.le_of_lt HJ.out))
      have HP : Hid (pw (n + 1) = pw n * 2) := pw_succ n
      have hi3 : (n : Int) < J := Int.ofNat_lt.2 hlt
      have hn8 : n < 8 := Nat.lt_trans hlt HJ.out
      clear hJ2 hfb
      generalize pw n = P at *
      go_wp2
      go_round
      case rel => clear hK3 hJ3 hw hw2; exact ⟨n + 1, by rw [HP.out]; go_num, by go_num, hlt⟩
      case measure => clear hK3 hJ3 hw hw2; simp [intOf]; omega
    · obtain rfl : n = J := Nat.le_antisymm hn (Nat.le_of_not_lt hlt)
      have hp := pw_le (Nat.le_of_lt HJ.out)
      generalize pw n = P at *
      have hfb' := hfb.out
      go_wp2
      go_ret
      exact ⟨rfl, HSa.out, HSb.out⟩
theorem dFlip_any {p : Nat} {L : List Dg} {a : List Bool} {F : Nat → Prop} {i t : Int} {w : World} (h : Da w p L a F) (htm : t ≤ 9223372036854775807) : Calls Try.prog 19 #[.pointer (some ⟨p, 0, none⟩), .int .i64 i, .int .i64 t] w fun e w' => e = .returned (.int .i64 (fE L i t)) ∧ Da w' p (fL L i t) a F ∧ Mod F w w' := by
  have h0 := h
  obtain ⟨v, R, h, e, rfl⟩ := h
  have hl : R.length = L.length := by rw [← e]; simp
  unfold fE fL
  by_cases hi : i < 0 ∨ (L.length : Int) ≤ i
  · rw [if_pos (.inl hi), if_pos (.inl hi)]
    refine (dFlip_place h (by rw [hl]; exact hi)).mono ?_
    rintro e' w' ⟨rfl, rfl⟩
    exact ⟨rfl, h0, Mod.refl _ _⟩
  · obtain ⟨k, rfl⟩ : ∃ k : Nat, i = k := ⟨i.toNat, by omega⟩
    have hk : k < R.length := by omega
    have hx : R[k]? = some R[k] := by simp [hk]
    have hd := getD_of e hx
    rw [Int.toNat_natCast, hd]
    by_cases ht : t < 0 ∨ ((R[k]).1.b.length : Int) ≤ t / 8
    · rw [if_pos (.inr ht), if_pos (.inr ht)]
      refine (dFlip_bit h hk hx (by omega) htm).mono ?_
      rintro e' w' ⟨rfl, rfl⟩
      exact ⟨rfl, h0, Mod.refl _ _⟩
    · have hn : ¬ (((k : Int) < 0 ∨ (L.length : Int) ≤ k) ∨ t < 0 ∨ ((R[k]).1.b.length : Int) ≤ t / 8) := by
        rintro (h1 | h1)
        · exact hi h1
        · exact ht h1
      rw [if_neg hn, if_neg hn]
      obtain ⟨T, rfl⟩ : ∃ T : Nat, t = T := ⟨t.toNat, by omega⟩
      refine (dFlip_ok h hk hx (by omega) htm).mono ?_
      rintro e' w' ⟨rfl, hL, hm⟩
      refine ⟨rfl, ⟨v, _, hL, ?_, ?_⟩, hm⟩
      · rw [stb_fst _ _ _ _ hx, e]
        rfl
      · unfold Fl
        rw [Ft.setb]
theorem is_self {d : Dg} {u v : Value} {w : World} (hu : Sl w u d.b) (hv : Sl w v d.b) : Calls Try.prog 28 #[.agg #[.int .i64 d.f, .int .i64 d.t, u], .int .i64 d.f, .int .i64 d.t, v] w fun e w' => e = .returned (.bool true) ∧ Mod (fun _ => False) w w' := by
  have hm := (Mod.refl (fun _ => False) w).alloc (.cells #[.int .i64 d.f, .int .i64 d.t, u] 30)
  have hE := EqBytes_at true (hu.mod hm (fun _ _ h => h)) (hv.mod hm (fun _ _ h => h)) (by simp)
  obtain ⟨ao, cp, e, _⟩ := hu.form
  subst e
  obtain ⟨ao', cp', e, _⟩ := hv.form
  subst e
  obtain ⟨f, t, b⟩ := d
  dsimp only at *
  clear hu hv
  go_enter Try.func28, Try.ntmps28
  go_wp2_with (go_at_call 35; refine hE.mono ?_; rintro e w2 ⟨rfl, hm2⟩)
  go_ret
  exact ⟨rfl, hm.and hm2⟩
end Go.Proofs.Ythmglemjlinlgaa
