/- The program's lane: what Take, Flip and Reaches answer, and what they leave, of any place. Conditions: a lane that New made. -/
import Derived.Test.YthmglemjlinlgaaLq
namespace Go.Proofs.Ythmglemjlinlgaa
open Go.RowKit
theorem getD_of {L : List Dg} {R : List (Dg × Value)} {i : Nat} {x : Dg × Value} (e : R.map Prod.fst = L) (hx : R[i]? = some x) : L.getD i ⟨0, 0, []⟩ = x.1 := by
  subst e
  simp [hx]
/-- What is taken. -/
structure Tk (w' : World) (u : Value) (d : Dg) (F F' : Nat → Prop) : Prop where
  own : Own w' u d.b
  oct : Oct d.b
  far : ∀ g, u.ownBlock = some g → F g ∧ ¬ F' g
theorem Take_any {p : Nat} {L : List Dg} {s : Int} {F : Nat → Prop} {i : Int} {w : World} (h : La w p L s F) : Calls Try.prog 13 #[.pointer (some ⟨p, 0, none⟩), .int .i64 i] w fun e w' => ∃ u F', e = .returned (.tuple #[.agg #[.int .i64 (tD L i).f, .int .i64 (tD L i).t, u], .int .i64 (tE L i)]) ∧ La w' p (tL L i) s F' ∧ Gone w w' F F' ∧ Tk w' u (tD L i) F F' := by
  obtain ⟨v, R, h, e, rfl⟩ := h
  have hl : R.length = L.length := by rw [← e]; simp
  unfold tE tL tD
  by_cases hi : i < 0 ∨ (L.length : Int) ≤ i
  · rw [if_pos hi, if_pos hi, if_pos hi]
    refine (Take_bad h (by rw [hl]; exact hi)).mono ?_
    rintro e' w' ⟨rfl, hm⟩
    exact ⟨_, _, rfl, ⟨v, R, h.mod hm (fun _ _ h => h), e, rfl⟩, Gone.none hm, Own.nil _, ⟨by simp, by simp⟩, by simp [Value.ownBlock]⟩
  · rw [if_neg hi, if_neg hi, if_neg hi]
    obtain ⟨k, rfl⟩ : ∃ k : Nat, i = k := ⟨i.toNat, by omega⟩
    have hk : k < R.length := by omega
    have hx : R[k]? = some R[k] := by simp [hk]
    have hd := getD_of e hx
    rw [Int.toNat_natCast, hd]
    refine (Take_ok h hk hx).mono ?_
    rintro e' w' ⟨rfl, v2, hL, hv, hm⟩
    have hmem := List.mem_of_getElem? hx
    have ho := h.gr.own _ hmem
    have hin : ∀ g, (R[k]).2.ownBlock = some g → Ft v R g := fun g hg => .inr ⟨_, List.mem_map_of_mem hmem, hg⟩
    refine ⟨_, _, rfl, ⟨v2, _, hL, ?_, rfl⟩, ⟨hm.mono fun j _ hj => ?_, fun j hj => .inl ?_⟩, ho.1.mod hm (fun g hg hp => ?_), ho.2, fun g hg => ⟨.inr (hin g hg), fun hp => ?_⟩⟩
    · rw [map_eraseIdx', e]
    · rcases hj with rfl | hj
      · exact .inl rfl
      · exact .inr (.inl hj)
    · rcases hj with rfl | hj | hj
      · exact .inl rfl
      · exact .inr (.inl (by rw [← hv]; exact hj))
      · exact .inr (Ft.out hj)
    · rcases hp with rfl | hp
      · exact h.far (hin _ hg)
      · exact h.gr.far hmem g hp hg
    · rcases hp with rfl | hp
      · exact h.far (hin _ hg)
      · exact h.gr.gone (v2 := v2) hx (fun g' hg' => .inl (by rw [← hv]; exact hg')) g hg hp
/-- A byte's bit turned. -/
def flp (c : Int) (k : Nat) : Int := ((c.toNat ^^^ 2 ^ k : Nat) : Int)
theorem flp_rng {c : Int} (hc : 0 ≤ c ∧ c ≤ 255) {k : Nat} (hk : k < 8) : 0 ≤ flp c k ∧ flp c k ≤ 255 := by
  have : 2 ^ k ≤ 2 ^ 7 := Nat.pow_le_pow_right (by omega) (by omega)
  have := Nat.xor_lt_two_pow (n := 8) (x := c.toNat) (y := 2 ^ k) (by omega) (by omega)
  unfold flp
  omega
theorem flp_bits {c : Int} (hc : 0 ≤ c ∧ c ≤ 255) {k : Nat} (hk : k < 8) : bits .xor .u8 c ((2 : Int) ^ k % 256) = flp c k := by
  have hp : 2 ^ k < 256 := by
    have : 2 ^ k ≤ 2 ^ 7 := Nat.pow_le_pow_right (by omega) (by omega)
    omega
  have e2 : (2 : Int) ^ k % 256 = ((2 ^ k : Nat) : Int) := by
    rw [show (2 : Int) ^ k = ((2 ^ k : Nat) : Int) by simp]
    generalize 2 ^ k = q at hp
    omega
  have hc' : ((c.toNat : Nat) : Int) = c := by omega
  have := u8_xor_nat c.toNat (2 ^ k) (by omega) hp
  rw [hc'] at this
  rw [e2, this]
  rfl
theorem flp_bits' {c : Int} (hc : 0 ≤ c ∧ c ≤ 255) {k : Nat} (hk : k < 8) : bits .xor .u8 c ((2 : Int) ^ min k 8 % 256) = flp c k := by
  rw [Nat.min_eq_left (Nat.le_of_lt hk)]
  exact flp_bits hc hk
/-- Flip: what is answered, and left. -/
def fD (d : Dg) (t : Nat) : Dg := { d with b := d.b.set (t / 8) (flp (d.b.getD (t / 8) 0) (t % 8)) }
def fE (L : List Dg) (i t : Int) : Int := if (i < 0 ∨ (L.length : Int) ≤ i) ∨ t < 0 ∨ ((L.getD i.toNat ⟨0, 0, []⟩).b.length : Int) ≤ t / 8 then 9 else 0
def fL (L : List Dg) (i t : Int) : List Dg := if (i < 0 ∨ (L.length : Int) ≤ i) ∨ t < 0 ∨ ((L.getD i.toNat ⟨0, 0, []⟩).b.length : Int) ≤ t / 8 then L else L.modify i.toNat fun d => fD d t.toNat
theorem stb_fst (R : List (Dg × Value)) (i j k : Nat) {x : Dg × Value} (hx : R[i]? = some x) : (stb R i j (flp (x.1.b.getD j 0) k)).map Prod.fst = (R.map Prod.fst).modify i fun d => { d with b := d.b.set j (flp (d.b.getD j 0) k) } := by
  apply List.ext_getElem?
  intro q
  simp only [stb, List.getElem?_map, List.getElem?_modify]
  by_cases e : i = q
  · subst e
    simp [hx]
  · cases R[q]? <;> simp [e]
theorem Flip_place {p : Nat} {v : Value} {R : List (Dg × Value)} {s i t : Int} {w : World} (h : Ln w p v R s) (hi : i < 0 ∨ (R.length : Int) ≤ i) : Calls Try.prog 18 #[.pointer (some ⟨p, 0, none⟩), .int .i64 i, .int .i64 t] w fun e w' => e = .returned (.int .i64 9) ∧ w' = w := by
  have hN := check_any p v R s i _ h
  rw [kE, if_pos hi] at hN
  clear h hi
  go_enter Try.func18, Try.ntmps18
  go_wp2_with (go_at_call 33; refine hN.mono ?_; rintro e w' ⟨rfl, rfl⟩)
  go_ret
  exact ⟨rfl, rfl⟩
set_option maxRecDepth 100000 in
set_option maxHeartbeats 1000000 in
theorem Flip_bit {p : Nat} {v : Value} {R : List (Dg × Value)} {s t : Int} {i : Nat} {w : World} (h : Ln w p v R s) (hi : i < R.length) {x : Dg × Value} (hx : R[i]? = some x) (ht : t < 0 ∨ (¬ t < 0 ∧ (x.1.b.length : Int) ≤ t / 8)) (htm : t ≤ 9223372036854775807) : Calls Try.prog 18 #[.pointer (some ⟨p, 0, none⟩), .int .i64 i, .int .i64 t] w fun e w' => e = .returned (.int .i64 9) ∧ w' = w := by
  have hN := check_any p v R s i _ h
  rw [kE, if_neg (by omega)] at hN
  obtain ⟨g, cap, x', rfl, hc1, hc2, hx', e0, e1, e2, o1, o2⟩ := h.at hi
  obtain rfl : x' = x := by
    rw [hx] at hx'
    exact (Option.some.inj hx').symm
  have c1 := h.c1
  obtain ⟨ao, cp, ev⟩ := o1.shape
  obtain ⟨⟨f, tt, b⟩, u⟩ := x'
  dsimp only at *
  subst ev
  clear h o1 o2 hx hx' hc2
  generalize R.length = n at *
  generalize b.length = k at *
  have i1 : (i : Int) < n := by omega
  rcases ht with ht | ⟨h0, ht⟩
  · clear htm
    go_enter Try.func18, Try.ntmps18
    go_wp2_with (go_at_call 33; refine hN.mono ?_; rintro e w' ⟨rfl, rfl⟩)
    go_ret
    exact ⟨rfl, rfl⟩
  · obtain ⟨T, rfl⟩ : ∃ T : Nat, t = T := ⟨t.toNat, by omega⟩
    have hK3 : (T : Int).tdiv 8 = ((T / 8 : Nat) : Int) := by rw [Int.tdiv_eq_ediv_of_nonneg (by omega)]; omega
    have hw : wrap64 ((T / 8 : Nat) : Int) = ((T / 8 : Nat) : Int) := by unfold wrap64; omega
    have hk : (k : Int) ≤ ((T / 8 : Nat) : Int) := by omega
    clear htm ht h0
    generalize T / 8 = K at *
    go_enter Try.func18, Try.ntmps18
    go_wp2_with (go_at_call 33; refine hN.mono ?_; rintro e w' ⟨rfl, rfl⟩)
    go_ret
    exact ⟨rfl, rfl⟩
set_option maxRecDepth 100000 in
set_option maxHeartbeats 1000000 in
theorem Flip_ok {p : Nat} {v : Value} {R : List (Dg × Value)} {s : Int} {i t : Nat} {w : World} (h : Ln w p v R s) (hi : i < R.length) {x : Dg × Value} (hx : R[i]? = some x) (ht : t / 8 < x.1.b.length) (htm : (t : Int) ≤ 9223372036854775807) : Calls Try.prog 18 #[.pointer (some ⟨p, 0, none⟩), .int .i64 i, .int .i64 t] w fun e w' => e = .returned (.int .i64 0) ∧ Ln w' p v (stb R i (t / 8) (flp (x.1.b.getD (t / 8) 0) (t % 8))) s ∧ Mod (Fl p v R) w w' := by
  have hN := check_any p v R s i _ h
  rw [kE, if_neg (by omega)] at hN
  obtain ⟨g, cap, x', rfl, hc1, hc2, hx', e0, e1, e2, o1, o2⟩ := h.at hi
  obtain rfl : x' = x := by
    rw [hx] at hx'
    exact (Option.some.inj hx').symm
  have c1 := h.c1
  obtain ⟨g2, cp, ev, hl1, hl2⟩ := o1.form (by omega)
  have hcr : 0 ≤ x'.1.b.getD (t / 8) 0 ∧ x'.1.b.getD (t / 8) 0 ≤ 255 := o2.1 _ (by simp [ht])
  have hJ2 : t % 8 < 8 := Nat.mod_lt _ (by omega)
  have hfr := flp_rng hcr hJ2
  have hfb : Hid (bits .xor .u8 (x'.1.b.getD (t / 8) 0) ((2 : Int) ^ min (t % 8) 8 % 256) = flp (x'.1.b.getD (t / 8) 0) (t % 8)) := flp_bits' hcr hJ2
  have HS := h.setb hx (g := g2) (by rw [ev]; rfl) ht hfr
  have hcell : w.cell? ⟨g2, t / 8, none⟩ = some (.int .u8 (x'.1.b.getD (t / 8) 0)) := by
    obtain ⟨_, _, e3, _, _, _, h4⟩ := (o1.sl o2.1).form
    obtain ⟨_, _, e4, h5⟩ := h4 (by intro e; rw [e] at ht; simp at ht)
    rw [ev, Value.slice.injEq] at e3
    obtain ⟨e3, _, _⟩ := e3
    rw [← e3] at e4
    cases e4
    have := h5 (t / 8) ht
    rwa [Nat.zero_add] at this
  have hfz : w.frozen? ⟨g2, t / 8, none⟩ = false := by
    obtain ⟨cur, hcur⟩ := o1.kind (g := g2) (by rw [ev]; rfl)
    simp [World.frozen?, hcur]
  have HSa : Hid (Ln _ _ _ _ _) := HS.1
  have HSb : Hid (Mod _ _ _) := HS.2
  clear HS
  obtain ⟨⟨f, tt, b⟩, u⟩ := x'
  dsimp only at *
  subst ev
  have hK3 : (t : Int).tdiv 8 = ((t / 8 : Nat) : Int) := by rw [Int.tdiv_eq_ediv_of_nonneg (by omega)]; omega
  have hJ3 : (t : Int).tmod 8 = ((t % 8 : Nat) : Int) := by rw [Int.tmod_eq_emod_of_nonneg (by omega)]; omega
  have hw : wrap64 ((t / 8 : Nat) : Int) = ((t / 8 : Nat) : Int) := by unfold wrap64; omega
  have hw2 : wrap64 ((t % 8 : Nat) : Int) = ((t % 8 : Nat) : Int) := by unfold wrap64; omega
  clear htm
  generalize flp (b.getD (t / 8) 0) (t % 8) = y at *
  generalize b.getD (t / 8) 0 = c at *
  generalize t / 8 = K at *
  generalize t % 8 = J at *
  clear h o1 o2 hx hx' hc2 hl2 hfr
  have i1 : (i : Int) < R.length := by omega
  have i2 : (K : Int) < b.length := by omega
  have hfb' := hfb.out
  go_enter Try.func18, Try.ntmps18
  go_wp2_with (go_at_call 33; refine hN.mono ?_; rintro e w' ⟨rfl, rfl⟩)
  clear hN c1 e0 e1 e2 hc1 hi ht i1 hcr hJ2 hl1 hfb
  go_region
  all_goals
    go_wp2
    go_ret
    refine ⟨rfl, HSa.out.mod ((Mod.refl (fun _ => False) _).drew) (fun _ _ h => h), ?_⟩
    exact HSb.out.drew
theorem Flip_any {p : Nat} {L : List Dg} {s : Int} {F : Nat → Prop} {i t : Int} {w : World} (h : La w p L s F) (htm : t ≤ 9223372036854775807) : Calls Try.prog 18 #[.pointer (some ⟨p, 0, none⟩), .int .i64 i, .int .i64 t] w fun e w' => e = .returned (.int .i64 (fE L i t)) ∧ La w' p (fL L i t) s F ∧ Mod F w w' := by
  have h0 := h
  obtain ⟨v, R, h, e, rfl⟩ := h
  have hl : R.length = L.length := by rw [← e]; simp
  unfold fE fL
  by_cases hi : i < 0 ∨ (L.length : Int) ≤ i
  · rw [if_pos (.inl hi), if_pos (.inl hi)]
    refine (Flip_place h (by rw [hl]; exact hi)).mono ?_
    rintro e' w' ⟨rfl, rfl⟩
    exact ⟨rfl, h0, Mod.refl _ _⟩
  · obtain ⟨k, rfl⟩ : ∃ k : Nat, i = k := ⟨i.toNat, by omega⟩
    have hk : k < R.length := by omega
    have hx : R[k]? = some R[k] := by simp [hk]
    have hd := getD_of e hx
    rw [Int.toNat_natCast, hd]
    by_cases ht : t < 0 ∨ ((R[k]).1.b.length : Int) ≤ t / 8
    · rw [if_pos (.inr ht), if_pos (.inr ht)]
      refine (Flip_bit h hk hx (by omega) htm).mono ?_
      rintro e' w' ⟨rfl, rfl⟩
      exact ⟨rfl, h0, Mod.refl _ _⟩
    · have hn : ¬ (((k : Int) < 0 ∨ (L.length : Int) ≤ k) ∨ t < 0 ∨ ((R[k]).1.b.length : Int) ≤ t / 8) := by
        rintro (h1 | h1)
        · exact hi h1
        · exact ht h1
      rw [if_neg hn, if_neg hn]
      obtain ⟨T, rfl⟩ : ∃ T : Nat, t = T := ⟨t.toNat, by omega⟩
      refine (Flip_ok h hk hx (by omega) htm).mono ?_
      rintro e' w' ⟨rfl, hL, hm⟩
      refine ⟨rfl, ⟨v, _, hL, ?_, ?_⟩, hm⟩
      · rw [stb_fst _ _ _ _ hx, e]
        rfl
      · unfold Fl
        rw [Ft.setb]
/-- A bit of a side. -/
def bt (s : Int) (a : Int) : Int := bits .and .i64 (s / 2 ^ min a.toNat 64) 1
/-- Who reaches whom. -/
def rc (s a b : Int) : Bool := nd a && nd b && (bt s a == bt s b)
theorem nd_nat {a : Int} (h : nd a = true) : ∃ n : Nat, a = n ∧ 1 ≤ n ∧ n ≤ 8 := by
  unfold nd at h
  simp only [decide_eq_true_eq] at h
  exact ⟨a.toNat, by omega, by omega, by omega⟩
end Go.Proofs.Ythmglemjlinlgaa
