/- OrderMore: the greater safe is, the more is delivered; of every list of ints and two numbers, as the statement says it. No conditions. -/
import Derived.Test.YtbmhgglnoofnjaaOd
import Derived.Deep.RegionHeld3
namespace Go.Proofs.Ytbmhgglnoofnjaa
open Go.RowKit Go.Maps
theorem gon_mono {J : Int → Option Dt} {s s' k : Int} (h : s ≤ s') (hg : gon J s k = true) : gon J s' k = true := by
  unfold gon at hg ⊢
  split at hg
  · cases hg
  · rename_i d e
    cases hk : (d.m.kind == 5) with
    | true => rfl
    | false =>
      cases hs : d.m.safe with
      | false => rfl
      | true =>
        rw [hk, hs] at hg
        simp only [Bool.false_or, Bool.true_and, Bool.not_eq_true', decide_eq_false_iff_not] at hg ⊢
        omega
theorem Nx.le {J : Int → Option Dt} {s s' N : Int} {t t' : Nat} (h : Nx J s N t) (h' : Nx J s' N t') (hs : s ≤ s') : t ≤ t' := by
  rcases Nat.lt_or_ge t' t with h1 | h1
  · have := gon_mono hs (h.on t' h1)
    rw [h'.off] at this
    cases this
  · exact h1
theorem fd_take : ∀ (ds : List (Dt × Value)) (m : Nat), m ≤ ds.length → fd (ds.take m) = (fd ds).take (m * 18)
  | [], m, h => by
    simp at h
    subst h
    rfl
  | d :: r, 0, _ => by simp [fd]
  | d :: r, m + 1, h => by
    have e : (m + 1) * 18 = (dcl d.1 d.2).length + m * 18 := by rw [dcl_len]; omega
    rw [List.take_succ_cons, fd, fd, fd_take r m (by simpa using h), e, List.take_length_add_append]
theorem RG.take {w : World} {et : TypeId} {sz : Nat} {ao : Option Addr} {n cap : Nat} {cs : List Value} (h : RG w et sz (.slice ao n cap) n cs) (m : Nat) (hm : m ≤ n) : RG w et sz (.slice ao m cap) m (cs.take (m * sz)) := by
  obtain ⟨ao', cap', e, h1, h2⟩ := h.form
  cases e
  refine ⟨?_, ⟨ao, cap, rfl, by omega, ?_⟩⟩
  · rw [List.length_take, h.len]
    have := Nat.mul_le_mul_right sz hm
    omega
  · rcases h2 with h2 | ⟨g, off, cur, rfl, hB, hs, hc⟩
    · exact .inl h2
    · refine .inr ⟨g, off, cur, rfl, hB, hs, fun j c hj => hc j c ?_⟩
      rw [List.getElem?_take] at hj
      split at hj
      · exact hj
      · cases hj
theorem RG.cap {w : World} {et : TypeId} {sz : Nat} {ao : Option Addr} {n cap : Nat} {cs : List Value} (h : RG w et sz (.slice ao n cap) n cs) : n ≤ cap ∧ ((ao = none ∧ cap = 0) ∨ ∃ g off, ao = some ⟨g, off, none⟩) := by
  obtain ⟨ao', cap', e, h1, h2⟩ := h.form
  cases e
  rcases h2 with h2 | ⟨g, off, cur, rfl, _⟩
  · exact ⟨h1, .inl h2⟩
  · exact ⟨h1, .inr ⟨g, off, rfl⟩⟩
/-- A window alone, new since w0. -/
structure Vw (w0 w : World) (p : Nat) (J : Int → Option Dt) (a h : Int) (n : Nat) : Prop where
  ex : ∃ X, Wn w p X J a h n ∧ (∀ i, X i → w0.heap.size ≤ i)
  h50 : h ≤ 50
  mod : Mod (fun _ => False) w0 w
theorem Vw.keep {w0 w w' : World} {p : Nat} {J : Int → Option Dt} {a h : Int} {n : Nat} (o : Vw w0 w p J a h n) (hm : Mod (fun _ => False) w w') : Vw w0 w' p J a h n := by
  obtain ⟨X, h1, h3⟩ := o.ex
  exact ⟨⟨X, h1.keep hm, h3⟩, o.h50, o.mod.and hm⟩
theorem Vw.put {w0 w : World} {p : Nat} {J : Int → Option Dt} {a h : Int} {n : Nat} (o : Vw w0 w p J a h n) (d : Dt) (hb : d.m.body = []) (ho : okP d = true) (h1 : d.n ≤ 50) (hn : n < 1000000000000) :
    Calls Try.prog 11 #[.pointer (some ⟨p, 0, none⟩), dv d (.slice none 0 0)] w fun e w' => ∃ b a' h' J', e = .returned (.tuple #[.bool b, .int .i64 0]) ∧ Vw w0 w' p J' a' h' (n + 1) := by
  obtain ⟨X, g, h3⟩ := o.ex
  refine (Put_any g d (.slice none 0 0) (by rw [hb]; exact Own.nilSl w) (by rw [hb]; simp) hn).mono ?_
  rintro e w' ⟨X', a', rfl, g1, g2, g3, g4⟩
  refine ⟨pF J d, a', pH J h d, pJ J d, by simp [pE, ho], ⟨X', g1, fun i hx => ?_⟩, ?_, o.mod.trans g3 (fun _ _ h => h) (fun i hi hx => by have := h3 i hx; omega)⟩
  · rcases g4 i hx with hx | hx
    · exact h3 i hx
    · have := o.mod.size; omega
  · unfold pH
    have := o.h50
    split <;> omega
/-- A new order is asked. -/
theorem Vw.ask {w0 w : World} {p : Nat} {J : Int → Option Dt} {a h : Int} {n : Nat} (o : Vw w0 w p J a h n) : Calls Try.prog 7 #[] w fun e w' => ∃ q, e = .returned (.pointer (some ⟨q, 0, none⟩)) ∧ ∀ s, Calls Try.prog 13 #[.pointer (some ⟨q, 0, none⟩), .pointer (some ⟨p, 0, none⟩), .int .i64 s] w' fun e w'' => ∃ v ds t, e = .returned (.tuple #[v, .int .i64 0]) ∧ Rd18 w'' w.heap.size v ds ∧ ds.map (·.1) = dl J 0 t ∧ Nx J s 0 t ∧ t ≤ 50 ∧ Vw w0 w'' p J a h n ∧ Mod (fun _ => False) w w'' := by
  refine (oNew w).mono ?_
  rintro e w1 ⟨q, rfl, g1, g2, g3⟩
  obtain ⟨X, k1, k2⟩ := (o.keep g3).ex
  obtain ⟨X0, j1, j2⟩ := o.ex
  have hq : ¬ X0 q := fun hx => by have := j1.mem.lt q hx; omega
  have ha := j1.wp.a_le
  refine ⟨q, rfl, fun s => (Next_w (j1.keep g3) g1 hq ⟨by omega, ha.1⟩ (by have := o.h50; omega) s).mono ?_⟩
  rintro e w2 ⟨v, ds, t, rfl, g⟩
  have hm : Mod (fun _ => False) w w2 := g3.trans g.mod (fun _ _ h => h) (fun i hi e => by omega)
  have hle := on_le j1.wp ⟨by omega, ha.1⟩ g.nx.on
  exact ⟨v, ds, t, rfl, g.row.base g3.size, g.map, g.nx, by have := o.h50; omega, o.keep hm, hm⟩
/-- Some window. -/
structure Vx (w0 w : World) (p : Nat) : Prop where
  ex : ∃ J a h n, Vw w0 w p J a h n
theorem EqI_st {u v : Value} {w : World} {a b : List Int} (hu : Cr.Sl w u a) (hv : Cr.Sl w v b) (h : a = b) : Calls Try.prog 23 #[u, v] w fun e w' => ∃ r, e = .returned r ∧ r = .bool true ∧ Mod (fun _ => False) w w' := by
  refine (Cr.EqInts_at true hu hv (decide_eq_true h)).mono ?_
  rintro e w' ⟨rfl, hm⟩
  exact ⟨_, rfl, rfl, hm⟩
theorem numbersOf_st (v : Value) (ds : List (Dt × Value)) (w : World) (hR : RG w 42 18 v ds.length (fd ds)) (hl : ds.length ≤ 1000000) : Calls Try.prog 24 #[v] w fun e w' => ∃ r, e = .returned r ∧ Hid (Cr.Own w' r (ds.map (·.1.n))) ∧ Mod (fun _ => False) w w' := by
  refine (numbersOf_any v ds w hR hl).mono ?_
  rintro e w' ⟨u, rfl, h1, h2, -⟩
  exact ⟨u, rfl, h1, h2⟩
set_option maxRecDepth 100000 in
set_option maxHeartbeats 40000000 in
theorem more_walk (v0 : Value) (l : List Int) (lo hi : Int) (w : World) (hl : Si w v0 l) : Calls Try.prog 5 #[v0, .int .i64 lo, .int .i64 hi] w fun e w' => e = .returned (.bool true) ∧ Mod (fun _ => False) w w' := by
  have HL : Hid (Si w v0 l) := hl
  obtain ⟨av, cv, rfl, hlc, hcm, hcn, hfm⟩ := hl.form
  clear hfm hcn hl
  go_enter Try.func5, Try.ntmps5
  go_wp2_with (fail)
  refine (awake_any w).mono ?_
  rintro e w1 ⟨rfl, hm1⟩
  go_wp2_with (fail)
  refine (wNew w1).mono ?_
  rintro e w2 ⟨p, X2, rfl, hW2, hX2, hm2⟩
  have HV0 : Hid (Vw w w2 p (fun _ => none) 0 0 0) := ⟨⟨X2, hW2, fun i hi => by have := hX2 i hi; have := hm1.size; omega⟩, by omega, hm1.and hm2⟩
  clear hm1 hm2 hX2 hW2
  have HC : Hid (∃ b off, l ≠ [] → av = some ⟨b, off, none⟩ ∧ ∀ wx, Mod (fun _ => False) w wx → ∀ i, i < l.length → wx.cell? ⟨b, off + i, none⟩ = some (.int .i64 (l.getD i 0))) := by
    obtain ⟨av', cv', e, _, _, _, hfm⟩ := HL.out.form
    cases e
    by_cases hne : l = []
    · exact ⟨0, 0, fun h => absurd hne h⟩
    · obtain ⟨b, off, rfl, hc⟩ := hfm hne
      exact ⟨b, off, fun _ => ⟨rfl, fun wx hm i hi => hm.cell (hc i hi) (fun h => h)⟩⟩
  go_upto_block 0 with (fail)
  go_cut [] (fun wx => Vx w wx p)
  case first =>
    go_wp2_with (fail)
    go_loopw [8] (fun i wr => ∃ (j : Nat) (J : Int → Option Dt) (a h : Int), i = .int .i64 (j : Int) ∧ j ≤ l.length ∧ j ≤ 60 ∧ Vw w wr p J a h j) (fun i _ => l.length - (intOf i).toNat)
    case atStart => exact ⟨0, _, _, _, rfl, Nat.zero_le _, by decide, HV0.out⟩
    case round =>
      obtain ⟨j, J, a, h, rfl, hj, hj60, hV⟩ := hrel
      clear HV0
      by_cases hjl : j < l.length
      · have hjl' : (j : Int) < (l.length : Int) := by omega
        by_cases hjc : j < 60
        · have hjc' : (j : Int) < 60 := by omega
          obtain ⟨b, off, hcs0⟩ := HC.out
          obtain ⟨rfl, hcs⟩ := hcs0 (by intro e; rw [e] at hjl; simp at hjl)
          have c1 := hcs wr hV.mod j hjl
          clear hcs hcs0
          generalize l.getD j 0 = x at c1
          have hj0 : (0 : Int) ≤ (j : Int) := by omega
          obtain ⟨y, hy⟩ : ∃ y, bits .and .i64 x 65535 = y := ⟨_, rfl⟩
          have hyr : 0 ≤ y ∧ y ≤ 65535 := hy ▸ and_rng x
          obtain ⟨z, hz⟩ : ∃ z, y.tmod 30 = z := ⟨_, rfl⟩
          have hzr : 0 ≤ z ∧ z < 30 := by rw [← hz, Int.tmod_eq_emod_of_nonneg hyr.1]; omega
          obtain ⟨k, hkz⟩ : ∃ k : Int, 1 + z = k := ⟨_, rfl⟩
          obtain ⟨b1, hb1⟩ : ∃ b1, (bits .and .i64 (y / 64) 1 == 0) = b1 := ⟨_, rfl⟩
          have hz0 := hzr.1
          have hz1 := hzr.2
          have HKI : Hid (1 ≤ k ∧ k ≤ 30) := ⟨by omega, by omega⟩
          have hy0 := hyr.1
          have hy1 := hyr.2
          clear hzr hyr
          go_wp2_with (fail)
          refine (one_any k b1 wr).mono ?_
          rintro e w4 ⟨rfl, hm4⟩
          have hV4 := hV.keep hm4
          clear hV hm4 c1
          go_wp2_with (fail)
          refine (hV4.put (oz 1 k b1) rfl (okOz _ _ (by have := HKI.out; omega)) (by have := HKI.out; show k ≤ 50; omega) (by omega)).mono ?_
          rintro e w5 ⟨b5, a5, h5, J5, rfl, hV5⟩
          have HV5 : Hid (Vw w w5 p J5 a5 h5 (j + 1)) := hV5
          clear hV4 hV5
          go_wp2_with (fail)
          go_roundw
          case rel => exact ⟨j + 1, _, _, _, by go_num, hjl, by omega, HV5.out⟩
          case measure => simp [intOf]; omega
        · have hjc' : ¬ (j : Int) < 60 := by omega
          have HM : Hid (Vx w wr p) := ⟨⟨_, _, _, _, hV⟩⟩
          clear hV
          go_wp2_with (fail)
          go_meet
          exact HM.out
      · have hjl' : ¬ (j : Int) < (l.length : Int) := by omega
        have HM : Hid (Vx w wr p) := ⟨⟨_, _, _, _, hV⟩⟩
        clear hV
        go_wp2_with (fail)
        go_meet
        exact HM.out
  case rest =>
  obtain ⟨⟨J, a, h, n, hV⟩⟩ := hcut
  generalize wc = w3 at *
  clear HV0 HC HL
  go_wp2_with (fail)
  refine hV.ask.mono ?_
  rintro e w4 ⟨q, rfl, HN4⟩
  go_wp2_with (fail)
  refine (HN4 _).mono ?_
  rintro e w5 ⟨v5, d5, t5, rfl, hR5, hp5, hx5, hl5, hV5, hm5⟩
  obtain ⟨av5, cv5, rfl⟩ := hR5.row.shape
  have HR5 : Hid (Rd18 w5 w3.heap.size _ d5) := hR5
  have HP5 : Hid (d5.map (·.1) = dl J 0 t5 ∧ Nx J (min lo hi) 0 t5 ∧ t5 ≤ 50) := ⟨hp5, hx5, hl5⟩
  clear HN4 hR5 hp5 hx5 hl5 hm5 hV
  go_wp2_with (fail)
  refine hV5.ask.mono ?_
  rintro e w6 ⟨q2, rfl, HN6⟩
  go_wp2_with (fail)
  refine (HN6 _).mono ?_
  rintro e w7 ⟨v7, d7, t7, rfl, hR7, hp7, hx7, hl7, hV7, hm7⟩
  obtain ⟨av7, cv7, rfl⟩ := hR7.row.shape
  have hpre := dl_pre J 0 t5 t7 (HP5.out.2.1.le hx7 (by omega))
  have hl57 : d5.length ≤ d7.length := by
    have h1 := congrArg List.length HP5.out.1
    have h2 := congrArg List.length hp7
    have h3 := hpre.length_le
    simp at h1 h2
    omega
  have HEQ : Hid ((d7.take d5.length).map (·.1.n) = d5.map (·.1.n)) := by
    show _ = _
    rw [Np.nums HP5.out.1, List.map_take, Np.nums hp7]
    have h1 := congrArg List.length HP5.out.1
    simp at h1
    obtain ⟨r, hr⟩ := hpre
    rw [← hr, h1, List.map_append, List.take_append_of_le_length (by simp), List.take_of_length_le (by simp)]
  have HL5 : Hid (d5.length ≤ 1000000 ∧ (d7.take d5.length).length = d5.length) := by
    have h1 := congrArg List.length HP5.out.1
    have h2 := dl_len J 0 t5
    have := HP5.out.2.2
    simp at h1
    exact ⟨by omega, by simp; omega⟩
  obtain ⟨hcap, hform⟩ := hR7.row.cap
  have HT7 : Hid (RG w7 42 18 (.slice av7 d5.length cv7) d5.length (fd (d7.take d5.length))) := by
    have := hR7.row.take d5.length hl57
    rw [← fd_take d7 _ hl57] at this
    exact this
  have HR5b : Hid (Rd18 w7 w3.heap.size _ d5) := HR5.out.keep hm7
  have HM : Hid (Mod (fun _ => False) w w7) := hV7.mod
  have hgt : ¬ (d7.length : Int) < (d5.length : Int) := by omega
  have hcl : (d5.length : Int) ≤ (cv7 : Int) := by omega
  have hc0 : (0 : Int) ≤ (d5.length : Int) := by omega
  clear HN6 hR7 hp7 hx7 hl7 hm7 hV7 hV5 hpre HR5 HP5 hl57
  go_upto_region 13 with (fail)
  have hdr := (Mod.refl (fun _ => False) w7).drew
  have HR5d : Hid (Rd18 w7.drew w3.heap.size _ d5) := HR5b.out.keep hdr
  have HT7d : Hid (RG w7.drew 42 18 (.slice av7 d5.length cv7) d5.length (fd (d7.take d5.length))) := HT7.out.mod hdr (fun _ _ h => h)
  have HN5 := numbersOf_st _ d5 w7.drew HR5d.out.row HL5.out.1
  have HB : Hid (d5.length ≤ 1000000) := HL5.out.1
  clear hlc hcm
  rcases hform with ⟨rfl, rfl⟩ | ⟨gg, og, rfl⟩
  · obtain rfl : d5 = [] := List.eq_nil_of_length_eq_zero (by omega)
    simp only [List.length_nil] at HT7d HN5 HL5 HEQ HB hcl hc0 hgt ⊢
    go_region_held3 (fun _ => True) (trivial) ((first
      | (go_at_call 24; first | (refine (numbersOf_st _ (d7.take 0) w8 (by rw [HL5.out.2]; exact (HT7d.out.mod hm8 (fun _ _ h => h))) (by rw [HL5.out.2]; exact HB.out)).mono ?_; rintro e w9 ⟨r9, rfl, ho9, hm9⟩) | (refine HN5.mono ?_; rintro e w8 ⟨r8, rfl, ho8, hm8⟩))
      | (go_at_call 23; refine (EqI_st (ho8.out.mod hm9 (fun _ _ h => h)).sl ho9.out.sl HEQ.out.symm).mono ?_; rintro e w10 ⟨r10, rfl, rfl, hm10⟩)))
    go_wp2
    go_ret
    exact ⟨rfl, (((HM.out.drew).and hm8).and hm9).and hm10⟩
  · skip
    go_region_held3 (fun _ => True) (trivial) ((first
      | (go_at_call 24; first | (refine (numbersOf_st _ (d7.take d5.length) w8 (by rw [HL5.out.2]; exact (HT7d.out.mod hm8 (fun _ _ h => h))) (by rw [HL5.out.2]; exact HB.out)).mono ?_; rintro e w9 ⟨r9, rfl, ho9, hm9⟩) | (refine HN5.mono ?_; rintro e w8 ⟨r8, rfl, ho8, hm8⟩))
      | (go_at_call 23; refine (EqI_st (ho8.out.mod hm9 (fun _ _ h => h)).sl ho9.out.sl HEQ.out.symm).mono ?_; rintro e w10 ⟨r10, rfl, rfl, hm10⟩)))
    go_wp2
    go_ret
    exact ⟨rfl, (((HM.out.drew).and hm8).and hm9).and hm10⟩
namespace orderMore
open Go.ChangeShapes Go.WideShapes Go.ChangeAt Go.RowKit
set_option maxRecDepth 100000 in
theorem lifted (os : Os) (started : os.Started) (H : Type) (enc : TypeId × Value → H) :
    ReturnsInHanded {} Try.checked os 5 .any (Rows.orderMoreSpec.pre6 enc Try.prog Try.f5 Rows.orderMoreRow.domain false) (Rows.orderMoreSpec.post enc Try.prog Try.f5 false true false false) := by
  refine returnsInHanded_of_change_sized (C := Try.checked) own started (by kernel_rfl) Try.func5
    (ChangeSpec.witness6 (enc := enc) (C := Try.checked) false ⟨#[], #[.slice none 0 0, .int .i64 0, .int .i64 0], []⟩ 8 (by kernel_rfl) (by kernel_rfl) (by kernel_rfl) (by kernel_rfl)) ?_
  intro W base args ds gs before hval0 hW hcnd hsz0 _
  have hval : ∀ (j : Nat) t v, Try.f5.params[j]? = some t → args[j]? = some v → Value.okWide Try.prog W .any base t v := hval0
  have hsz : (DataW.weightsEach Try.prog (Try.f5.params.toList ++ Rows.orderMoreSpec.plain.varTypes Try.prog) (ds ++ gs)).all (· ≤ reachBytes) = true := hsz0
  have hW' := hW
  obtain ⟨p, q, hA0, hV, rfl, hfz, hnd⟩ := hW
  have hA : DataW.TrodAll enc Try.prog W 0 (fun _ => true) true Try.f5.params.toList args.toList ds p := hA0
  rw [Try.params5] at hA hval hsz
  obtain ⟨v0, vs0, d0, ds0, p0, q0, hargs, rfl, rfl, h0, r0⟩ := trodAll_cons hA
  obtain ⟨v1, vs1, d1, ds1, p1, q1, rfl, rfl, rfl, h1, r1⟩ := trodAll_cons r0
  obtain ⟨v2, vs2, d2, ds2, p2, q2, rfl, rfl, rfl, h2, r2⟩ := trodAll_cons r1
  obtain ⟨rfl, rfl, rfl⟩ := trodAll_nil r2
  obtain rfl : args = #[v0, v1, v2] := by cases args; simp_all
  obtain ⟨rfl, rfl⟩ := trodVars_none hV
  have k0 := h0
  have lt0 : ∀ x ∈ p0, x.block < W.heap.size := by obtain ⟨m, hm⟩ := k0; exact DataW.trod_lt m _ _ _ hm
  obtain ⟨B0, hB0⟩ := open_l h0 (okWide_slice Try.underlying55 (hval 0 55 v0 rfl rfl))
  obtain ⟨a1, rfl, rfl, rfl, w1⟩ := open_int Try.underlying3 (hval 1 3 v1 rfl rfl) h1
  obtain ⟨a2, rfl, rfl, rfl, w2⟩ := open_int Try.underlying3 (hval 2 3 v2 rfl rfl) h2
  clear hA0 hval0
  refine (more_walk v0 B0 a1 a2 W hB0).mono fun e W' ⟨he, hm⟩ => ?_
  subst he
  have bel : Below W.heap.size W W' := hm.below _ (Nat.le_refl _) (fun _ h => h.elim)
  exact ⟨_, rfl, _, _, _, [], _, [], hW', trodAll_mk1 (shut_bool Try.underlying4 _), (trodAll_cons_mk (Below.trod laidOut (by kernel_rfl) (of_decide_eq_true (by kernel_rfl)) k0 bel lt0) (trodAll_cons_mk (shut_int Try.underlying3 w1) (trodAll_cons_mk (shut_int Try.underlying3 w2) trodAll_mk0))), rfl, bel.frame _, fun h => by cases h⟩

theorem over : Rows.orderMoreRow.holds Try.pinned (OpenSpec.ofChange Rows.orderMoreSpec) :=
  OpenClaim.holds_of_wide 5 Try.f5 rfl rfl rfl rfl rfl rfl rfl ⟨rfl, rfl, rfl, rfl, rfl⟩ rfl rfl rfl rfl rfl (by kernel_rfl) Try.func5 (by kernel_rfl)
    (of_decide_eq_true (by kernel_rfl)) (by unfold Func.isWrapper; first | (rw [if_pos (by decide +kernel)]; kernel_rfl) | (rw [if_neg (by decide +kernel)]; exact ⟨rfl, rfl⟩))
    (fun os started H enc _ => lifted os started H enc)
end orderMore
theorem orderMore_holds : Rows.OrderMoreSaid := orderMore.over
end Go.Proofs.Ytbmhgglnoofnjaa
