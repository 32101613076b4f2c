/- SieveFresh holds: for any ints the law answers true and turns nothing that was there. Conditions: none. -/
import Derived.Test.YtcohfhnollnefaaVe
namespace Go.Proofs.Ytcohfhnollnefaa
open Go.RowKit
/-- The document's Fresh, of any int. -/
theorem dFresh_any {p : Nat} {t n : Int} {v : Value} {l : List Int} {w : World} (h : Dv w p t v l) (t0 : 0 ≤ t) (t1 : t ≤ 9223372036854775807) (hm : n ≤ 9223372036854775807) (hl : l.length ≤ 300) (hH : ∀ m, t < m → l.contains m = false) :
    Calls Try.prog 11 #[.pointer (some ⟨p, 0, none⟩), .int .i64 n] w fun e w' => e = .returned (.tuple #[.bool (fF t (fun m => l.contains m) n), .int .i64 (fE n)]) ∧ ∃ v' l', Dv w' p (fT t n) v' l' ∧ (fun m => l'.contains m) = fS t (fun m => l.contains m) n ∧ l'.length ≤ l.length + 1 ∧ Mod (fun i => i = p ∨ v.ownBlock = some i) w w' ∧ Fr w v v' := by
  unfold fS fF fE fT
  by_cases h1 : n < 1
  · rw [if_pos h1, if_pos h1, if_pos h1, see_not]
    refine (dFresh_low h1).mono ?_
    rintro e w' ⟨rfl, rfl⟩
    exact ⟨rfl, v, l, h, rfl, by omega, Mod.refl _ _, Fr.refl _ _⟩
  · rw [if_neg h1, if_neg h1, if_neg h1]
    by_cases hd : t - n < 64
    · cases hc : l.contains n with
      | true =>
        have e : fr t (fun m => l.contains m) n = false := by simp only [fr, hc, Bool.not_true, Bool.and_false]
        have e2 : max t n = t := by
          rcases Classical.em (t < n) with h3 | h3
          · rw [hH n h3] at hc
            cases hc
          · omega
        rw [e, e2, see_not]
        refine (dFresh_in h t0 t1 h1 hm hd hl hc).mono ?_
        rintro e w' ⟨rfl, rfl⟩
        exact ⟨rfl, v, l, h, rfl, by omega, Mod.refl _ _, Fr.refl _ _⟩
      | false =>
        have e : fr t (fun m => l.contains m) n = true := by simp only [fr, hc, hd, decide_true, Bool.not_false, Bool.and_true]
        rw [e]
        refine (dFresh_new h t0 t1 h1 hm hd hl hc).mono ?_
        rintro e w' ⟨rfl, v', hD, hM, hF⟩
        refine ⟨rfl, v', _, hD, ?_, by simp, hM, hF⟩
        funext m
        simp [see]
    · rw [fr_far hd, see_not, show max t n = t by omega]
      refine (dFresh_far h t0 t1 h1 hm hd).mono ?_
      rintro e w' ⟨rfl, rfl⟩
      exact ⟨rfl, v, l, h, rfl, by omega, Mod.refl _ _, Fr.refl _ _⟩
/-- The program's sieve, the document's, and another one. -/
structure Th (w0 w : World) (a b c : Nat) (t : Int) (v : Value) (l : List Int) : Prop where
  pa : Sv w a t (fun m => l.contains m)
  pb : Dv w b t v l
  pc : ∃ t' F', Sv w c t' F'
  ab : a ≠ b
  ac : a ≠ c
  bc : b ≠ c
  ga : w0.heap.size ≤ a
  gb : w0.heap.size ≤ b
  gc : w0.heap.size ≤ c
  gv : ∀ g, v.ownBlock = some g → w0.heap.size ≤ g
  mod : Mod (fun _ => False) w0 w
theorem Th.va {w0 w : World} {a b c : Nat} {t : Int} {v : Value} {l : List Int} (h : Th w0 w a b c t v l) : v.ownBlock ≠ some a := by
  intro e
  obtain ⟨cur, hk⟩ := h.pb.own.kind e
  obtain ⟨s, hb, _⟩ := h.pa
  rw [hk] at hb
  simp at hb
theorem Th.vc {w0 w : World} {a b c : Nat} {t : Int} {v : Value} {l : List Int} (h : Th w0 w a b c t v l) : v.ownBlock ≠ some c := by
  intro e
  obtain ⟨cur, hk⟩ := h.pb.own.kind e
  obtain ⟨t', F', s, hb, _⟩ := h.pc
  rw [hk] at hb
  simp at hb
set_option maxRecDepth 100000 in
theorem fresh_walk (v : Value) (l : List Int) (w : World) (hv : Sr w v l) : Calls Try.prog 3 #[v] w fun e w' => e = .returned (.bool true) ∧ Mod (fun _ => False) w w' := by
  have HV : Hid (Sl w v l) := hv.sl
  have hr := hv.rng
  obtain ⟨ao, cap, rfl⟩ := hv.sl.shape
  clear hv
  go_enter Try.func3, Try.ntmps3
  go_wp2_with (fail)
  refine (sNew_any w).mono ?_
  rintro e w1 ⟨a, rfl, hs1, hm1, ha⟩
  go_wp2_with (fail)
  refine (dNew_any w1).mono ?_
  rintro e w2 ⟨b, rfl, hs2, hm2, hb⟩
  go_wp2_with (fail)
  refine (sNew_any w2).mono ?_
  rintro e w3 ⟨c, rfl, hs3, hm3, hc⟩
  have I : Hid (∃ t v l', Th w w3 a b c t v l' ∧ l'.length ≤ 0) := by
    have q1 := hs1.lt
    have q2 := lt_of_block hs2.blk
    have z1 := hm1.size
    have z2 := hm2.size
    refine ⟨0, _, [], { pa := ?_, pb := hs2.mod hm3 (fun h => h) (fun _ _ h => h), pc := ⟨_, _, hs3⟩, ab := by omega, ac := by omega, bc := by omega, ga := ha, gb := by omega, gc := by omega, gv := by intro g hg; simp [Value.ownBlock] at hg, mod := (hm1.and hm2).and hm3 }, by simp⟩
    have e : (fun m : Int => ([] : List Int).contains m) = fun _ => false := by funext m; simp
    rw [e]
    exact (hs1.mod hm2 (fun h => h)).mod hm3 (fun h => h)
  clear hs1 hs2 hs3 hm1 hm2 hm3 ha hb hc
  go_wp2_with (fail)
  go_loopw [6] (fun i wr => ∃ (k : Nat), i = .int .i64 k ∧ k ≤ 300 ∧ Hid (∃ t v l', Th w wr a b c t v l' ∧ l'.length ≤ k)) (fun i _ => 300 - (intOf i).toNat)
  case atStart => exact ⟨0, rfl, by omega, I⟩
  case round =>
    clear I
    obtain ⟨k, rfl, hk, I⟩ := hrel
    obtain ⟨t, u, l', T, hl'⟩ := I.out
    clear I
    by_cases hlt : k < l.length ∧ k < 300
    · obtain ⟨hlt, hlt2⟩ := hlt
      have hkl : (k : Int) < (l.length : Int) := by omega
      have hk3 : (k : Int) < 300 := by omega
      obtain ⟨b', off, cap', e, ck⟩ := HV.out.at T.mod (fun _ _ h => h) hlt
      simp only [Value.slice.injEq, true_and] at e
      obtain ⟨rfl, rfl⟩ := e
      have hi := i64_at hr hlt
      have hbl : b' < w.heap.size := by
        obtain ⟨ao1, cap1, e1, _, _, _, h4⟩ := HV.out
        obtain ⟨b1, off1, e2, hc⟩ := h4 (by rintro rfl; simp at hlt)
        simp only [Value.slice.injEq, true_and] at e1
        rw [← e1.1, Option.some.injEq, Addr.mk.injEq] at e2
        rw [e2.1]
        exact World.block_lt_of_cell? w _ (hc k hlt)
      generalize l.getD k 0 = n at *
      have hF := sFresh_any (n := n) T.pa hi.2
      have hkn : ∃ s, Kn t s (fun m => l'.contains m) := by
        obtain ⟨s, _, h⟩ := T.pa
        exact ⟨s, h⟩
      obtain ⟨s, KN⟩ := hkn
      have hmn : n ≤ 9223372036854775807 := hi.2
      clear hi
      go_wp2_with (fail)
      refine hF.mono ?_
      rintro e w4 ⟨rfl, hs4, hm4⟩
      clear hF
      have hD : Dv w4 b t u l' := T.pb.mod hm4 (fun e => T.ab e.symm) (fun g hg e => T.va (by rw [← e]; exact hg))
      have hF := dFresh_any (n := n) hD KN.t0 KN.t1 hmn (by omega) (fun m hm => KN.hi hm)
      clear KN
      have ck4 := hm4.cell ck (fun h => by have := T.ga; simp only at h; omega)
      go_wp2_with (fail)
      refine hF.mono ?_
      rintro e w5 ⟨rfl, v5, l5, hD5, hE5, hl5, hm5, hf5⟩
      clear hF hD ck4
      obtain ⟨t', F', hC⟩ := T.pc
      have hC5 : Sv w5 c t' F' := (hC.mod hm4 (fun e => T.ac e.symm)).mod hm5 (fun e => by rcases e with e | e; exact T.bc e.symm; exact T.vc e)
      have hF := sFresh_any (n := (k : Int)) hC5 (by omega)
      go_wp2_with (fail)
      refine hF.mono ?_
      rintro e w6 ⟨rfl, hs6, hm6⟩
      clear hF hC5 hC
      have va5 : v5.ownBlock ≠ some a := by
        intro e
        obtain ⟨cur, hk⟩ := hD5.own.kind e
        obtain ⟨s, hb, _⟩ := hs4.mod hm5 (fun e => by rcases e with e | e; exact T.ab e; exact T.va e)
        rw [hk] at hb
        simp at hb
      have vc5 : ∀ g, v5.ownBlock = some g → ¬ g = c := by
        intro g e ec
        subst ec
        rcases hf5 g e with h | h
        · exact T.vc h
        · obtain ⟨t', F', hC⟩ := T.pc
          have := (hC.mod hm4 (fun e => T.ac e.symm)).lt
          omega
      have T6 : Th w w6 a b c (fT t n) v5 l5 := {
        pa := by
          rw [hE5]
          exact (hs4.mod hm5 (fun e => by rcases e with e | e; exact T.ab e; exact T.va e)).mod hm6 T.ac
        pb := hD5.mod hm6 T.bc vc5
        pc := ⟨_, _, hs6⟩
        ab := T.ab
        ac := T.ac
        bc := T.bc
        ga := T.ga
        gb := T.gb
        gc := T.gc
        gv := fun g hg => by
          rcases hf5 g hg with h | h
          · exact T.gv g h
          · have := T.mod.size
            have := hm4.size
            omega
        mod := by
          have g1 := T.ga
          have g2 := T.gb
          have g3 := T.gc
          have m1 : Mod (fun _ => False) w w4 := T.mod.trans hm4 (fun _ _ h => h) (fun i hi h => by have h' : i = a := h; omega)
          have m2 : Mod (fun _ => False) w w5 := m1.trans hm5 (fun _ _ h => h) (fun i hi h => by
            rcases h with h | h
            · omega
            · have := T.gv i h
              omega)
          exact m2.trans hm6 (fun _ _ h => h) (fun i hi h => by have h' : i = c := h; omega) }
      have I : Hid (∃ t v l', Th w w6 a b c t v l' ∧ l'.length ≤ k + 1) := ⟨_, _, _, T6, by omega⟩
      clear T6 T hs4 hD5 hE5 hs6 va5 vc5 hm4 hm5 hm6 hf5
      generalize fF t (fun m => l'.contains m) n = x at *
      generalize fE n = E at *
      go_wp2
      go_roundw
      case rel => exact ⟨k + 1, by go_num, by omega, I⟩
      case measure => simp [intOf]; omega
    · have hx : ¬ (k : Int) < (l.length : Int) ∨ ((k : Int) < (l.length : Int) ∧ ¬ (k : Int) < 300) := by omega
      have hW := works wr
      have hm := T.mod
      clear T
      rcases hx with hx | ⟨hx, hx2⟩
      all_goals
        go_wp2_with (fail)
        refine hW.mono ?_
        rintro e w7 ⟨rfl, hm7⟩
        go_wp2
        go_ret
        exact ⟨rfl, hm.and hm7⟩
namespace sieveFresh
open Go.ChangeShapes Go.WideShapes Go.ChangeAt Go.RowKit
set_option maxRecDepth 100000 in
theorem lifted (os : Os) (started : os.Started) (H : Type) (enc : TypeId × Value → H) :
    ReturnsInHanded {} Try.checked os 3 .any (Rows.sieveFreshSpec.pre6 enc Try.prog Try.f3 Rows.sieveFreshRow.domain false) (Rows.sieveFreshSpec.post enc Try.prog Try.f3 false true false false) := by
  refine returnsInHanded_of_change_sized (C := Try.checked) own started (by kernel_rfl) Try.func3
    (ChangeSpec.witness6 (enc := enc) (C := Try.checked) false ⟨#[], #[.slice none 0 0], []⟩ 8 (by kernel_rfl) (by kernel_rfl) (by kernel_rfl) (by kernel_rfl)) ?_
  intro W base args ds gs before hval0 hW hcnd hsz0 _
  have hval : ∀ (j : Nat) t v, Try.f3.params[j]? = some t → args[j]? = some v → Value.okWide Try.prog W .any base t v := hval0
  have hW' := hW
  obtain ⟨p, q, hA0, hV, rfl, hfz, hnd⟩ := hW
  have hA : DataW.TrodAll enc Try.prog W 0 (fun _ => true) true Try.f3.params.toList args.toList ds p := hA0
  rw [Try.params3] at hA hval
  obtain ⟨v0, vs0, d0, ds0, p0, q0, hargs, rfl, rfl, h0, r0⟩ := trodAll_cons hA
  obtain ⟨rfl, rfl, rfl⟩ := trodAll_nil r0
  obtain rfl : args = #[v0] := by cases args; simp_all
  obtain ⟨rfl, rfl⟩ := trodVars_none hV
  have k0 := h0
  have lt0 : ∀ x ∈ p0, x.block < W.heap.size := by obtain ⟨m, hm⟩ := k0; exact DataW.trod_lt m _ _ _ hm
  obtain ⟨B0, hB0⟩ := open_l h0 (okWide_slice Try.underlying22 (hval 0 22 v0 rfl rfl))
  clear hA0 hval0
  refine (fresh_walk v0 B0 W hB0).mono fun e W' ⟨he, hm⟩ => ?_
  subst he
  have bel : Below W.heap.size W W' := hm.below _ (Nat.le_refl _) (fun _ h => h.elim)
  exact ⟨_, rfl, _, _, _, [], _, [], hW', trodAll_mk1 (shut_bool Try.underlying4 _), (trodAll_cons_mk (Below.trod laidOut (by kernel_rfl) (of_decide_eq_true (by kernel_rfl)) k0 bel lt0) trodAll_mk0), rfl, bel.frame _, fun h => by cases h⟩

theorem over : Rows.sieveFreshRow.holds Try.pinned (OpenSpec.ofChange Rows.sieveFreshSpec) :=
  OpenClaim.holds_of_wide 3 Try.f3 rfl rfl rfl rfl rfl rfl rfl ⟨rfl, rfl, rfl, rfl, rfl⟩ rfl rfl rfl rfl rfl (by kernel_rfl) Try.func3 (by kernel_rfl)
    (of_decide_eq_true (by kernel_rfl)) (by unfold Func.isWrapper; first | (rw [if_pos (by decide +kernel)]; kernel_rfl) | (rw [if_neg (by decide +kernel)]; exact ⟨rfl, rfl⟩))
    (fun os started H enc _ => lifted os started H enc)
end sieveFresh
theorem sieveFresh_holds : Rows.SieveFreshSaid := sieveFresh.over
end Go.Proofs.Ytcohfhnollnefaa
