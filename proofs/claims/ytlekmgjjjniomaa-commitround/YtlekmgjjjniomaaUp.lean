/- CommitRound: begun by the least member, and handed on from member to member, a commit has all entries at each Second visit, and comes back Last behind 2n hops. No conditions. -/
import Derived.Test.YtlekmgjjjniomaaUo
import Derived.Deep.DeepCutAuto
import Derived.Deep.Light
import Derived.Deep.RegionLaw
namespace Go.Proofs.Ytlekmgjjjniomaa
open Go.RowKit
theorem step_c2 {ops : Array Oper} {o : Oper} {a : Act} {w : World} {K : Act → World → Prop} {Q : Exit → Act → World → Prop} {E : Prop} {f : FuncId} {ts : Array TypeId} (hcf : ∀ args w, (callFunc f args).run Try.prog w = .ok (.enter f args) w) (hw : Region.wanted o (yielded ops a.tmps) = true) (x y : Operand)
    (ho : o.op = .call { callee := .value (.func f), args := #[x, y], argTypes := ts }) (hf : a.eval (.func f) = .func (.func f) #[] #[]) (v u : Value) (hx : a.eval x = v) (hy : a.eval y = u) (R : Value → World → Prop)
    (HB : Calls Try.prog f #[v, u] w fun e w' => ∃ r, e = .returned r ∧ R r w') (h : ∀ r w', R r w' → K (a.put o.dst r) w') :
    if Region.wanted o (yielded ops a.tmps) = true then Oper.wp Try.prog o a w K Q else E := by
  rw [if_pos hw]
  refine wp_enter (by rw [exec_call2 a.eval hcf hf ho, hx, hy]) HB ?_
  rintro e w' ⟨r, rfl, hr⟩
  exact ⟨_, rfl, h r w' hr⟩
theorem Cr.Own.neC {w : World} {v : Value} {l : List Int} (h : Cr.Own w v l) {b : Nat} {xs : Array Value} (hb : Bk w b 26 xs) : ∀ g, v.ownBlock = some g → g ≠ b := by
  rcases h.2 with ⟨rfl, _⟩ | ⟨g', cap, cur, rfl, _, hg', _⟩
  · intro g hg
    cases hg
  · rintro g hg rfl
    simp only [Value.ownBlock, Option.some.injEq] at hg
    subst hg
    have h1 := hb.at'
    rw [hg'] at h1
    simp at h1
theorem RE.some {w : World} {ao : Option Addr} {n cap : Nat} {l : List Ey} (h : RE w (.slice ao n cap) l) (hn : 0 < l.length) : ∃ g, ao = .some ⟨g, 0, none⟩ := by
  obtain ⟨a, c, e, h1, _, h2⟩ := h.form
  simp only [Value.slice.injEq] at e
  obtain ⟨rfl, _, rfl⟩ := e
  rcases h2 with ⟨_, rfl⟩ | ⟨g, cur, rfl, _⟩
  · omega
  · exact ⟨g, rfl⟩
theorem Cb.at {wa w : World} {b : Nat} {l : List Ey} {N : List Int} {M n h : Nat} (hC : Cb wa w b (cR l N M n h)) : ∃ ao cap, Bk w b 26 #[.int .i64 1001, .int .i64 (N.getD 0 0), .int .i64 (M : Int), .int .i64 (h : Int), .slice ao (min h n) cap] ∧ Cv w (.agg #[.int .i64 1001, .int .i64 (N.getD 0 0), .int .i64 (M : Int), .int .i64 (h : Int), .slice ao (min h n) cap]) (cR l N M n h) ∧ RE w (.slice ao (min h n) cap) (alE l N (min h n)) ∧ Nw wa (.slice ao (min h n) cap) := by
  obtain ⟨ao, cap, h1, h2⟩ := hC.form
  obtain ⟨a, c, e, h3, h4⟩ := h2.form
  simp only [Value.agg.injEq] at e
  have e2 : (cR l N M n h).es.length = min h n := alE_len _ _ _
  rw [e2] at h1 h2 h3 h4 e
  have e3 : Value.slice ao (min h n) cap = Value.slice a (min h n) c := by simpa using e
  refine ⟨ao, cap, h1, h2.cv, ?_⟩
  rw [e3]
  exact ⟨h3, h4⟩
theorem Check_any (w : World) (v : Value) (c : Cm) (h : Cv w v c) (hmm : I64 c.mem) : Calls Try.prog 16 #[v] w fun e w' => e = .returned (.int .i64 (ckC c)) ∧ Mod (fun _ => False) w w' := by
  obtain ⟨rs, rr, mm, hp, ce⟩ := c
  obtain ⟨cao, ccap, rfl, hs⟩ := h.form
  exact cCheck rs rr mm hp cao ccap ce w hs hmm
theorem eyb_self (a0 a1 a2 a3 a4 a5 : Int) : eyb a0 a1 a2 a3 a4 a5 a0 a1 a2 a3 a4 a5 = true := by simp [eyb]
/-- The commit in its block, as it is at a hop. -/
structure Rs (w4 w : World) (b : Nat) (M n0 : Int) (h m : Nat) (ao : Option Addr) (cap : Nat) (c : Cm) (A : List Ey) : Prop where
  bk : Bk w b 26 #[.int .i64 1001, .int .i64 n0, .int .i64 M, .int .i64 (h : Int), .slice ao m cap]
  cv : Cv w (.agg #[.int .i64 1001, .int .i64 n0, .int .i64 M, .int .i64 (h : Int), .slice ao m cap]) c
  re : RE w (.slice ao m cap) A
  md : Mod (fun i => i = b) w4 w
theorem Rs.keep {w4 w w' : World} {b : Nat} {M n0 : Int} {h m : Nat} {ao : Option Addr} {cap : Nat} {c : Cm} {A : List Ey} (h1 : Rs w4 w b M n0 h m ao cap c A) (hm : Mod (fun _ => False) w w') : Rs w4 w' b M n0 h m ao cap c A :=
  ⟨h1.bk.mod hm (fun h => h), h1.cv.keep hm, h1.re.keep hm, h1.md.trans hm (fun _ _ h => h) (fun _ _ h => h.elim)⟩
theorem Rs.cb {w2 w4 w : World} {b : Nat} {n0 : Int} {h m M n : Nat} {ao : Option Addr} {cap : Nat} {l : List Ey} {N : List Int} (h1 : Rs w4 w b (M : Int) n0 h m ao cap (cR l N M n h) (alE l N m)) (hm : m = min h n) (hn : n0 = N.getD 0 0) (hw : Nw w2 (.slice ao m cap)) : Cb w2 w b (cR l N M n h) := by
  subst hm hn
  have e : (cR l N M n h).es.length = min h n := alE_len _ _ _
  refine ⟨ao, cap, ?_, ao, cap, rfl, ?_, ?_⟩
  · rw [e]; exact h1.bk
  · rw [e]; exact h1.re
  · rw [e]; exact hw
theorem Mod.toC {w0 w w' : World} {b : Nat} (h : Mod (fun _ => False) w0 w) (k : Mod (fun i => i = b) w w') (hb : w0.heap.size ≤ b) : Mod (fun _ => False) w0 w' := h.trans k (fun _ _ h => h) (fun i hi e => by omega)
/-- Behind an append. -/
structure L16 (wa : World) (n : Nat) (B : List Ey) (s : Value) (w : World) : Prop where
  out : ∃ ax cx, s = .slice ax n cx ∧ RE w (.slice ax n cx) B ∧ Mod (fun _ => False) wa w ∧ Nw wa (.slice ax n cx)
set_option maxRecDepth 100000 in
set_option maxHeartbeats 20000000 in
theorem round_walk (members : Int) (v : Value) (l : List Ey) (w : World) (hs : SlE w v l) (hl : ∀ e ∈ l, EI e) : Calls Try.prog 5 #[.int .i64 members, v] w fun e w' => e = .returned (.bool true) ∧ Mod (fun _ => False) w w' := by
  obtain ⟨lao, lcap, rfl, hlen⟩ := hs.shape
  have HSL : Hid (SlE w (.slice lao l.length lcap) l ∧ ∀ e ∈ l, EI e) := ⟨hs, hl⟩
  have hbit : bits .and .i64 members 510 = ((Cr.lo members &&& 510 : Nat) : Int) := Cr.and_lo members 510 (by omega)
  obtain ⟨M, hM⟩ : ∃ M : Nat, M = if Cr.lo members &&& 510 = 0 then 2 else Cr.lo members &&& 510 := ⟨_, rfl⟩
  have hmb : Mb M (Cr.ls M) (Cr.cn M) := by
    by_cases h : Cr.lo members &&& 510 = 0
    · rw [if_pos h] at hM
      subst hM
      exact mb_of 2 (by omega) (by decide) (by omega)
    · rw [if_neg h] at hM
      have h5 : Cr.lo members &&& 510 ≤ 510 := Nat.and_le_right
      refine mb_of M (by omega) ?_ (by omega)
      rw [hM]
      exact Cr.hs_510 ⟨_, Cr.lo_lt members⟩
  have HL := fun W => Cr.List12 (M : Int) W
  rw [Cr.lo_nat hmb.lt] at HL
  obtain ⟨N, hN⟩ : ∃ N, N = Cr.ls M := ⟨_, rfl⟩
  obtain ⟨n, hn⟩ : ∃ n, n = Cr.cn M := ⟨_, rfl⟩
  rw [← hN] at HL hmb
  rw [← hn] at hmb
  have HM : Hid (Mb M N n) := hmb
  have HMX : Hid (M = if Cr.lo members &&& 510 = 0 then 2 else Cr.lo members &&& 510) := hM
  have hn8 : n ≤ 8 := hmb.le
  have hnp : 0 < n := hmb.pos
  have hnlen : N.length = n := hmb.len
  have HNL : Hid (N.length = n) := hnlen
  generalize Cr.lo members &&& 510 = M1 at hbit HMX
  clear hs hl hM hmb hN hn hnlen
  go_enter Try.func5, Try.ntmps5
  go_wp2_with (fail)
  refine (awake_any _).mono ?_
  rintro e w1 ⟨rfl, hm1⟩
  go_upto_if 25 with (fail)
  go_cut [0] (fun s wx => s = .int .i64 (M : Int) ∧ wx = w1)
  case first =>
    by_cases h : M1 = 0
    · have e : M = 2 := by rw [HMX.out, if_pos h]
      have hb : ((M1 : Int) == 0) = true := by simp [h]
      clear h
      go_wp2
      go_meet
      rw [e]
      exact ⟨rfl, rfl⟩
    · have e : M = M1 := by rw [HMX.out, if_neg h]
      have hb : ((M1 : Int) == 0) = false := by simp [h]
      clear h
      go_wp2
      go_meet
      rw [e]
      exact ⟨rfl, rfl⟩
  case rest =>
  obtain ⟨rfl, rfl⟩ := hcut
  clear hbit HMX
  go_wp2_with (fail)
  refine (HL _).mono ?_
  rintro e w2 ⟨nv, rfl, hO, hm2, _⟩
  obtain ⟨nao, ncap, rfl, hnc, hnm⟩ := hO.rng
  obtain ⟨nb, rfl⟩ : ∃ nb, nao = some ⟨nb, 0, none⟩ := by
    rcases hO.2 with ⟨e, h0⟩ | ⟨g, cap, cur, e, _⟩
    · have := HNL.out; omega
    · simp only [Value.slice.injEq] at e
      exact ⟨g, e.1⟩
  have HO : Hid (Cr.Own w2 (.slice (some ⟨nb, 0, none⟩) n ncap) N) := by have := hO; rw [HNL.out] at this; exact this
  rw [HNL.out]
  have hMw := hm1.and hm2
  have HMW : Hid (Mod (fun _ => False) w w2) := hMw
  have HNC : Hid (∀ W, Mod (fun _ => False) w2 W → ∀ j, j < n → W.cell? ⟨nb, j, none⟩ = some (.int .i64 (N.getD j 0))) := fun W hW j hj => by
    have h := hO.sl
    obtain ⟨a, c, e, _, _, _, h4⟩ := h
    simp only [Value.slice.injEq] at e
    obtain ⟨b', o', e1, hc⟩ := h4 (by intro e0; have := HNL.out; rw [e0] at this; simp at this; omega)
    rw [← e.1] at e1
    simp only [Option.some.injEq, Addr.mk.injEq, and_true] at e1
    obtain ⟨rfl, rfl⟩ := e1
    have := hc j (by rw [HNL.out]; exact hj)
    rw [Nat.zero_add] at this
    exact hW.cell this (fun h => h)
  clear hO hm1 hm2 HL hMw hnc hnm
  go_wp2
  go_loopw [7, 8, 9] (fun av t i wr => ∃ (k : Nat) (T : Int), i = .int .i64 (k : Int) ∧ t = .int .i64 T ∧ k ≤ n ∧ Hid (T = topE (alE l N k) 0) ∧ Hid (RE wr av (alE l N k) ∧ Nw w2 av) ∧ Hid (Mod (fun _ => False) w2 wr)) (fun _ _ i _ => n - (intOf i).toNat)
  case atStart => exact ⟨0, 0, rfl, rfl, by omega, rfl, ⟨RE.nil _, fun g hg => by cases hg⟩, Mod.refl _ _⟩
  case round =>
    obtain ⟨k, T, rfl, rfl, hk, HT, HA, HW⟩ := hrel
    obtain ⟨wd, ewd⟩ : ∃ W, W = wr := ⟨_, rfl⟩
    subst ewd
    by_cases hkn : k < n
    · have hki : (k : Int) < (n : Int) := by omega
      obtain ⟨X, hX⟩ : ∃ X, X = if l.length = 0 then zE else l.getD (k % l.length) zE := ⟨_, rfl⟩
      have hEI : EI X := by
        rw [hX]
        split
        · exact ⟨⟨by decide, by decide⟩, ⟨by decide, by decide⟩, ⟨by decide, by decide⟩, ⟨by decide, by decide⟩, ⟨by decide, by decide⟩, ⟨by decide, by decide⟩⟩
        · rename_i h
          have hlt := Nat.mod_lt k (Nat.pos_of_ne_zero h)
          rw [List.getD_eq_getElem?_getD, List.getElem?_eq_getElem hlt]
          exact HSL.out.2 _ (List.getElem_mem _)
      have HXX : Hid (X = if l.length = 0 then zE else l.getD (k % l.length) zE) := hX
      have HENT : Hid (enE X (N.getD k 0) = ent l N k) := by rw [Hid, hX]; rfl
      have HEI : Hid (EI X) := hEI
      clear hX hEI
      obtain ⟨x0, x1, x2, x3, x4, x5⟩ := X
      go_upto_if 38 with (fail)
      go_cut [] (fun wx => wx = wd.alloc (.cells #[.int .i64 x0, .int .i64 x1, .int .i64 x2, .int .i64 x3, .int .i64 x4, .int .i64 x5] 28))
      case first =>
        by_cases h : l.length = 0
        · have e := HXX.out
          rw [if_pos h] at e
          simp only [zE, Ey.mk.injEq] at e
          obtain ⟨rfl, rfl, rfl, rfl, rfl, rfl⟩ := e
          have hb : decide (0 < (l.length : Int)) = false := by simp [h]
          go_wp2
          go_meet
          rfl
        · have e := HXX.out
          rw [if_neg h] at e
          have hlt := Nat.mod_lt k (Nat.pos_of_ne_zero h)
          have he : l[k % l.length]? = some ⟨x0, x1, x2, x3, x4, x5⟩ := by
            rw [List.getD_eq_getElem?_getD, List.getElem?_eq_getElem hlt] at e
            rw [List.getElem?_eq_getElem hlt, e]
            rfl
          obtain ⟨lb, loff, rfl, hc⟩ := HSL.out.1.at he
          obtain ⟨c0, c1, c2, c3, c4, c5⟩ := hc _ ((HMW.out.and HW.out).alloc (.cells #[.int .i64 0, .int .i64 0, .int .i64 0, .int .i64 0, .int .i64 0, .int .i64 0] 28))
          simp only at c0 c1 c2 c3 c4 c5
          have hb : (0 : Int) < (l.length : Int) := by omega
          have htm : (k : Int).tmod (l.length : Int) = ((k % l.length : Nat) : Int) := by
            rw [Int.tmod_eq_emod_of_nonneg (by omega)]
            rfl
          have hl0 : ¬ (l.length : Int) = 0 := by omega
          generalize k % l.length = r at *
          have hr : (r : Int) < (l.length : Int) := by omega
          have HBX : Hid (Bk _ _ _ _) := Bk.new wd #[.int .i64 0, .int .i64 0, .int .i64 0, .int .i64 0, .int .i64 0, .int .i64 0] 28
          clear h e he hc hlt
          go_wp2
          go_meet
          rfl
      case rest =>
      subst hcut
      have hBX := Bk.new wd #[.int .i64 x0, .int .i64 x1, .int .i64 x2, .int .i64 x3, .int .i64 x4, .int .i64 x5] 28
      have hmA := HW.out.alloc (.cells #[.int .i64 x0, .int .i64 x1, .int .i64 x2, .int .i64 x3, .int .i64 x4, .int .i64 x5] 28)
      have hnode := HNC.out _ hmA k hkn
      have hNA := HA.out.2
      have hRA := HA.out.1.keep ((Mod.refl (fun _ => False) wd).alloc (.cells #[.int .i64 x0, .int .i64 x1, .int .i64 x2, .int .i64 x3, .int .i64 x4, .int .i64 x5] 28))
      obtain ⟨nd, hnd⟩ : ∃ nd, nd = N.getD k 0 := ⟨_, rfl⟩
      rw [← hnd] at hnode HENT
      have HE := fun W => entry_any ⟨x0, x1, x2, x3, x4, x5⟩ nd W HEI.out
      rw [HENT.out] at HE
      have HND : Hid (nd = N.getD k 0) := hnd
      have hck := ent_ck l N k
      have htr := top_rng l N k
      rw [← HT.out] at htr
      have hak := alE_len l N k
      have HAS : Hid (alE l N (k + 1) = alE l N k ++ [ent l N k]) := alE_succ l N k
      generalize ent l N k = en at *
      generalize alE l N k = Ak at *
      obtain ⟨n0, n1, n2, n3, n4, n5⟩ := en
      simp only [eyc] at HE hck
      obtain ⟨z0, z1, z2, z3, z4, z5⟩ := (⟨hBX.cellv (j := 0) rfl, hBX.cellv (j := 1) rfl, hBX.cellv (j := 2) rfl, hBX.cellv (j := 3) rfl, hBX.cellv (j := 4) rfl, hBX.cellv (j := 5) rfl⟩ : _ ∧ _ ∧ _ ∧ _ ∧ _ ∧ _)
      obtain ⟨aao, acap, rfl⟩ := hRA.shape
      rw [hak] at hRA ⊢
      have hak8 : k ≤ 8 := by omega
      have HE' : ∀ W, Calls Try.prog 26 #[.agg #[.int .i64 x0, .int .i64 x1, .int .i64 x2, .int .i64 x3, .int .i64 x4, .int .i64 x5], .int .i64 nd] W fun e w' => ∃ r, e = .returned r ∧ (r = .agg #[.int .i64 n0, .int .i64 n1, .int .i64 n2, .int .i64 n3, .int .i64 n4, .int .i64 n5] ∧ Mod (fun _ => False) W w') := fun W => (HE W).mono fun _ _ h => ⟨_, h.1, rfl, h.2⟩
      clear hnd HENT HXX HEI HA htr hBX HE
      have hNA' : Nw w2 (.slice aao k acap) := by rw [← hak]; exact hNA
      clear hNA
      go_upto_region 16 with fail
      generalize wd.alloc (.cells #[.int .i64 x0, .int .i64 x1, .int .i64 x2, .int .i64 x3, .int .i64 x4, .int .i64 x5] 28) = W1 at *
      go_cut [7] (fun s wx => L16 w2 (k + 1) (Ak ++ [⟨n0, n1, n2, n3, n4, n5⟩]) s wx)
      case first =>
        go_region_law ((first | (refine step_c2 (fun args w => by simp [go_sem]) (by rfl) _ _ (by rfl) (by rfl) _ _ (by rfl) (by rfl) _ (HE' _) ?_; rintro r w6 ⟨rfl, hm6⟩; have hRA6 := (hRA.mod ((Mod.refl (fun _ => False) _).drew) (fun _ _ h => h)).keep hm6) | (refine step_appE (by rfl) _ _ (by rfl) _ _ Ak [⟨n0, n1, n2, n3, n4, n5⟩] (by rfl) (by rfl) (hRA6.keep ((Mod.refl (fun _ => False) _).alloc _)) (RE.lit _ ⟨n0, n1, n2, n3, n4, n5⟩).sl (by rw [hak]; simp; omega) (k + 1) (by rw [hak]; rfl) ?_; intro ax cx w7 hR7 hm7 hf7)))
        all_goals
          go_wp2
          go_meet
          have hmm := (hmA.drew.and hm6).alloc (.cells #[.int .i64 n0, .int .i64 n1, .int .i64 n2, .int .i64 n3, .int .i64 n4, .int .i64 n5] 28)
          exact ⟨⟨ax, cx, rfl, hR7, hmm.trans hm7 (V := fun _ => False) (fun _ _ h => h) (fun i hi h => by have := hNA' i h; omega), fun g hg => by rcases hf7 g hg with h | h; exact hNA' g h; have := hmm.size; omega⟩⟩
      case rest =>
      obtain ⟨ax, cx, rfl, hR7, hm7, hn7⟩ := hcut.out
      clear hcut hRA hmA HE' hnode z0 z1 z2 z3 z4 z5
      have hlenA : (Ak ++ [(⟨n0, n1, n2, n3, n4, n5⟩ : Ey)]).length = k + 1 := by simp [hak]
      obtain ⟨g, rfl⟩ := hR7.some (by rw [hlenA]; omega)
      have hsl := hR7.sl
      have hget : (Ak ++ [(⟨n0, n1, n2, n3, n4, n5⟩ : Ey)])[k]? = some ⟨n0, n1, n2, n3, n4, n5⟩ := by rw [← hak]; simp
      obtain ⟨gb, goff, ge, hcell⟩ := hsl.at hget
      simp only [Option.some.injEq, Addr.mk.injEq, and_true] at ge
      obtain ⟨rfl, rfl⟩ := ge
      obtain ⟨y0, y1, y2, y3, y4, y5⟩ := hcell _ (Mod.refl _ _)
      have HR7 : Hid (RE wc (.slice (some ⟨g, 0, none⟩) (k + 1) cx) (alE l N (k + 1)) ∧ Nw w2 (.slice (some ⟨g, 0, none⟩) (k + 1) cx) ∧ Mod (fun _ => False) w2 wc) := ⟨by rw [HAS.out]; exact hR7, hn7, hm7⟩
      have HT7 : Hid (max T n5 = topE (alE l N (k + 1)) 0) := by
        rw [Hid, HAS.out, topE_app, ← HT.out]
      have hk1 : (k : Int) < ((k + 1 : Nat) : Int) := by omega
      clear hR7 hn7 hm7 hsl hget hcell hlenA HAS y0 y1 y2 y3 y4 HT hak hNA'
      simp only [Nat.zero_add] at y5
      go_wp2
      go_roundw
      case rel => exact ⟨k + 1, max T n5, by go_num, rfl, by omega, HT7, ⟨HR7.out.1, HR7.out.2.1⟩, HR7.out.2.2⟩
      case measure => simp [intOf]; omega
    · have hkn' : k = n := by omega
      rw [hkn'] at HT HA
      have hlA := alE_len l N n
      obtain ⟨aao, acap, hav⟩ := HA.out.1.shape
      rw [hlA] at hav
      subst hav
      obtain ⟨gA, rfl⟩ := HA.out.1.some (by rw [hlA]; exact hnp)
      have hnb := HNC.out _ HW.out 0 hnp
      obtain ⟨n0, hn0⟩ : ∃ n0, n0 = N.getD 0 0 := ⟨_, rfl⟩
      rw [← hn0] at hnb
      have HN0 : Hid (n0 = N.getD 0 0) := hn0
      have HCELL : Hid (∀ W, Mod (fun _ => False) wd W → ∀ i, i < n → W.cell? ⟨gA, 0 + i * 6, none⟩ = some (.int .i64 (ent l N i).nd) ∧ W.cell? ⟨gA, 0 + i * 6 + 1, none⟩ = some (.int .i64 (ent l N i).os) ∧ W.cell? ⟨gA, 0 + i * 6 + 2, none⟩ = some (.int .i64 (ent l N i).od) ∧ W.cell? ⟨gA, 0 + i * 6 + 3, none⟩ = some (.int .i64 (ent l N i).aru) ∧ W.cell? ⟨gA, 0 + i * 6 + 4, none⟩ = some (.int .i64 (ent l N i).high) ∧ W.cell? ⟨gA, 0 + i * 6 + 5, none⟩ = some (.int .i64 (ent l N i).ck)) := fun W hW i hi => by
        obtain ⟨b', o', e, hc⟩ := HA.out.1.sl.at (alE_get hi)
        simp only [Option.some.injEq, Addr.mk.injEq, and_true] at e
        obtain ⟨rfl, rfl⟩ := e
        exact hc W hW
      have hc0 := HCELL.out wd (Mod.refl _ _) 0 hnp
      simp only [Nat.zero_mul, Nat.add_zero, Nat.zero_add] at hc0
      have hNEW := fun W => New_any W 1001 n0 (M : Int) (ent l N 0) ⟨by have := HM.out.lt; omega, by have := HM.out.lt; omega⟩
      rw [HN0.out, cR_new HM.out, ← HN0.out] at hNEW
      have HT0 : Hid (0 ≤ T ∧ T ≤ 9007199254740990) := by rw [Hid, HT.out]; exact top_rng l N n
      simp only [eyc] at hNEW
      generalize ent l N 0 = en0 at hNEW hc0
      obtain ⟨q0, q1, q2, q3, q4, q5⟩ := en0
      simp only at hNEW hc0
      obtain ⟨d0, d1, d2, d3, d4, d5⟩ := hc0
      have HAW : Hid (RE wd (.slice (some ⟨gA, 0, none⟩) n acap) (alE l N n) ∧ Mod (fun _ => False) w2 wd) := ⟨HA.out.1, HW.out⟩
      have hsz := HW.out.size
      have hge : ¬ (k : Int) < (n : Int) := by omega
      clear hn0 hkn' hlA HA HW hk hkn
      go_upto_region 18 with fail
      refine rr18 nb gA n ncap n acap (M : Int) n0 q0 q1 q2 q3 q4 q5 (fun w v => Cn w2 w v (cR l N M n 1)) ⟨⟨⟨_, rfl, rfl, rfl, rfl, by decide +kernel⟩⟩, ⟨⟨_, rfl, rfl, rfl, rfl, by decide +kernel⟩⟩, ⟨⟨_, rfl, rfl, rfl, rfl, by decide +kernel⟩⟩, ⟨⟨_, rfl, rfl, rfl, rfl, by decide +kernel⟩⟩, ⟨⟨_, rfl, rfl, rfl, rfl, by decide +kernel⟩⟩, ⟨⟨_, rfl, rfl, rfl, rfl, by decide +kernel⟩⟩, ⟨⟨_, rfl, rfl, rfl, rfl, by decide +kernel⟩⟩, ⟨⟨_, rfl, rfl, rfl, rfl, by decide +kernel⟩⟩, ⟨⟨_, rfl, rfl, rfl, rfl, by decide +kernel⟩⟩, ⟨⟨_, rfl, rfl, rfl, rfl, by decide +kernel⟩⟩, ⟨⟨_, rfl, rfl, rfl, rfl, by decide +kernel⟩⟩, ⟨⟨_, rfl, rfl, rfl, rfl, by decide +kernel⟩⟩, ⟨⟨_, rfl, rfl, rfl, rfl, by decide +kernel⟩⟩, ⟨⟨_, rfl, rfl, rfl, rfl, by decide +kernel⟩⟩, ⟨⟨_, rfl, rfl, rfl, rfl, by decide +kernel⟩⟩⟩ rfl (by decide +kernel) rfl (by decide +kernel) rfl rfl rfl rfl hnb d0 d1 d2 d3 d4 d5 hnp hnp (fun _ _ _ hm h => h.keep hm) (fun _ _ _ _ _ h hb => h.store hb) (fun _ _ h => h.agg) (fun W hW => (hNEW W).mono fun _ _ h => by obtain ⟨v', rfl, h1, h2⟩ := h; exact ⟨v', rfl, h1.early (Nat.le_trans hsz hW.size), h2⟩) ?_
      intro f w4 b cells hm4 hbz hBz hCz
      simp only [puts, Act.put, List.setIfInBounds_toArray, List.set_cons_succ, List.set_cons_zero]
      have HC4 : Hid (Cb w2 w4 b (cR l N M n 1)) := Cb.of hBz hCz
      have HM4 : Hid (Mod (fun _ => False) wd w4 ∧ w2.heap.size ≤ b ∧ wd.heap.size ≤ b) := ⟨hm4, Nat.le_trans hsz hbz, hbz⟩
      clear hBz hCz hm4 hbz hsz d0 d1 d2 d3 d4 d5 hnb hNEW
      go_wp2
      go_loopw [12, 13] (fun e hh wr => ∃ h : Nat, hh = .int .i64 (h : Int) ∧ e = .int .i64 0 ∧ 1 ≤ h ∧ h ≤ 2 * n + 1 ∧ Hid (Cb w2 wr b (cR l N M n (min h (2 * n)))) ∧ Hid (Mod (fun i => i = b) w4 wr)) (fun _ hh _ => 2 * n + 1 - (intOf hh).toNat)
      case atStart =>
        have e : min 1 (2 * n) = 1 := by omega
        exact ⟨1, rfl, rfl, by omega, by omega, by rw [Hid, e]; exact HC4.out, Mod.refl _ _⟩
      case round =>
        clear HC4
        obtain ⟨h, rfl, rfl, hh1, hh2, HC, HW⟩ := hrel
        obtain ⟨we, ewe⟩ : ∃ W, W = wr := ⟨_, rfl⟩
        subst ewe
        have hMd : Mod (fun _ => False) wd we := HM4.out.1.toC HW.out HM4.out.2.2
        have HMD : Hid (Mod (fun _ => False) wd we) := hMd
        by_cases hhn : h ≤ 2 * n
        · have e1 : min h (2 * n) = h := by omega
          rw [e1] at HC
          obtain ⟨cao, ccap, hbk, hcv, hre, hnw⟩ := HC.out.at
          rw [← HN0.out] at hbk hcv
          obtain ⟨m, hm⟩ : ∃ m, m = min h n := ⟨_, rfl⟩
          rw [← hm] at hbk hcv hre hnw
          have HNW : Hid (Nw w2 (.slice cao m ccap)) := hnw
          have HMM : Hid (m = min h n) := hm
          have HQ : Hid (Rs w4 we b (M : Int) n0 h m cao ccap (cR l N M n h) (alE l N m)) := ⟨hbk, hcv, hre, HW.out⟩
          have hr := Nat.mod_lt h hnp
          have htm : (h : Int).tmod (n : Int) = ((h % n : Nat) : Int) := by
            rw [Int.tmod_eq_emod_of_nonneg (by omega)]
            rfl
          have hcn := HNC.out we (HAW.out.2.and hMd) (h % n) hr
          have hndr := node_ne HM.out hr
          have HV : Hid (∀ x, vis (cR l N M n h) x = if x = N.getD (h % n) 0 then wnt n h else 0) := fun x => cR_vis HM.out hh1 hhn x
          have HCK : Hid (ckC (cR l N M n h) = 0) := by rw [Hid, ckC, if_pos (cR_ok HM.out hh1 hhn)]
          have hMI : I64 (M : Int) := ⟨by have := HM.out.lt; omega, by have := HM.out.lt; omega⟩
          have HMI : Hid (I64 (M : Int)) := hMI
          obtain ⟨nd, hnd⟩ : ∃ nd, nd = N.getD (h % n) 0 := ⟨_, rfl⟩
          rw [← hnd] at hcn hndr HV
          obtain ⟨r, hrr⟩ : ∃ r, r = h % n := ⟨_, rfl⟩
          rw [← hrr] at hcn hr htm
          obtain ⟨wn, hwn⟩ : ∃ wn, wn = wnt n h := ⟨_, rfl⟩
          rw [← hwn] at HV
          have HWN : Hid (wn = wnt n h) := hwn
          have hri : (r : Int) < (n : Int) := by omega
          have hn0' : ¬ (n : Int) = 0 := by omega
          have hhle : (h : Int) ≤ 2 * (n : Int) := by omega
          clear hnw hbk hcv hre hm hMd hnd hrr hwn e1 HC hMI
          go_upto_if 90 with (fail)
          go_cut [15] (fun s wx => s = .int .i64 (if h < n then 1 else 2) ∧ wx = we)
          case first =>
            by_cases hq : h < n
            · have hqi : (h : Int) < (n : Int) := by omega
              go_wp2
              go_meet
              exact ⟨by rw [if_pos hq], rfl⟩
            · have hqi : ¬ (h : Int) < (n : Int) := by omega
              go_wp2
              go_meet
              exact ⟨by rw [if_neg hq], rfl⟩
          case rest =>
          obtain ⟨rfl, rfl⟩ := hcut
          obtain ⟨wf, hwf⟩ : ∃ wf : Int, wf = if h < n then 1 else 2 := ⟨_, rfl⟩
          rw [← hwf]
          have HWF : Hid (wf = if h < n then 1 else 2) := hwf
          clear hwf hcn
          go_upto_if 94 with (fail)
          go_cut [15] (fun s wx => s = .int .i64 wn ∧ wx = wc)
          case first =>
            by_cases hq : h = 2 * n
            · have hqi : ((h : Int) == 2 * (n : Int)) = true := by simp; omega
              have e : wn = 3 := by rw [HWN.out, wnt, if_neg (by omega), if_neg (by omega)]
              have E : Hid (wn = _) := e
              clear e
              go_wp2
              go_meet
              exact ⟨by rw [E.out], rfl⟩
            · have hqi : ((h : Int) == 2 * (n : Int)) = false := by simp; omega
              have e : wn = wf := by
                rw [HWN.out, HWF.out, wnt]
                by_cases q : h < n
                · rw [if_pos q, if_pos q]
                · rw [if_neg q, if_neg q, if_pos (by omega)]
              have E : Hid (wn = _) := e
              clear e
              go_wp2
              go_meet
              exact ⟨by rw [E.out], rfl⟩
          case rest =>
          obtain ⟨rfl, rfl⟩ := hcut
          have hb0 := HQ.out.bk
          have a0 := hb0.cellv (j := 0) rfl
          have a1 := hb0.cellv (j := 1) rfl
          have a2 := hb0.cellv (j := 2) rfl
          have a3 := hb0.cellv (j := 3) rfl
          have a4 := hb0.cellv (j := 4) rfl
          clear hb0 hri
          go_wp2_with (fail)
          refine (Check_any _ _ _ HQ.out.cv HMI.out).mono ?_
          rintro e w5 ⟨rfl, hm5⟩
          have HQ5 : Hid (Rs w4 w5 b (M : Int) n0 h m cao ccap (cR l N M n h) (alE l N m)) := HQ.out.keep hm5
          rw [HCK.out]
          have hMd5 := HMD.out.and hm5
          have hb0 := HQ5.out.bk
          clear a0 a1 a2 a3 a4 hm5 HQ HMD
          have a0 := hb0.cellv (j := 0) rfl
          have a1 := hb0.cellv (j := 1) rfl
          have a2 := hb0.cellv (j := 2) rfl
          have a3 := hb0.cellv (j := 3) rfl
          have a4 := hb0.cellv (j := 4) rfl
          clear hb0
          have hv1 := HV.out nd
          rw [if_pos rfl] at hv1
          go_wp2_with (fail)
          have C := Visit_any w5 _ _ nd HQ5.out.cv HMI.out
          rw [hv1] at C
          refine C.mono ?_
          rintro e w6 ⟨rfl, hm6⟩
          have HQ6 : Hid (Rs w4 w6 b (M : Int) n0 h m cao ccap (cR l N M n h) (alE l N m) ∧ Mod (fun _ => False) wd w6) := ⟨HQ5.out.keep hm6, hMd5.and hm6⟩
          clear a0 a1 a2 a3 a4 hm6 HQ5 hMd5 C hv1
          go_wp2
          go_loopw [16] (fun t wr => ∃ k2 : Nat, t = .int .i64 (k2 : Int) ∧ k2 ≤ 10 ∧ Hid (Mod (fun _ => False) w6 wr)) (fun t _ => 10 - (intOf t).toNat)
          case atStart => exact ⟨0, rfl, by omega, Mod.refl _ _⟩
          case round =>
            obtain ⟨k2, rfl, hk2, HW6⟩ := hrel
            obtain ⟨wg, ewg⟩ : ∃ W, W = wr := ⟨_, rfl⟩
            subst ewg
            by_cases hk10 : k2 < 10
            · have hk10i : (k2 : Int) < 10 := by omega
              have HQ7 : Hid (Rs w4 wg b (M : Int) n0 h m cao ccap (cR l N M n h) (alE l N m)) := HQ6.out.1.keep HW6.out
              have hb0 := HQ7.out.bk
              have a0 := hb0.cellv (j := 0) rfl
              have a1 := hb0.cellv (j := 1) rfl
              have a2 := hb0.cellv (j := 2) rfl
              have a3 := hb0.cellv (j := 3) rfl
              have a4 := hb0.cellv (j := 4) rfl
              clear hb0
              by_cases hkn2 : (k2 : Int) = nd
              · have hneb : ((k2 : Int) != nd) = false := by simp [hkn2]
                clear hkn2
                go_wp2
                go_roundw
                case rel => exact ⟨k2 + 1, by go_num, by omega, HW6.out⟩
                case measure => simp [intOf]; omega
              · have hneb : ((k2 : Int) != nd) = true := by simp [hkn2]
                have hv2 := HV.out (k2 : Int)
                rw [if_neg hkn2] at hv2
                clear hkn2
                go_wp2_with (fail)
                have C := Visit_any wg _ _ (k2 : Int) HQ7.out.cv HMI.out
                rw [hv2] at C
                refine C.mono ?_
                rintro e w7 ⟨rfl, hm7⟩
                clear a0 a1 a2 a3 a4 C hv2
                go_wp2
                go_roundw
                case rel => exact ⟨k2 + 1, by go_num, by omega, HW6.out.and hm7⟩
                case measure => simp [intOf]; omega
            · obtain rfl : k2 = 10 := by omega
              have HQ7 : Hid (Rs w4 wg b (M : Int) n0 h m cao ccap (cR l N M n h) (alE l N m) ∧ Mod (fun _ => False) wd wg) := ⟨HQ6.out.1.keep HW6.out, HQ6.out.2.and HW6.out⟩
              clear HQ6 HW6 hk2
              go_wp2
              go_loopw [17] (fun t wr => ∃ k2 : Nat, t = .int .i64 (k2 : Int) ∧ k2 ≤ m ∧ Hid (Mod (fun _ => False) wg wr)) (fun t _ => m - (intOf t).toNat)
              case atStart => exact ⟨0, rfl, by omega, Mod.refl _ _⟩
              case round =>
                obtain ⟨k2, rfl, hk2, HW7⟩ := hrel
                have HQ8 : Hid (Rs w4 wr b (M : Int) n0 h m cao ccap (cR l N M n h) (alE l N m) ∧ Mod (fun _ => False) wd wr) := ⟨HQ7.out.1.keep HW7.out, HQ7.out.2.and HW7.out⟩
                have hb0 := HQ8.out.1.bk
                have a0 := hb0.cellv (j := 0) rfl
                have a1 := hb0.cellv (j := 1) rfl
                have a2 := hb0.cellv (j := 2) rfl
                have a3 := hb0.cellv (j := 3) rfl
                have a4 := hb0.cellv (j := 4) rfl
                by_cases hkm : k2 < m
                · have hkmi : (k2 : Int) < (m : Int) := by omega
                  have hmn : m ≤ n := by have := HMM.out; omega
                  have hkni : (k2 : Int) < (n : Int) := by omega
                  obtain ⟨eg, rfl⟩ := HQ8.out.1.re.some (by rw [alE_len]; omega)
                  obtain ⟨b', o', e', hc⟩ := HQ8.out.1.re.sl.at (alE_get hkm)
                  simp only [Option.some.injEq, Addr.mk.injEq, and_true] at e'
                  obtain ⟨rfl, rfl⟩ := e'
                  obtain ⟨s0, s1, s2, s3, s4, s5⟩ := hc _ (Mod.refl _ _)
                  obtain ⟨t0, t1, t2, t3, t4, t5⟩ := HCELL.out wr HQ8.out.2 k2 (by omega)
                  generalize ent l N k2 = en at s0 s1 s2 s3 s4 s5 t0 t1 t2 t3 t4 t5
                  obtain ⟨p0, p1, p2, p3, p4, p5⟩ := en
                  simp only at s0 s1 s2 s3 s4 s5 t0 t1 t2 t3 t4 t5
                  clear hc
                  go_upto_region 40 with fail
                  refine rr40 b eg 0 m ccap gA 0 n acap k2 p0 p1 p2 p3 p4 p5 p0 p1 p2 p3 p4 p5 ⟨⟨⟨_, rfl, rfl, rfl, rfl, by decide +kernel⟩⟩, ⟨⟨_, rfl, rfl, rfl, rfl, by decide +kernel⟩⟩, ⟨⟨_, rfl, rfl, rfl, rfl, by decide +kernel⟩⟩, ⟨⟨_, rfl, rfl, rfl, rfl, by decide +kernel⟩⟩, ⟨⟨_, rfl, rfl, rfl, rfl, by decide +kernel⟩⟩, ⟨⟨_, rfl, rfl, rfl, rfl, by decide +kernel⟩⟩, ⟨⟨_, rfl, rfl, rfl, rfl, by decide +kernel⟩⟩, ⟨⟨_, rfl, rfl, rfl, rfl, by decide +kernel⟩⟩, ⟨⟨_, rfl, rfl, rfl, rfl, by decide +kernel⟩⟩, ⟨⟨_, rfl, rfl, rfl, rfl, by decide +kernel⟩⟩⟩ rfl (by decide +kernel) rfl (by decide +kernel) rfl rfl rfl rfl a4 s0 s1 s2 s3 s4 s5 t0 t1 t2 t3 t4 t5 hkmi hkni ?_
                  intro f w8 hm8
                  simp only [puts, Act.put, List.setIfInBounds_toArray, List.set_cons_succ, List.set_cons_zero, eyb_self]
                  clear a0 a1 a2 a3 a4 s0 s1 s2 s3 s4 s5 t0 t1 t2 t3 t4 t5 hb0
                  go_wp2
                  go_roundw
                  case rel => exact ⟨k2 + 1, by go_num, by omega, HW7.out.and hm8⟩
                  case measure => simp [intOf]; omega
                · obtain rfl : k2 = m := by omega
                  clear hb0 HQ7 HW7 hk2 hkm
                  have hge2 : ¬ ((k2 : Int) < (k2 : Int)) := by omega
                  have hq3 : h < n ∨ (n ≤ h ∧ h < 2 * n) ∨ h = 2 * n := by omega
                  rcases hq3 with hq | ⟨hq, hq2⟩ | hq
                  · have e : wn = 1 := by rw [HWN.out, wnt, if_pos hq]
                    have hwne : (wn != 1) = false := by simp [e]
                    have hwe : (wn == 1) = true := by simp [e]
                    have HADD := fun W v hv => Add_any W v (cR l N M n h) (ent l N h) hv HMI.out
                    rw [cR_add HM.out hh1 hq] at HADD
                    obtain ⟨t0, t1, t2, t3, t4, t5⟩ := HCELL.out wr HQ8.out.2 h hq
                    generalize ent l N h = en at HADD t0 t1 t2 t3 t4 t5
                    obtain ⟨p0, p1, p2, p3, p4, p5⟩ := en
                    simp only [eyc] at HADD t0 t1 t2 t3 t4 t5
                    have hhi : (h : Int) < (n : Int) := by omega
                    have hsw := HQ8.out.2.size
                    have hs2 := HAW.out.2.size
                    clear e hge hge2
                    go_upto_region 46 with fail
                    refine rr46 gA 0 n acap h (.int .i64 1001) (.int .i64 n0) (.int .i64 (M : Int)) (.int .i64 (h : Int)) (.slice cao k2 ccap) p0 p1 p2 p3 p4 p5 (fun w v => Cn w2 w v (cR l N M n (h + 1))) b ⟨⟨⟨_, rfl, rfl, rfl, rfl, by decide +kernel⟩⟩, ⟨⟨_, rfl, rfl, rfl, rfl, by decide +kernel⟩⟩, ⟨⟨_, rfl, rfl, rfl, rfl, by decide +kernel⟩⟩, ⟨⟨_, rfl, rfl, rfl, rfl, by decide +kernel⟩⟩, ⟨⟨_, rfl, rfl, rfl, rfl, by decide +kernel⟩⟩, ⟨⟨_, rfl, rfl, rfl, rfl, by decide +kernel⟩⟩, ⟨⟨_, rfl, rfl, rfl, rfl, by decide +kernel⟩⟩, ⟨⟨_, rfl, rfl, rfl, rfl, by decide +kernel⟩⟩, ⟨⟨_, rfl, rfl, rfl, rfl, by decide +kernel⟩⟩, ⟨⟨_, rfl, rfl, rfl, rfl, by decide +kernel⟩⟩, ⟨⟨_, rfl, rfl, rfl, rfl, by decide +kernel⟩⟩⟩ rfl (by decide +kernel) rfl (by decide +kernel) rfl rfl rfl rfl a0 a1 a2 a3 a4 t0 t1 t2 t3 t4 t5 hhi (fun _ _ _ hm h => h.keep hm) (fun _ _ _ _ _ h hb => h.store hb) (fun _ _ h => h.agg) ⟨_, HQ8.out.1.bk, rfl⟩ (fun W hW => (HADD W _ (HQ8.out.1.cv.keep hW)).mono fun _ _ h => by obtain ⟨v', rfl, h1, h2⟩ := h; exact ⟨v', rfl, h1.early (Nat.le_trans hs2 (Nat.le_trans hsw hW.size)), h2⟩) ?_
                    intro f w8 cells hm8 hBz hCz
                    simp only [puts, Act.put, List.setIfInBounds_toArray, List.set_cons_succ, List.set_cons_zero]
                    have HEND : Hid (Cb w2 w8 b (cR l N M n (min (h + 1) (2 * n))) ∧ Mod (fun i => i = b) w4 w8) := ⟨by
                      have e2 : min (h + 1) (2 * n) = h + 1 := by omega
                      rw [e2]
                      exact Cb.of hBz hCz, HQ8.out.1.md.trans hm8 (fun _ _ h => h) (fun _ _ h => h)⟩
                    clear a0 a1 a2 a3 a4 t0 t1 t2 t3 t4 t5 hBz hCz hm8 HADD
                    go_wp2
                    go_roundw
                    case rel => exact ⟨h + 1, by go_num, rfl, by omega, by omega, HEND.out.1, HEND.out.2⟩
                    case measure => simp [intOf]; omega
                  · have e : wn = 2 := by rw [HWN.out, wnt, if_neg (by omega), if_pos hq2]
                    have hwne : (wn != 1) = true := by simp [e]
                    have hwe : (wn == 1) = false := by simp [e]
                    have hwe2 : (wn == 2) = true := by simp [e]
                    have hkn3 : k2 = n := by have := HMM.out; omega
                    have hkn4 : ((k2 : Int) != (n : Int)) = false := by simp [hkn3]
                    have HST := fun W v hv => Stamp_any W v (cR l N M n h) hv HMI.out
                    rw [cR_st HM.out hq hhn, ← HT.out] at HST
                    have HPA := fun W v hv => Pass_any W v (cR l N M n h) hv HMI.out
                    rw [cR_pas HM.out hq hq2] at HPA
                    have hT0 := HT0.out.1
                    have hT1 := HT0.out.2
                    clear e hge hge2 hkn3
                    go_wp2_with (fail)
                    refine (HST _ _ HQ8.out.1.cv).mono ?_
                    rintro e w7 ⟨rfl, hm7⟩
                    have HQ9 : Hid (Rs w4 w7 b (M : Int) n0 h k2 cao ccap (cR l N M n h) (alE l N k2) ∧ Mod (fun _ => False) wd w7) := ⟨HQ8.out.1.keep hm7, HQ8.out.2.and hm7⟩
                    have hb1 := HQ9.out.1.bk
                    clear a0 a1 a2 a3 a4 hm7 HST
                    have a0 := hb1.cellv (j := 0) rfl
                    have a1 := hb1.cellv (j := 1) rfl
                    have a2 := hb1.cellv (j := 2) rfl
                    have a3 := hb1.cellv (j := 3) rfl
                    have a4 := hb1.cellv (j := 4) rfl
                    clear hb1
                    go_wp2_with (fail)
                    refine (HPA _ _ HQ9.out.1.cv).mono ?_
                    rintro e w8 ⟨v', rfl, hc8, hm8⟩
                    obtain ⟨cs, rfl, hcs5, hcs1⟩ := hc8.agg
                    have HC8 : Hid (Cn w7 w8 (.agg cs) (cR l N M n (h + 1)) ∧ cs.size = 5 ∧ cs.toList.all (·.oneCell') = true) := ⟨hc8, hcs5, hcs1⟩
                    have HQA : Hid (Rs w4 w8 b (M : Int) n0 h k2 cao ccap (cR l N M n h) (alE l N k2) ∧ Mod (fun _ => False) wd w8) := ⟨HQ9.out.1.keep hm8, HQ9.out.2.and hm8⟩
                    have hbA := HQA.out.1.bk
                    have hs7 := HQ9.out.2.size
                    have hs2 := HAW.out.2.size
                    clear a0 a1 a2 a3 a4 hc8 hcs5 hcs1 hm8 HPA
                    go_wp2_with (refine wpList_store_row infoC rfl rfl _ _ rfl b cs rfl rfl hbA rfl HC8.out.2.1 HC8.out.2.2 ?_; intro wF hBF hMF)
                    have HEND : Hid (Cb w2 wF b (cR l N M n (min (h + 1) (2 * n))) ∧ Mod (fun i => i = b) w4 wF) := ⟨by
                      have e2 : min (h + 1) (2 * n) = h + 1 := by omega
                      rw [e2]
                      refine Cb.of hBF ?_
                      obtain ⟨ao3, cap3, e3, h3, h4⟩ := HC8.out.1.form
                      refine ⟨ao3, cap3, e3, h3.mod hMF (fun g hg e => h3.ne hbA g hg e), fun g hg => Nat.le_trans hs2 (Nat.le_trans hs7 (h4 g hg))⟩, HQA.out.1.md.trans hMF (fun _ _ h => h) (fun _ _ h => h)⟩
                    clear hBF hMF hbA HC8
                    go_roundw
                    case rel => exact ⟨h + 1, by go_num, rfl, by omega, by omega, HEND.out.1, HEND.out.2⟩
                    case measure => simp [intOf]; omega
                  · have e : wn = 3 := by rw [HWN.out, wnt, if_neg (by omega), if_neg (by omega)]
                    have hwne : (wn != 1) = true := by simp [e]
                    have hwe : (wn == 1) = false := by simp [e]
                    have hwe2 : (wn == 2) = false := by simp [e]
                    have hkn3 : k2 = n := by have := HMM.out; omega
                    have hkn4 : ((k2 : Int) != (n : Int)) = false := by simp [hkn3]
                    have HST := fun W v hv => Stamp_any W v (cR l N M n h) hv HMI.out
                    rw [cR_st HM.out (by omega) hhn, ← HT.out] at HST
                    have hT0 := HT0.out.1
                    have hT1 := HT0.out.2
                    have HQQ : Hid (h = 2 * n) := hq
                    clear e hge hge2 hkn3 hq
                    go_wp2_with (fail)
                    refine (HST _ _ HQ8.out.1.cv).mono ?_
                    rintro e w7 ⟨rfl, hm7⟩
                    have HEND : Hid (Cb w2 w7 b (cR l N M n (min (h + 1) (2 * n))) ∧ Mod (fun i => i = b) w4 w7) := ⟨by
                      have e2 : min (h + 1) (2 * n) = h := by have := HQQ.out; omega
                      rw [e2]
                      exact (HQ8.out.1.keep hm7).cb HMM.out HN0.out HNW.out, (HQ8.out.1.keep hm7).md⟩
                    clear a0 a1 a2 a3 a4 hm7 HST
                    go_wp2
                    go_roundw
                    case rel => exact ⟨h + 1, by go_num, rfl, by omega, by have := HQQ.out; omega, HEND.out.1, HEND.out.2⟩
                    case measure => have := HQQ.out; simp [intOf]; omega
        · have e1 : min h (2 * n) = 2 * n := by omega
          rw [e1] at HC
          obtain ⟨cao, ccap, hbk, hcv, hre, _⟩ := HC.out.at
          have HMI : I64 (M : Int) := ⟨by have := HM.out.lt; omega, by have := HM.out.lt; omega⟩
          have HPA := fun W v hv => Pass_any W v (cR l N M n (2 * n)) hv HMI
          rw [cR_last HM.out] at HPA
          rw [← HN0.out] at hbk hcv
          have hhle : ¬ (h : Int) ≤ 2 * (n : Int) := by omega
          have HMD2 : Hid (Mod (fun _ => False) w we) := (HMW.out.and HAW.out.2).and hMd
          have a0 := hbk.cellv (j := 0) rfl
          have a1 := hbk.cellv (j := 1) rfl
          have a2 := hbk.cellv (j := 2) rfl
          have a3 := hbk.cellv (j := 3) rfl
          have a4 := hbk.cellv (j := 4) rfl
          clear hre hMd hge e1 HMD HW hbk HMI hh1 hh2 hhn
          generalize min (2 * n) n = m at *
          generalize ((2 * n : Nat) : Int) = h3 at *
          go_wp2_with (fail)
          refine (HPA _ _ hcv).mono ?_
          rintro e w7 ⟨v', rfl, hc7, hm7⟩
          obtain ⟨ao3, cap3, rfl, _, _⟩ : ∃ ao cap, v' = .agg #[.int .i64 0, .int .i64 0, .int .i64 0, .int .i64 0, .slice ao 0 cap] ∧ _ ∧ _ := hc7.form
          have hmE := HMD2.out.and hm7
          clear a0 a1 a2 a3 a4 hc7 hm7 HPA hcv
          go_wp2
          go_ret
          exact ⟨rfl, hmE.alloc _⟩
namespace commitRound
open Go.ChangeShapes Go.WideShapes Go.ChangeAt Go.RowKit
set_option maxRecDepth 100000 in
theorem lifted (os : Os) (started : os.Started) (H : Type) (enc : TypeId × Value → H) :
    ReturnsInHanded {} Try.checked os 5 .any (Rows.commitRoundSpec.pre6 enc Try.prog Try.f5 Rows.commitRoundRow.domain false) (Rows.commitRoundSpec.post enc Try.prog Try.f5 false true false false) := by
  refine returnsInHanded_of_change_sized (C := Try.checked) own started (by kernel_rfl) Try.func5
    (ChangeSpec.witness6 (enc := enc) (C := Try.checked) false ⟨#[], #[.int .i64 0, .slice none 0 0], []⟩ 8 (by kernel_rfl) (by kernel_rfl) (by kernel_rfl) (by kernel_rfl)) ?_
  intro W base args ds gs before hval0 hW hcnd hsz0 _
  have hval : ∀ (j : Nat) t v, Try.f5.params[j]? = some t → args[j]? = some v → Value.okWide Try.prog W .any base t v := hval0
  have hsz : (DataW.weightsEach Try.prog (Try.f5.params.toList ++ Rows.commitRoundSpec.plain.varTypes Try.prog) (ds ++ gs)).all (· ≤ reachBytes) = true := hsz0
  have hW' := hW
  obtain ⟨p, q, hA0, hV, rfl, hfz, hnd⟩ := hW
  have hA : DataW.TrodAll enc Try.prog W 0 (fun _ => true) true Try.f5.params.toList args.toList ds p := hA0
  rw [Try.params5] at hA hval hsz
  obtain ⟨v0, vs0, d0, ds0, p0, q0, hargs, rfl, rfl, h0, r0⟩ := trodAll_cons hA
  obtain ⟨v1, vs1, d1, ds1, p1, q1, rfl, rfl, rfl, h1, r1⟩ := trodAll_cons r0
  obtain ⟨rfl, rfl, rfl⟩ := trodAll_nil r1
  obtain rfl : args = #[v0, v1] := by cases args; simp_all
  obtain ⟨rfl, rfl⟩ := trodVars_none hV
  obtain ⟨a0, rfl, rfl, rfl, w0⟩ := open_int Try.underlying3 (hval 0 3 v0 rfl rfl) h0
  have k1 := h1
  have lt1 : ∀ x ∈ p1, x.block < W.heap.size := by obtain ⟨m, hm⟩ := k1; exact DataW.trod_lt m _ _ _ hm
  obtain ⟨B1, hB1, iB1⟩ := open_entries h1 (okWide_slice Try.underlying24 (hval 1 24 v1 rfl rfl))
  clear hA0 hval0
  refine (round_walk a0 v1 B1 W hB1 iB1).mono fun e W' ⟨he, hm⟩ => ?_
  subst he
  have bel : Below W.heap.size W W' := hm.below _ (Nat.le_refl _) (fun _ h => h.elim)
  exact ⟨_, rfl, _, _, _, [], _, [], hW', trodAll_mk1 (shut_bool Try.underlying4 _), (trodAll_cons_mk (shut_int Try.underlying3 w0) (trodAll_cons_mk (Below.trod laidOut (by kernel_rfl) (of_decide_eq_true (by kernel_rfl)) k1 bel lt1) trodAll_mk0)), rfl, bel.frame _, fun h => by cases h⟩

theorem over : Rows.commitRoundRow.holds Try.pinned (OpenSpec.ofChange Rows.commitRoundSpec) :=
  OpenClaim.holds_of_wide 5 Try.f5 rfl rfl rfl rfl rfl rfl rfl ⟨rfl, rfl, rfl, rfl, rfl⟩ rfl rfl rfl rfl rfl (by kernel_rfl) Try.func5 (by kernel_rfl)
    (of_decide_eq_true (by kernel_rfl)) (by unfold Func.isWrapper; first | (rw [if_pos (by decide +kernel)]; kernel_rfl) | (rw [if_neg (by decide +kernel)]; exact ⟨rfl, rfl⟩))
    (fun os started H enc _ => lifted os started H enc)
end commitRound
theorem commitRound_holds : Rows.CommitRoundSaid := commitRound.over
end Go.Proofs.Ytlekmgjjjniomaa
