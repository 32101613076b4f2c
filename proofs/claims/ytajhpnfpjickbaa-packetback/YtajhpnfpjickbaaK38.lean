/- Plain: what a packet's check says of its numbers, kind by kind. No conditions. Plain: packets there and back. Conditions: a check that says 0; bytes from 0 to 255. Plain: packets packed and unpacked. Conditions: a check that says 0; bytes from 0 to 255. -/
import Derived.Test.YtajhpnfpjickbaaK07
namespace Go.Proofs.Ytajhpnfpjickbaa
theorem nm_num {x : Int} (h : nm x = true) : 0 ≤ x ∧ x ≤ 9007199254740991 := by
  simpa only [nm, decide_eq_true_eq] using h
theorem nd_num {x : Int} (h : nd x = true) : 0 ≤ x ∧ x ≤ 9007199254740991 := by
  have : 1 ≤ x ∧ x ≤ 8 := by simpa only [nd, decide_eq_true_eq] using h
  omega
theorem isr_num {q r : Int} (h : isr q r = true) : (0 ≤ q ∧ q ≤ 9007199254740991) ∧ (0 ≤ r ∧ r ≤ 9007199254740991) := by
  simp only [isr, Bool.and_eq_true, beq_iff_eq, decide_eq_true_eq, cr] at h
  obtain ⟨h0, h1⟩ := h
  by_cases e : (q = 0 ∧ r = 0) ∨ (0 < q ∧ q ≤ 9007199254740991 ∧ 1 ≤ r ∧ r ≤ 8)
  · omega
  · rw [if_neg e] at h1; omega
theorem win_num {v a b : Int} (h : win v a b = true) : a ≤ v ∧ v ≤ b := by
  simpa only [win, Bool.and_eq_true, decide_eq_true_eq] using h
theorem nums_nil : Nums [] := fun _ h => by cases h
theorem nums_cons {x : Int} {l : List Int} (h : 0 ≤ x ∧ x ≤ 9007199254740991) (hl : Nums l) : Nums (x :: l) := by
  intro y hy
  rcases List.mem_cons.1 hy with rfl | hy
  · exact h
  · exact hl y hy
theorem okD_num {d : Dt} (h : okD d = true) : Nums d.ns ∧ chk d.m = 0 := by
  simp only [okD, Bool.and_eq_true, beq_iff_eq, decide_eq_true_eq] at h
  obtain ⟨⟨⟨⟨⟨h1, _⟩, h2⟩, h3⟩, h4⟩, h5⟩ := h
  have e1 := isr_num h1
  exact ⟨nums_cons e1.1 (nums_cons e1.2 (nums_cons (nm_num h2) (nums_cons (nd_num h3) (nums_cons (nm_num h4) nums_nil)))), h5⟩
theorem asc_num : ∀ (l : List Int) (last least : Int), 0 ≤ least → last ≤ 9007199254740991 → asc last least l = true → Nums l
  | [], _, _, _, _, _ => nums_nil
  | v :: r, last, least, h0, h1, h => by
    simp only [asc, Bool.and_eq_true] at h
    have e := win_num h.1
    exact nums_cons (by omega) (asc_num r last (v + 1) (by omega) h1 h.2)
theorem okT_num {t : Tk} (h : okT t = true) : Nums t.ns ∧ Nums t.ask ∧ t.ask.length ≤ 16 := by
  simp only [okT, Bool.and_eq_true, decide_eq_true_eq, cask] at h
  obtain ⟨⟨⟨⟨⟨⟨⟨⟨h1, _⟩, h2⟩, h3⟩, h4⟩, h5⟩, h6⟩, h7⟩, h8, h9⟩ := h
  have e1 := isr_num h1
  have e3 := nm_num h3
  have e4 := win_num h4
  have e5 := win_num h5
  exact ⟨nums_cons e1.1 (nums_cons e1.2 (nums_cons (nm_num h2) (nums_cons e3 (nums_cons (by omega) (nums_cons (by omega) (nums_cons (nm_num h6) (nums_cons (nm_num h7) nums_nil))))))), asc_num _ _ _ (by omega) e3.2 h9, h8⟩
theorem crew_num {c : Int} (h : Cr.chk c = 0) : 0 ≤ c ∧ c ≤ 510 := by
  unfold Cr.chk at h
  by_cases e : ((Cr.lo c &&& 510 : Nat) : Int) = c
  · have := Nat.and_le_right (n := Cr.lo c) (m := 510)
    omega
  · rw [if_neg e] at h; omega
theorem okJ_num {j : Jn} (h : okJ j = true) : Nums [j.sn, j.proc, j.ct] := by
  simp only [okJ, Bool.and_eq_true, beq_iff_eq] at h
  obtain ⟨⟨h1, h2⟩, h3⟩ := h
  have e1 := crew_num h1
  have e2 : 1 ≤ j.sn ∧ j.sn ≤ 8 := by
    simp only [Cr.has, Cr.node, Bool.and_eq_true, decide_eq_true_eq] at h2
    omega
  exact nums_cons (by omega) (nums_cons (by omega) (nums_cons (nm_num h3) nums_nil))
theorem okE_num {e : Ey} {n : Int} (h : okE e n = true) (hn : 0 ≤ n ∧ n ≤ 8) : Nums e.ns := by
  simp only [okE, Bool.and_eq_true, decide_eq_true_eq] at h
  obtain ⟨⟨⟨⟨h1, h2⟩, h3⟩, h4⟩, h5⟩ := h
  have e2 := isr_num h2
  have e3 := nm_num h3
  have e4 := win_num h4
  exact nums_cons (by omega) (nums_cons e2.1 (nums_cons e2.2 (nums_cons (by omega) (nums_cons e3 (nums_cons (nm_num h5) nums_nil)))))
theorem mbs_num : ∀ (es : List Ey) (l : List Int), (∀ n ∈ l, 0 ≤ n ∧ n ≤ 8) → mbs es l = true → ∀ e ∈ es, Nums e.ns
  | [], _, _, _, e, he => by cases he
  | a :: r, l, hl, h, e, he => by
    simp only [mbs, Bool.and_eq_true] at h
    rcases List.mem_cons.1 he with rfl | he
    · refine okE_num h.1 ?_
      cases l with
      | nil => exact ⟨by decide, by decide⟩
      | cons x l => exact hl x (by simp)
    · exact mbs_num r (l.drop 1) (fun n hn => hl n (List.mem_of_mem_drop hn)) h.2 e he
theorem lo_lt5 (c : Int) : Cr.lo c < 512 := by
  unfold Cr.lo; omega
theorem ls_bound (c : Int) : ∀ n ∈ Cr.ls (Cr.lo c), 1 ≤ n ∧ n ≤ 8 := by
  have h := Cr.ls_node ⟨Cr.lo c, lo_lt5 c⟩
  intro n hn
  have h2 := List.all_eq_true.1 h n hn
  simp only [Bool.and_eq_true, decide_eq_true_eq] at h2
  exact h2.1
theorem cn_le8 (c : Int) : Cr.cn (Cr.lo c) ≤ 8 := Cr.ls_len ⟨Cr.lo c, lo_lt5 c⟩
theorem okC_num {c : Cm} (h : okC c = true) : Nums c.ns ∧ (∀ e ∈ c.es, Nums e.ns) ∧ c.es.length ≤ 8 := by
  simp only [okC, Bool.and_eq_true, decide_eq_true_eq, beq_iff_eq] at h
  obtain ⟨⟨⟨⟨⟨⟨h1, _⟩, h3⟩, _⟩, h5⟩, h6⟩, h7⟩ := h
  have e1 := crew_num h1
  have e3 := isr_num h3
  have e5 := win_num h5
  have e8 := cn_le8 c.mem
  exact ⟨nums_cons e3.1 (nums_cons e3.2 (nums_cons (by omega) (nums_cons (by omega) nums_nil))), mbs_num _ _ (fun n hn => by have := ls_bound c.mem n hn; omega) h7, by omega⟩
theorem rcv_num (c : Cm) : 0 ≤ rcv c ∧ rcv c ≤ 8 := by
  unfold rcv
  generalize c.hop.toNat % _ = k
  have h := ls_bound c.mem
  generalize Cr.ls (Cr.lo c.mem) = l at h ⊢
  rw [List.getD_eq_getElem?_getD]
  cases e : l[k]? with
  | none => exact ⟨by decide, by decide⟩
  | some x => have := h x (List.mem_of_getElem? e); simp only [Option.getD_some]; omega
theorem okB_num {b : Bn} (h : okB b = true) : Nums [b.rs, b.rr, b.sn] := by
  simp only [okB, Bool.and_eq_true] at h
  have e := isr_num h.1
  exact nums_cons e.1 (nums_cons e.2 (nums_cons (nd_num h.2) nums_nil))
/-- The kind, and To. -/
theorem pchk_parts {p : Pk} (h : pchk p = 0) : fnd p = fof p.kind ∧ well p = true := by
  unfold pchk at h
  by_cases e : (fnd p == fof p.kind && well p) = true
  · rw [Bool.and_eq_true, beq_iff_eq] at e; exact e
  · rw [if_neg e] at h; omega
theorem well_num {p : Pk} (h : well p = true) : (1 ≤ p.kind ∧ p.kind ≤ 5) ∧ 0 ≤ p.to ∧ p.to ≤ 8 := by
  unfold well at h
  by_cases k1 : p.kind = 1
  · rw [if_pos k1, Bool.and_eq_true, decide_eq_true_eq] at h; omega
  rw [if_neg k1] at h
  by_cases k2 : p.kind = 2
  · rw [if_pos k2, Bool.and_eq_true] at h
    have e : 1 ≤ p.to ∧ p.to ≤ 8 := by simpa only [nd, decide_eq_true_eq] using h.1
    omega
  rw [if_neg k2] at h
  by_cases k3 : p.kind = 3
  · rw [if_pos k3, Bool.and_eq_true, decide_eq_true_eq] at h; omega
  rw [if_neg k3] at h
  by_cases k4 : p.kind = 4
  · rw [if_pos k4, Bool.and_eq_true, decide_eq_true_eq] at h
    have := rcv_num p.c
    omega
  rw [if_neg k4] at h
  by_cases k5 : p.kind = 5
  · rw [if_pos k5, Bool.and_eq_true, decide_eq_true_eq] at h; omega
  · rw [if_neg k5] at h; cases h
end Go.Proofs.Ytajhpnfpjickbaa
namespace Go.Proofs.Ytajhpnfpjickbaa
theorem hsn_zero : ∀ {l : List Int}, hsn l = false → ∀ x ∈ l, x = 0 := by
  intro l h x hx
  have := List.any_eq_false.1 h x hx
  simpa using this
theorem rn0_zero {q r : Int} (h : rn0 q r = false) : q = 0 ∧ r = 0 := by
  simpa [rn0] using h
theorem hasM_zero {m : Ms} (h : hasM m = false) : m = Ms.zero := by
  obtain ⟨k, o, lf, i, p, ps, g, s, st, rs, rr, sq, l⟩ := m
  simp only [hasM, Bool.or_eq_false_iff, Bool.not_eq_false', Bool.and_eq_true, decide_eq_true_eq] at h
  obtain ⟨⟨⟨a1, a2, a3, a4⟩, a5⟩, a6⟩ := h
  have z := hsn_zero a6
  simp only [List.mem_cons, List.not_mem_nil, or_false, forall_eq_or_imp, forall_eq] at z
  obtain ⟨z1, z2, z3, z4, z5, z6, z7, z8⟩ := z
  have : l = [] := List.length_eq_zero_iff.1 (by omega)
  subst a1 a2 a3 a4 a5 z1 z2 z3 z4 z5 z6 z7 this
  rfl
theorem hasD_zero {d : Dt} (h : hasD d = false) : d = Dt.zero := by
  obtain ⟨a, b, c, e, f, m⟩ := d
  simp only [hasD, Bool.or_eq_false_iff] at h
  obtain ⟨⟨h1, h2⟩, h3⟩ := h
  obtain ⟨r1, r2⟩ := rn0_zero h1
  have z := hsn_zero h2
  simp only [List.mem_cons, List.not_mem_nil, or_false, forall_eq_or_imp, forall_eq] at z
  obtain ⟨z1, z2, z3⟩ := z
  have := hasM_zero h3
  subst r1 r2 z1 z2 z3 this
  rfl
theorem hasT_zero {t : Tk} (h : hasT t = false) : t = Tk.zero := by
  obtain ⟨a, b, c, e, f, g, i, j, l⟩ := t
  simp only [hasT, Bool.or_eq_false_iff] at h
  obtain ⟨h1, h2⟩ := h
  obtain ⟨r1, r2⟩ := rn0_zero h1
  have z := hsn_zero h2
  simp only [List.mem_cons, List.not_mem_nil, or_false, forall_eq_or_imp, forall_eq] at z
  obtain ⟨z1, z2, z3, z4, z5, z6, z7⟩ := z
  have : l = [] := List.length_eq_zero_iff.1 (by omega)
  subst r1 r2 z1 z2 z3 z4 z5 z6 this
  rfl
theorem hasJ_zero {j : Jn} (h : hasJ j = false) : j = Jn.zero := by
  obtain ⟨a, b, c⟩ := j
  simp only [hasJ, Bool.not_eq_false', Bool.and_eq_true, decide_eq_true_eq] at h
  obtain ⟨r1, r2, r3⟩ := h
  subst r1 r2 r3
  rfl
theorem hasC_zero {c : Cm} (h : hasC c = false) : c = Cm.zero := by
  obtain ⟨a, b, m, e, l⟩ := c
  simp only [hasC, Bool.or_eq_false_iff] at h
  obtain ⟨h1, h2⟩ := h
  obtain ⟨r1, r2⟩ := rn0_zero h1
  have z := hsn_zero h2
  simp only [List.mem_cons, List.not_mem_nil, or_false, forall_eq_or_imp, forall_eq] at z
  obtain ⟨z1, z2, z3⟩ := z
  have : l = [] := List.length_eq_zero_iff.1 (by omega)
  subst r1 r2 z1 z2 this
  rfl
theorem hasB_zero {b : Bn} (h : hasB b = false) : b = Bn.zero := by
  obtain ⟨a, c, d⟩ := b
  simp only [hasB, Bool.not_eq_false', Bool.and_eq_true, decide_eq_true_eq] at h
  obtain ⟨r1, r2, r3⟩ := h
  subst r1 r2 r3
  rfl
/-- A packet that may be, by its kind. -/
theorem pchk_kinds {p : Pk} (h : pchk p = 0) :
    (∃ d, p = { Pk.zero with kind := 1, to := 0, d := d } ∧ okD d = true) ∨ (∃ to t, p = { Pk.zero with kind := 2, to := to, t := t } ∧ nd to = true ∧ okT t = true)
    ∨ (∃ j, p = { Pk.zero with kind := 3, to := 0, j := j } ∧ okJ j = true) ∨ (∃ c, p = { Pk.zero with kind := 4, to := rcv c, c := c } ∧ okC c = true)
    ∨ (∃ b, p = { Pk.zero with kind := 5, to := 0, b := b } ∧ okB b = true) := by
  obtain ⟨hf, hw⟩ := pchk_parts h
  obtain ⟨k, to, d, t, j, c, b⟩ := p
  unfold well at hw
  simp only [fnd, fof, List.cons.injEq, and_true] at hf
  obtain ⟨f1, f2, f3, f4, f5⟩ := hf
  by_cases k1 : k = 1
  · subst k1
    rw [if_pos rfl, Bool.and_eq_true, decide_eq_true_eq] at hw
    have e2 := hasT_zero f2; have e3 := hasJ_zero f3; have e4 := hasC_zero f4; have e5 := hasB_zero f5
    simp only at e2 e3 e4 e5 hw
    subst e2 e3 e4 e5
    exact .inl ⟨d, by rw [hw.1]; rfl, hw.2⟩
  rw [if_neg k1] at hw
  by_cases k2 : k = 2
  · subst k2
    rw [if_pos rfl, Bool.and_eq_true] at hw
    have e2 := hasD_zero f1; have e3 := hasJ_zero f3; have e4 := hasC_zero f4; have e5 := hasB_zero f5
    simp only at e2 e3 e4 e5 hw
    subst e2 e3 e4 e5
    exact .inr (.inl ⟨to, t, rfl, hw.1, hw.2⟩)
  rw [if_neg k2] at hw
  by_cases k3 : k = 3
  · subst k3
    rw [if_pos rfl, Bool.and_eq_true, decide_eq_true_eq] at hw
    have e2 := hasD_zero f1; have e3 := hasT_zero f2; have e4 := hasC_zero f4; have e5 := hasB_zero f5
    simp only at e2 e3 e4 e5 hw
    subst e2 e3 e4 e5
    exact .inr (.inr (.inl ⟨j, by rw [hw.1]; rfl, hw.2⟩))
  rw [if_neg k3] at hw
  by_cases k4 : k = 4
  · subst k4
    rw [if_pos rfl, Bool.and_eq_true, decide_eq_true_eq] at hw
    have e2 := hasD_zero f1; have e3 := hasT_zero f2; have e4 := hasJ_zero f3; have e5 := hasB_zero f5
    simp only at e2 e3 e4 e5 hw
    subst e2 e3 e4 e5
    exact .inr (.inr (.inr (.inl ⟨c, by rw [hw.2]; rfl, hw.1⟩)))
  rw [if_neg k4] at hw
  by_cases k5 : k = 5
  · subst k5
    rw [if_pos rfl, Bool.and_eq_true, decide_eq_true_eq] at hw
    have e2 := hasD_zero f1; have e3 := hasT_zero f2; have e4 := hasJ_zero f3; have e5 := hasC_zero f4
    simp only at e2 e3 e4 e5 hw
    subst e2 e3 e4 e5
    exact .inr (.inr (.inr (.inr ⟨b, by rw [hw.1]; rfl, hw.2⟩)))
  · rw [if_neg k5] at hw; cases hw
end Go.Proofs.Ytajhpnfpjickbaa
namespace Go.Proofs.Ytajhpnfpjickbaa
theorem eys_len6 : ∀ es : List Ey, (eys es).length = es.length * 6
  | [] => rfl
  | e :: r => by
    have := eys_len6 r
    simp only [eys, Ey.ns, List.length_append, List.length_cons, List.length_nil]
    omega
theorem eys_nums : ∀ es : List Ey, (∀ e ∈ es, Nums e.ns) → Nums (eys es)
  | [], _ => nums_nil
  | e :: r, h => by
    intro x hx
    rcases List.mem_append.1 hx with hx | hx
    · exact h e (by simp) x hx
    · exact eys_nums r (fun e he => h e (by simp [he])) x hx
theorem ents_eys : ∀ es : List Ey, ents es.length (eys es) = es
  | [] => rfl
  | e :: r => by
    have := ents_eys r
    simp only [eys, Ey.ns, List.length_cons, ents, List.cons_append, List.nil_append, List.getD_cons_zero, List.getD_cons_succ, List.drop_succ_cons, List.drop_zero, this]
theorem eys_ents : ∀ (n : Nat) (l : List Int), l.length = n * 6 → eys (ents n l) = l
  | 0, l, h => by
    have : l = [] := List.length_eq_zero_iff.1 (by omega)
    subst this; rfl
  | n + 1, l, h => by
    have ih := eys_ents n (l.drop 6) (by rw [List.length_drop]; omega)
    match l, h with
    | a :: b :: c :: d :: e :: f :: r, h =>
      simp only [List.drop_succ_cons, List.drop_zero] at ih
      simp only [ents, eys, Ey.ns, List.getD_cons_zero, List.getD_cons_succ, List.drop_succ_cons, List.drop_zero, ih, List.cons_append, List.nil_append]
    | [], h => simp at h
    | [_], h => simp at h; omega
    | [_, _], h => simp at h; omega
    | [_, _, _], h => simp at h; omega
    | [_, _, _, _], h => simp at h; omega
    | [_, _, _, _, _], h => simp at h; omega
theorem ents_len : ∀ (n : Nat) (l : List Int), (ents n l).length = n
  | 0, _ => rfl
  | n + 1, l => by rw [ents, List.length_cons, ents_len n]
/-- Kind and To ahead. -/
theorem prd_head {k to : Int} {r : List Int} (hk : 1 ≤ k ∧ k ≤ 5) (ht : 0 ≤ to ∧ to ≤ 9007199254740991) :
    prd (packs [k] ++ (packs [to] ++ r)) = kE k r ∧ prP (packs [k] ++ (packs [to] ++ r)) = kP k to r ∧ prL (packs [k] ++ (packs [to] ++ r)) = kR k r := by
  obtain ⟨a1, a2, a3⟩ := rd_packs' 1 [k] (packs [to] ++ r) rfl (nums_cons (by omega) nums_nil)
  obtain ⟨b1, b2, b3⟩ := rd_packs' 1 [to] r rfl (nums_cons ht nums_nil)
  have eK : pK (packs [k] ++ (packs [to] ++ r)) = k := by unfold pK g; rw [a1]; rfl
  have eT : pT (packs [k] ++ (packs [to] ++ r)) = to := by unfold pT g; rw [a3, b1]; rfl
  refine ⟨?_, ?_, ?_⟩
  · unfold prd; rw [a2, a3, b2, b3, eK, if_neg (by simp), if_neg (by omega), if_neg (by simp)]
  · unfold prP; rw [a3, b3, eK, eT]
  · unfold prL; rw [a3, b3, eK]
theorem gN_packs (n : Nat) (r : List Int) (h : n ≤ 9007199254740991) : gN (packs [(n : Int)] ++ r) = n := by
  obtain ⟨a1, a2, a3⟩ := rd_packs' 1 [(n : Int)] r rfl (nums_cons (by omega) nums_nil)
  unfold gN; rw [a1]; rfl
/-- What was packed is unpacked. -/
theorem prd_pby {p : Pk} (h : pchk p = 0) : prd (pby p) = 0 ∧ prP (pby p) = p ∧ prL (pby p) = [] := by
  rcases pchk_kinds h with ⟨d, rfl, ok⟩ | ⟨to, t, rfl, ht, ok⟩ | ⟨j, rfl, ok⟩ | ⟨c, rfl, ok⟩ | ⟨b, rfl, ok⟩
  · obtain ⟨n1, n2⟩ := okD_num ok
    unfold pby
    obtain ⟨e1, e2, e3⟩ := prd_head (k := 1) (to := 0) (r := rest { Pk.zero with kind := 1, to := 0, d := d }) (by omega) (by omega)
    have hr : rest { Pk.zero with kind := 1, to := 0, d := d } = packs d.ns ++ (enc (pk d.m).length ++ (pk d.m ++ [])) := by
      rw [List.append_nil]; rfl
    have l1 := pk_len d.m
    have l2 := (chk_parts n2).1
    obtain ⟨a1, a2, a3⟩ := rd_packs' 5 d.ns (enc (pk d.m).length ++ (pk d.m ++ [])) rfl n1
    obtain ⟨b1, b2, b3⟩ := oct_enc (most := 512) (pk d.m) [] (by omega) (by omega)
    obtain ⟨c1, c2⟩ := un_pk0 n2
    refine ⟨e1.trans ?_, e2.trans ?_, e3.trans ?_⟩
    · unfold kE; rw [if_pos rfl, hr, a2, a3, b1, b2, c2]; rfl
    · unfold kP; rw [if_pos rfl, hr, a1, a3, b2, c1]; rfl
    · unfold kR; rw [if_pos rfl, hr, a3, b3]
  · obtain ⟨n1, n2, n3⟩ := okT_num ok
    unfold pby
    obtain ⟨e1, e2, e3⟩ := prd_head (k := 2) (to := to) (r := rest { Pk.zero with kind := 2, to := to, t := t }) (by omega) (nd_num ht)
    have hr : rest { Pk.zero with kind := 2, to := to, t := t } = packs t.ns ++ (packs [(t.ask.length : Int)] ++ (packs t.ask ++ [])) := by
      rw [List.append_nil]; rfl
    obtain ⟨a1, a2, a3⟩ := rd_packs' 8 t.ns (packs [(t.ask.length : Int)] ++ (packs t.ask ++ [])) rfl n1
    obtain ⟨b1, b2, b3⟩ := rd_packs' 1 [(t.ask.length : Int)] (packs t.ask ++ []) rfl (nums_cons (by omega) nums_nil)
    have gn := gN_packs t.ask.length (packs t.ask ++ []) (by omega)
    obtain ⟨c1, c2, c3⟩ := rd_packs' t.ask.length t.ask [] rfl n2
    refine ⟨e1.trans ?_, e2.trans ?_, e3.trans ?_⟩
    · unfold kE; rw [if_neg (by decide), if_pos rfl, hr, a2, a3, b2, b3, gn, c2, if_neg (by simp), if_neg (by simp), if_neg (by omega)]
    · unfold kP; rw [if_neg (by decide), if_pos rfl, hr, a1, a3, b3, gn, c1]; rfl
    · unfold kR; rw [if_neg (by decide), if_pos rfl, hr, a3, b3, gn, c3]
  · have n1 := okJ_num ok
    unfold pby
    obtain ⟨e1, e2, e3⟩ := prd_head (k := 3) (to := 0) (r := rest { Pk.zero with kind := 3, to := 0, j := j }) (by omega) (by omega)
    have hr : rest { Pk.zero with kind := 3, to := 0, j := j } = packs [j.sn, j.proc, j.ct] ++ [] := by
      rw [List.append_nil]; rfl
    obtain ⟨a1, a2, a3⟩ := rd_packs' 3 [j.sn, j.proc, j.ct] [] rfl n1
    refine ⟨e1.trans ?_, e2.trans ?_, e3.trans ?_⟩
    · unfold kE; rw [if_neg (by decide), if_neg (by decide), if_pos rfl, hr, a2]
    · unfold kP; rw [if_neg (by decide), if_neg (by decide), if_pos rfl, hr, a1]; rfl
    · unfold kR; rw [if_neg (by decide), if_neg (by decide), if_pos rfl, hr, a3]
  · obtain ⟨n1, n2, n3⟩ := okC_num ok
    have n4 := rcv_num c
    unfold pby
    obtain ⟨e1, e2, e3⟩ := prd_head (k := 4) (to := rcv c) (r := rest { Pk.zero with kind := 4, to := rcv c, c := c }) (by omega) (by omega)
    have hr : rest { Pk.zero with kind := 4, to := rcv c, c := c } = packs c.ns ++ (packs [(c.es.length : Int)] ++ (packs (eys c.es) ++ [])) := by
      rw [List.append_nil]; rfl
    obtain ⟨a1, a2, a3⟩ := rd_packs' 4 c.ns (packs [(c.es.length : Int)] ++ (packs (eys c.es) ++ [])) rfl n1
    obtain ⟨b1, b2, b3⟩ := rd_packs' 1 [(c.es.length : Int)] (packs (eys c.es) ++ []) rfl (nums_cons (by omega) nums_nil)
    have gn := gN_packs c.es.length (packs (eys c.es) ++ []) (by omega)
    obtain ⟨c1, c2, c3⟩ := rd_packs' (c.es.length * 6) (eys c.es) [] (eys_len6 _) (eys_nums _ n2)
    refine ⟨e1.trans ?_, e2.trans ?_, e3.trans ?_⟩
    · unfold kE; rw [if_neg (by decide), if_neg (by decide), if_neg (by decide), if_pos rfl, hr, a2, a3, b2, b3, gn, c2, if_neg (by simp), if_neg (by simp), if_neg (by omega)]
    · unfold kP; rw [if_neg (by decide), if_neg (by decide), if_neg (by decide), if_pos rfl, hr, a1, a3, b3, gn, c1, ents_eys]; rfl
    · unfold kR; rw [if_neg (by decide), if_neg (by decide), if_neg (by decide), if_pos rfl, hr, a3, b3, gn, c3]
  · have n1 := okB_num ok
    unfold pby
    obtain ⟨e1, e2, e3⟩ := prd_head (k := 5) (to := 0) (r := rest { Pk.zero with kind := 5, to := 0, b := b }) (by omega) (by omega)
    have hr : rest { Pk.zero with kind := 5, to := 0, b := b } = packs [b.rs, b.rr, b.sn] ++ [] := by
      rw [List.append_nil]; rfl
    obtain ⟨a1, a2, a3⟩ := rd_packs' 3 [b.rs, b.rr, b.sn] [] rfl n1
    refine ⟨e1.trans ?_, e2.trans ?_, e3.trans ?_⟩
    · unfold kE; rw [if_neg (by decide), if_neg (by decide), if_neg (by decide), if_neg (by decide), hr, a2]
    · unfold kP; rw [if_neg (by decide), if_neg (by decide), if_neg (by decide), if_neg (by decide), hr, a1]; rfl
    · unfold kR; rw [if_neg (by decide), if_neg (by decide), if_neg (by decide), if_neg (by decide), hr, a3]
theorem pun_pby {p : Pk} (h : pchk p = 0) : pun (pby p) = 0 ∧ prP (pby p) = p := by
  obtain ⟨h1, h2, h3⟩ := prd_pby h
  refine ⟨?_, h2⟩
  unfold pun
  rw [h1, h2, h3, if_neg (by simp), if_pos ⟨rfl, h⟩]
end Go.Proofs.Ytajhpnfpjickbaa
