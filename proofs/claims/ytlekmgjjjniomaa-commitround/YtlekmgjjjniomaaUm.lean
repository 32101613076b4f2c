/- Plain: a commit that goes around: which it is at each hop. No conditions. -/
import Derived.Test.YtlekmgjjjniomaaUk
namespace Go.Proofs.Ytlekmgjjjniomaa
/-- An entry that may be, out of any. -/
def enE (x : Ey) (node : Int) : Ey := ⟨node, 1 + br x.os 1000, 1 + br x.od 8, br x.aru (br x.high 9007199254740992 + 1), br x.high 9007199254740992, br x.ck 9007199254740991⟩
theorem br_aru (x : Int) (h : Int) (h0 : 0 ≤ h) : 0 ≤ br x (h + 1) ∧ br x (h + 1) ≤ h := by
  have := br_rng x (h.toNat + 1) (by omega)
  have e : ((h.toNat + 1 : Nat) : Int) = h + 1 := by omega
  rw [e] at this
  omega
theorem br_lt (x : Int) (m : Nat) (h : 0 < m) (b : Int) (hb : b = m) : 0 ≤ br x b ∧ br x b < b := by
  subst hb
  have := br_rng x m h
  exact ⟨this.1, this.2.1⟩
theorem isr_mk {q r : Int} (h1 : 0 < q) (h2 : q ≤ 9007199254740991) (h3 : 1 ≤ r) (h4 : r ≤ 8) : isr q r = true := by
  simp only [isr, cr, Bool.and_eq_true, decide_eq_true_eq, beq_iff_eq]
  exact ⟨by omega, if_pos (by omega)⟩
theorem nm_mk {n : Int} (h1 : 0 ≤ n) (h2 : n ≤ 9007199254740991) : nm n = true := by simp [nm, h1, h2]
theorem win_mk {v a b : Int} (h1 : a ≤ v) (h2 : v ≤ b) : win v a b = true := by simp [win, h1, h2]
theorem enE_isE (x : Ey) (node : Int) : isE (enE x node) = true := by
  have a := br_lt x.os 1000 (by omega) 1000 rfl
  have b := br_lt x.od 8 (by omega) 8 rfl
  have c := br_lt x.high 9007199254740992 (by omega) 9007199254740992 rfl
  have d := br_lt x.ck 9007199254740991 (by omega) 9007199254740991 rfl
  have e := br_aru x.aru (br x.high 9007199254740992) c.1
  show (isr (1 + br x.os 1000) (1 + br x.od 8) && (nm (br x.high 9007199254740992) && (win (br x.aru (br x.high 9007199254740992 + 1)) 0 (br x.high 9007199254740992) && nm (br x.ck 9007199254740991)))) = true
  rw [isr_mk (by omega) (by omega) (by omega) (by omega), nm_mk (by omega) (by omega), win_mk (by omega) (by omega), nm_mk (by omega) (by omega)]
  rfl
def zE : Ey := ⟨0, 0, 0, 0, 0, 0⟩
def ent (l : List Ey) (N : List Int) (i : Nat) : Ey := enE (if l.length = 0 then zE else l.getD (i % l.length) zE) (N.getD i 0)
def alE (l : List Ey) (N : List Int) (k : Nat) : List Ey := (List.range k).map (ent l N)
theorem alE_len (l : List Ey) (N : List Int) (k : Nat) : (alE l N k).length = k := by simp [alE]
theorem alE_succ (l : List Ey) (N : List Int) (k : Nat) : alE l N (k + 1) = alE l N k ++ [ent l N k] := by simp [alE, List.range_succ]
theorem alE_get {l : List Ey} {N : List Int} {k i : Nat} (h : i < k) : (alE l N k)[i]? = some (ent l N i) := by simp [alE, h]
theorem topE_app : ∀ (l : List Ey) (e : Ey) (a : Int), topE (l ++ [e]) a = max (topE l a) e.ck
  | [], _, _ => rfl
  | x :: l, e, a => topE_app l e (max a x.ck)
theorem alE_mem {l : List Ey} {N : List Int} {k : Nat} {e : Ey} (h : e ∈ alE l N k) : isE e = true := by
  obtain ⟨i, _, rfl⟩ := List.mem_map.1 h
  exact enE_isE _ _
theorem ent_ck (l : List Ey) (N : List Int) (i : Nat) : 0 ≤ (ent l N i).ck ∧ (ent l N i).ck ≤ 9007199254740990 := by
  have d := br_lt (if l.length = 0 then zE else l.getD (i % l.length) zE).ck 9007199254740991 (by omega) 9007199254740991 rfl
  show 0 ≤ br _ 9007199254740991 ∧ br _ 9007199254740991 ≤ 9007199254740990
  omega
theorem top_rng (l : List Ey) (N : List Int) : ∀ k, 0 ≤ topE (alE l N k) 0 ∧ topE (alE l N k) 0 ≤ 9007199254740990
  | 0 => by simp [alE, topE]
  | k + 1 => by
    have h1 := top_rng l N k
    have h2 := ent_ck l N k
    rw [alE_succ, topE_app]
    omega
theorem mbs_of : ∀ (l : List Ey) (N : List Int), (∀ i e, l[i]? = some e → okE e (N.getD i 0) = true) → mbs l N = true
  | [], _, _ => rfl
  | e :: l, N, h => by
    rw [mbs, h 0 e rfl, Bool.true_and]
    refine mbs_of l (N.drop 1) fun i x hx => ?_
    have := h (i + 1) x (by simpa using hx)
    rw [List.getD_eq_getElem?_getD] at this ⊢
    rw [List.getElem?_drop, Nat.add_comm]
    exact this
theorem ls_pos : ∀ m : Fin 512, m.val &&& 510 ≠ 0 → 0 < Cr.cn m.val := by decide +kernel
theorem ls_ab : ∀ m : Fin 512, (Cr.ab m.val 0 : Int) = (Cr.ls m.val).getD 0 0 := by decide +kernel
/-- Members that may be. -/
structure Mb (M : Nat) (N : List Int) (n : Nat) : Prop where
  lt : M < 512
  me : M &&& 510 = M
  ls : Cr.ls M = N
  len : N.length = n
  cn : Cr.cn M = n
  pos : 0 < n
  le : n ≤ 8
  nd : ∀ x ∈ N, 1 ≤ x ∧ x ≤ 8
  asc : N.Pairwise (· < ·)
theorem mb_of (M : Nat) (h : M < 512) (h1 : M &&& 510 = M) (h0 : M ≠ 0) : Mb M (Cr.ls M) (Cr.cn M) := by
  have hp := ls_pos ⟨M, h⟩ (by show M &&& 510 ≠ 0; omega)
  have hl := Cr.ls_len ⟨M, h⟩
  have hc := ls_cn ⟨M, h⟩
  simp only at hp hl hc
  refine ⟨h, h1, rfl, hc, rfl, hp, by omega, fun x hx => ?_, rising_pw _ (Cr.ls_rising ⟨M, h⟩)⟩
  have := Cr.ls_node ⟨M, h⟩
  rw [List.all_eq_true] at this
  have := this x hx
  simp only [Bool.and_eq_true, decide_eq_true_eq] at this
  exact this.1
/-- The commit at a hop. -/
def cR (l : List Ey) (N : List Int) (M n h : Nat) : Cm := ⟨1001, N.getD 0 0, M, h, alE l N (min h n)⟩
section
variable {l : List Ey} {N : List Int} {M n : Nat}
theorem n0_rng (hb : Mb M N n) : 1 ≤ N.getD 0 0 ∧ N.getD 0 0 ≤ 8 := by
  have h := hb.len
  have hp := hb.pos
  cases N with
  | nil => simp at h; omega
  | cons x r => exact hb.nd x (List.mem_cons_self ..)
theorem cR_ok (hb : Mb M N n) {h : Nat} (h1 : 1 ≤ h) (h2 : h ≤ 2 * n) : okC (cR l N M n h) = true := by
  have e1 : Cr.lo (M : Int) = M := Cr.lo_nat hb.lt
  have e2 := n0_rng hb
  have e3 := ls_ab ⟨M, hb.lt⟩
  simp only [hb.ls] at e3
  simp only [okC, cR, e1, hb.cn, Bool.and_eq_true, decide_eq_true_eq, beq_iff_eq, alE_len]
  refine ⟨⟨⟨⟨⟨⟨?_, hb.pos⟩, ?_⟩, ?_⟩, ?_⟩, ?_⟩, ?_⟩
  · rw [Cr.chk, e1, hb.me, if_pos rfl]
  · simp only [isr, cr, Bool.and_eq_true, decide_eq_true_eq, beq_iff_eq]
    refine ⟨by omega, ?_⟩
    rw [if_pos (by omega)]
  · exact e3.symm
  · simp only [win, Bool.and_eq_true, decide_eq_true_eq]
    omega
  · omega
  · rw [hb.ls]
    refine mbs_of _ _ fun i e he => ?_
    have hi : i < min h n := by
      rcases Nat.lt_or_ge i (min h n) with h | h
      · exact h
      · rw [List.getElem?_eq_none (by rw [alE_len]; exact h)] at he; cases he
    rw [alE_get hi] at he
    cases he
    rw [okE_isE, ent, enE_isE, Bool.and_true, decide_eq_true_eq]
    rfl
theorem cR_rcv (hb : Mb M N n) (h : Nat) : rcv (cR l N M n h) = N.getD (h % n) 0 := by
  have e1 : Cr.lo (M : Int) = M := Cr.lo_nat hb.lt
  simp only [rcv, cR, e1, hb.ls, hb.len, Int.toNat_natCast]
def wnt (n h : Nat) : Int := if h < n then 1 else if h < 2 * n then 2 else 3
theorem cR_rnd (hb : Mb M N n) (h : Nat) : rnd (cR l N M n h) = wnt n h := by
  have e1 : Cr.lo (M : Int) = M := Cr.lo_nat hb.lt
  have e2 : nC (cR l N M n h) = n := by simp only [nC, cR, e1, hb.cn]
  have e3 : (cR l N M n h).hop = (h : Int) := rfl
  rw [rnd, e2, e3, wnt]
  by_cases q : h < n
  · rw [if_pos q, if_pos (by omega)]
  · rw [if_neg q, if_neg (by omega)]
    by_cases q2 : h < 2 * n
    · rw [if_pos q2, if_pos (by omega)]
    · rw [if_neg q2, if_neg (by omega)]
theorem cR_vis (hb : Mb M N n) {h : Nat} (h1 : 1 ≤ h) (h2 : h ≤ 2 * n) (x : Int) : vis (cR l N M n h) x = if x = N.getD (h % n) 0 then wnt n h else 0 := by
  rw [vis, cR_rcv hb, cR_rnd hb]
  simp only [cR_ok hb h1 h2, true_and]
theorem cR_new (hb : Mb M N n) : newC 1001 (N.getD 0 0) M (ent l N 0) = (cR l N M n 1, 0) := by
  have hp := hb.pos
  have e : (⟨1001, N.getD 0 0, (M : Int), 1, [ent l N 0]⟩ : Cm) = cR l N M n 1 := by
    have : min 1 n = 1 := by omega
    simp only [cR, this]
    rfl
  rw [newC, e, if_pos (cR_ok hb (Nat.le_refl _) (by omega))]
theorem cR_add (hb : Mb M N n) {h : Nat} (h1 : 1 ≤ h) (h2 : h < n) : addC (cR l N M n h) (ent l N h) = (cR l N M n (h + 1), 0) := by
  have e : onw (cR l N M n h) [ent l N h] = cR l N M n (h + 1) := by
    have q1 : min h n = h := by omega
    have q2 : min (h + 1) n = h + 1 := by omega
    simp only [onw, cR, q1, q2, alE_succ]
    rfl
  have hv : vis (cR l N M n h) (ent l N h).nd = 1 := by
    rw [cR_vis hb h1 (by omega), Nat.mod_eq_of_lt h2, show (ent l N h).nd = N.getD h 0 from rfl, if_pos rfl, wnt, if_pos h2]
  rw [addC, e, if_pos ⟨hv, cR_ok hb (by omega) (by omega)⟩]
theorem cR_pas (hb : Mb M N n) {h : Nat} (h1 : n ≤ h) (h2 : h < 2 * n) : pasC (cR l N M n h) = (cR l N M n (h + 1), 0) := by
  have hp := hb.pos
  have e : onw (cR l N M n h) [] = cR l N M n (h + 1) := by
    have q1 : min h n = n := by omega
    have q2 : min (h + 1) n = n := by omega
    simp only [onw, cR, q1, q2, List.append_nil]
    rfl
  rw [pasC, e, if_pos ⟨cR_ok hb (by omega) (by omega), by rw [cR_rnd hb, wnt, if_neg (by omega), if_pos h2]⟩]
theorem cR_last (hb : Mb M N n) : pasC (cR l N M n (2 * n)) = (Cm.zero, 2) := by
  rw [pasC, if_neg]
  rintro ⟨_, h⟩
  rw [cR_rnd hb, wnt, if_neg (by omega), if_neg (by omega)] at h
  omega
theorem cR_st (hb : Mb M N n) {h : Nat} (h1 : n ≤ h) (h2 : h ≤ 2 * n) : stC (cR l N M n h) = topE (alE l N n) 0 + 1 := by
  have hp := hb.pos
  have ht := top_rng l N n
  have e : (cR l N M n h).es = alE l N n := by
    have q1 : min h n = n := by omega
    simp only [cR, q1]
  rw [stC, if_pos (cR_ok hb (by omega) h2), e]
  omega
theorem node_ne (hb : Mb M N n) {i : Nat} (hi : i < n) : 1 ≤ N.getD i 0 ∧ N.getD i 0 ≤ 8 := by
  have hl := hb.len
  refine hb.nd _ ?_
  rw [List.getD_eq_getElem?_getD, List.getElem?_eq_getElem (by omega)]
  exact List.getElem_mem _
end
end Go.Proofs.Ytlekmgjjjniomaa
