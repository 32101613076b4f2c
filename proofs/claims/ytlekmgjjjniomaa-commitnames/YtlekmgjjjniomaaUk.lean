/- Plain: who is kin, how many, the least Aru, the greatest High. No conditions. -/
import Derived.Test.YtlekmgjjjniomaaUh
namespace Go.Proofs.Ytlekmgjjjniomaa
/-- Of the same old configuration. -/
def mt (q r : Int) (e : Ey) : Bool := decide (e.os = q) && decide (e.od = r)
theorem cn_add : ∀ m : Fin 512, ∀ n : Fin 9, n.val ≠ 0 → m.val.testBit n.val = false → Cr.cn (m.val ||| 2 ^ n.val) = Cr.cn m.val + 1 := by decide +kernel
theorem kn_cons (q r : Int) (e : Ey) (l : List Ey) (m : Nat) (lo hi : Int) : kn q r (e :: l) m lo hi = if mt q r e = true then kn q r l (m + 2 ^ e.nd.toNat) (if m = 0 then e.aru else min lo e.aru) (max hi e.high) else kn q r l m lo hi := by
  simp only [kn, mt, Bool.and_eq_true, decide_eq_true_eq]
theorem wl_tail {e : Ey} {l : List Ey} (h : Wl (e :: l)) : Wl l := ⟨fun x hx => h.ok x (List.mem_cons_of_mem _ hx), (List.pairwise_cons.1 h.asc).2⟩
theorem low_next {e : Ey} {l : List Ey} (h : Wl (e :: l)) {m : Nat} (hm : m < 2 ^ e.nd.toNat) : ∀ x ∈ l, m + 2 ^ e.nd.toNat < 2 ^ x.nd.toNat := fun x hx => by
  have h1 := (List.pairwise_cons.1 h.asc).1 x hx
  have h0 := (h.ok e (List.mem_cons_self ..)).2
  have h2 : 2 ^ (e.nd.toNat + 1) ≤ 2 ^ x.nd.toNat := Nat.pow_le_pow_right (by omega) (by omega)
  rw [Nat.pow_succ] at h2
  omega
theorem kn_lt (q r : Int) : ∀ (l : List Ey) (m : Nat) (lo hi : Int), Wl l → (∀ x ∈ l, m < 2 ^ x.nd.toNat) → m < 512 → (kn q r l m lo hi).1 < 512
  | [], m, _, _, _, _, h => h
  | e :: l, m, lo, hi, hw, hx, h => by
    have h0 := hx e (List.mem_cons_self ..)
    have hn := (hw.ok e (List.mem_cons_self ..)).2
    have h2 := (two_nd e.nd hn.1 hn.2).1
    rw [kn_cons]
    split
    · exact kn_lt q r l _ _ _ (wl_tail hw) (low_next hw h0) (by omega)
    · exact kn_lt q r l _ _ _ (wl_tail hw) (fun x hx' => hx x (List.mem_cons_of_mem _ hx')) h
theorem kn_bit (q r : Int) : ∀ (l : List Ey) (m : Nat) (lo hi : Int) (j : Nat), Wl l → (∀ x ∈ l, m < 2 ^ x.nd.toNat) → (kn q r l m lo hi).1.testBit j = (m.testBit j || l.any (fun e => mt q r e && decide (e.nd.toNat = j)))
  | [], m, _, _, _, _, _ => by simp [kn]
  | e :: l, m, lo, hi, j, hw, hx => by
    have h0 := hx e (List.mem_cons_self ..)
    rw [kn_cons]
    cases hm : mt q r e
    · simp only [Bool.false_eq_true, if_false]
      rw [kn_bit q r l m lo hi j (wl_tail hw) (fun x hx' => hx x (List.mem_cons_of_mem _ hx'))]
      simp [hm]
    · simp only [if_true]
      rw [kn_bit q r l _ _ _ j (wl_tail hw) (low_next hw h0), ← or_add _ _ h0, Nat.testBit_or, Nat.testBit_two_pow]
      simp [hm, Bool.or_assoc]
theorem kn_cn (q r : Int) : ∀ (l : List Ey) (m : Nat) (lo hi : Int), Wl l → (∀ x ∈ l, m < 2 ^ x.nd.toNat) → m < 512 → Cr.cn (kn q r l m lo hi).1 = Cr.cn m + l.countP (mt q r)
  | [], m, _, _, _, _, _ => by simp [kn]
  | e :: l, m, lo, hi, hw, hx, h => by
    have h0 := hx e (List.mem_cons_self ..)
    have hn := (hw.ok e (List.mem_cons_self ..)).2
    have h2 := (two_nd e.nd hn.1 hn.2).1
    rw [kn_cons]
    cases hm : mt q r e
    · simp only [Bool.false_eq_true, if_false]
      rw [kn_cn q r l m lo hi (wl_tail hw) (fun x hx' => hx x (List.mem_cons_of_mem _ hx')) h, List.countP_cons_of_neg (by simp [hm])]
    · simp only [if_true]
      rw [kn_cn q r l _ _ _ (wl_tail hw) (low_next hw h0) (by omega), List.countP_cons_of_pos hm, ← or_add _ _ h0]
      have := cn_add ⟨m, h⟩ ⟨e.nd.toNat, by omega⟩ (by show e.nd.toNat ≠ 0; omega) (Nat.testBit_lt_two_pow h0)
      simp only at this
      omega
/-- All of the least and the greatest. -/
theorem kn_all (q r : Int) : ∀ (l : List Ey) (m : Nat) (lo hi : Int), (m ≠ 0 → (kn q r l m lo hi).2.1 ≤ lo) ∧ hi ≤ (kn q r l m lo hi).2.2 ∧ (∀ y ∈ l, mt q r y = true → (kn q r l m lo hi).2.1 ≤ y.aru ∧ y.high ≤ (kn q r l m lo hi).2.2) ∧
    ((kn q r l m lo hi).2.1 = lo ∧ (m = 0 → ∀ y ∈ l, mt q r y = false) ∨ ∃ y ∈ l, mt q r y = true ∧ y.aru = (kn q r l m lo hi).2.1) ∧ ((kn q r l m lo hi).2.2 = hi ∨ ∃ y ∈ l, mt q r y = true ∧ y.high = (kn q r l m lo hi).2.2)
  | [], m, lo, hi => ⟨fun _ => Int.le_refl _, Int.le_refl _, (fun y hy => by cases hy), .inl ⟨rfl, (fun _ y hy => by cases hy)⟩, .inl rfl⟩
  | e :: l, m, lo, hi => by
    rw [kn_cons]
    cases hm : mt q r e
    · simp only [Bool.false_eq_true, if_false]
      obtain ⟨a, b, c, d, f⟩ := kn_all q r l m lo hi
      refine ⟨a, b, fun y hy hmy => ?_, ?_, ?_⟩
      · rcases List.mem_cons.1 hy with rfl | hy
        · rw [hm] at hmy; cases hmy
        · exact c y hy hmy
      · rcases d with ⟨d1, d2⟩ | ⟨y, hy, h1, h2⟩
        · refine .inl ⟨d1, fun h0 y hy => ?_⟩
          rcases List.mem_cons.1 hy with rfl | hy
          · exact hm
          · exact d2 h0 y hy
        · exact .inr ⟨y, List.mem_cons_of_mem _ hy, h1, h2⟩
      · rcases f with f | ⟨y, hy, h1, h2⟩
        · exact .inl f
        · exact .inr ⟨y, List.mem_cons_of_mem _ hy, h1, h2⟩
    · simp only [if_true]
      have hp := Nat.two_pow_pos e.nd.toNat
      obtain ⟨a, b, c, d, f⟩ := kn_all q r l (m + 2 ^ e.nd.toNat) (if m = 0 then e.aru else min lo e.aru) (max hi e.high)
      replace a := a (by omega)
      generalize (kn q r l (m + 2 ^ e.nd.toNat) (if m = 0 then e.aru else min lo e.aru) (max hi e.high)).2.1 = Lo at *
      generalize (kn q r l (m + 2 ^ e.nd.toNat) (if m = 0 then e.aru else min lo e.aru) (max hi e.high)).2.2 = Hi at *
      refine ⟨fun h0 => ?_, by omega, fun y hy hmy => ?_, ?_, ?_⟩
      · rw [if_neg h0] at a; omega
      · rcases List.mem_cons.1 hy with rfl | hy
        · refine ⟨?_, by omega⟩
          split at a <;> omega
        · exact c y hy hmy
      · rcases d with ⟨d1, _⟩ | ⟨y, hy, h1, h2⟩
        · by_cases h0 : m = 0
          · rw [if_pos h0] at d1
            exact .inr ⟨e, List.mem_cons_self .., hm, d1.symm⟩
          · rw [if_neg h0] at d1
            by_cases h1 : lo ≤ e.aru
            · exact .inl ⟨by omega, fun h => absurd h h0⟩
            · exact .inr ⟨e, List.mem_cons_self .., hm, by omega⟩
        · exact .inr ⟨y, List.mem_cons_of_mem _ hy, h1, h2⟩
      · rcases f with f | ⟨y, hy, h1, h2⟩
        · by_cases h1 : e.high ≤ hi
          · exact .inl (by omega)
          · exact .inr ⟨e, List.mem_cons_self .., hm, by omega⟩
        · exact .inr ⟨y, List.mem_cons_of_mem _ hy, h1, h2⟩
/-- What holds of those who are kin of x. -/
structure KF (l : List Ey) (q r : Int) (M : Nat) (Lo Hi : Int) : Prop where
  lt : M < 512
  has : ∀ y ∈ l, Cr.has (M : Int) y.nd = mt q r y
  cnt : Cr.cn M = l.countP (mt q r)
  all : ∀ y ∈ l, mt q r y = true → Lo ≤ y.aru ∧ y.high ≤ Hi
  lo : l.any (fun y => mt q r y && (y.aru == Lo)) = true
  hi : l.any (fun y => mt q r y && (y.high == Hi)) = true
theorem kf_of {l : List Ey} (hw : Wl l) {x : Ey} (hx : x ∈ l) : KF l x.os x.od (kn x.os x.od l 0 0 0).1 (kn x.os x.od l 0 0 0).2.1 (kn x.os x.od l 0 0 0).2.2 := by
  have hxm : mt x.os x.od x = true := by simp [mt]
  have hlt := kn_lt x.os x.od l 0 0 0 hw (fun y _ => Nat.two_pow_pos _) (by omega)
  have hc := kn_cn x.os x.od l 0 0 0 hw (fun y _ => Nat.two_pow_pos _) (by omega)
  obtain ⟨_, b, c, d, f⟩ := kn_all x.os x.od l 0 0 0
  have hbit := fun j => kn_bit x.os x.od l 0 0 0 j hw (fun y _ => Nat.two_pow_pos _)
  generalize kn x.os x.od l 0 0 0 = R at *
  obtain ⟨M, Lo, Hi⟩ := R
  simp only at *
  refine ⟨hlt, fun y hy => ?_, ?_, c, ?_, ?_⟩
  · have hn := (hw.ok y hy).2
    have e1 : Cr.lo (M : Int) = M := Cr.lo_nat hlt
    have e2 : Cr.has (M : Int) y.nd = M.testBit y.nd.toNat := by
      rw [Cr.has, e1, Cr.hs, show Cr.node y.nd = true by simp [Cr.node]; omega]
      rw [show Nat.ble 1 y.nd.toNat = true from Nat.ble_eq_true_of_le (by omega), show Nat.ble y.nd.toNat 8 = true from Nat.ble_eq_true_of_le (by omega)]
      rfl
    rw [e2, hbit, Nat.zero_testBit, Bool.false_or]
    cases hm : mt x.os x.od y
    · rw [Bool.eq_false_iff]
      intro h
      rw [List.any_eq_true] at h
      obtain ⟨z, hz, h2⟩ := h
      simp only [Bool.and_eq_true, decide_eq_true_eq] at h2
      have hzn := (hw.ok z hz).2
      have hzy : z.nd = y.nd := by omega
      have : z = y := by
        obtain ⟨i, hi, rfl⟩ := List.mem_iff_getElem.1 hz
        obtain ⟨j, hj, rfl⟩ := List.mem_iff_getElem.1 hy
        have hp := List.pairwise_iff_getElem.1 hw.asc
        rcases Nat.lt_trichotomy i j with h | h | h
        · have := hp i j hi hj h; omega
        · subst h; rfl
        · have := hp j i hj hi h; omega
      rw [this, hm] at h2
      cases h2.1
    · rw [List.any_eq_true]
      exact ⟨y, hy, by simp [hm]⟩
  · have : Cr.cn 0 = 0 := by decide
    omega
  · rcases d with ⟨_, h⟩ | ⟨y, hy, h1, h2⟩
    · have := h (by trivial) x hx
      rw [hxm] at this
      cases this
    · exact List.any_eq_true.2 ⟨y, hy, by simp [h1, h2]⟩
  · rcases f with h | ⟨y, hy, h1, h2⟩
    · have h3 := (c x hx hxm).2
      have h4 := isE_ah (hw.ok x hx).1
      exact List.any_eq_true.2 ⟨x, hx, by rw [hxm, Bool.true_and, beq_iff_eq]; omega⟩
    · exact List.any_eq_true.2 ⟨y, hy, by simp [h1, h2]⟩
theorem any_drop {l : List Ey} {k : Nat} {e : Ey} (h : l[k]? = some e) (p : Ey → Bool) : (l.drop k).any p = (p e || (l.drop (k + 1)).any p) := by
  obtain ⟨hk, rfl⟩ := List.getElem?_eq_some_iff.1 h
  rw [List.drop_eq_getElem_cons hk]
  rfl
theorem countP_drop {l : List Ey} {k : Nat} {e : Ey} (h : l[k]? = some e) (p : Ey → Bool) : (l.drop k).countP p = (if p e = true then 1 else 0) + (l.drop (k + 1)).countP p := by
  obtain ⟨hk, rfl⟩ := List.getElem?_eq_some_iff.1 h
  rw [List.drop_eq_getElem_cons hk, List.countP_cons]
  split <;> omega
theorem topE_ge : ∀ (l : List Ey) (a : Int), a ≤ topE l a ∧ ∀ e ∈ l, e.ck ≤ topE l a
  | [], a => ⟨Int.le_refl _, fun e he => by cases he⟩
  | x :: l, a => by
    obtain ⟨h1, h2⟩ := topE_ge l (max a x.ck)
    refine ⟨?_, fun e he => ?_⟩
    · show a ≤ topE l (max a x.ck)
      omega
    · show e.ck ≤ topE l (max a x.ck)
      rcases List.mem_cons.1 he with rfl | he
      · omega
      · exact h2 e he
theorem st_gt {c : Cm} (h : okC c = true) {x : Ey} (hx : x ∈ c.es) : (decide (stC c ≤ x.ck) && decide (x.ck < 9007199254740991)) = false := by
  have h1 := (topE_ge c.es 0).2 x hx
  rw [Bool.eq_false_iff]
  intro h2
  simp only [Bool.and_eq_true, decide_eq_true_eq, stC, if_pos h] at h2
  omega
end Go.Proofs.Ytlekmgjjjniomaa
