/- Plain: which messages may be, what is wrong with bytes that are none; that what is packed is unpacked as it was, that bytes that are a message are just those that it is packed into, and that what is no MsgOld has room in a body. No conditions beyond those in each statement; nothing of the program is named. -/
import Derived.Test.YthiijonmnebjgaaGreatPm
namespace Go.Proofs.YthiijonmnebjgaaGreat

/-- What the kinds but texts have not. -/
def pln (m : Ms) : Bool := decide (m.life = 0) && decide (m.part = 0) && decide (m.parts = 0) && decide (m.groups = 0) && !m.safe
def tx (m : Ms) : Bool := decide (1 ≤ m.parts) && decide (m.parts ≤ 5) && decide (0 ≤ m.part) && decide (m.part < m.parts) && decide (0 < m.groups) && decide (0 < m.life) && decide (m.body.length ≤ 48)
def mkk (m : Ms) : Bool := pln m && decide (m.id = 0) && decide (m.body.length = 0)
def wn (m : Ms) : Bool := mkk m && (decide (m.st = 0) && (decide (m.rs = 0) && (decide (m.rr = 0) && decide (m.sq = 0))))
def ch (m : Ms) : Bool := pln m && decide (m.id = 0) && (plE m.body == 0)
/-- What messages of all kinds have. -/
def hn (m : Ms) : Bool := nd m.origin && nm m.life && nm m.id && decide (0 ≤ m.groups) && decide (m.groups ≤ 255) && (ck m.st m.rs m.rr m.sq == 0)
/-- What its kind asks for, of all kinds but MsgOld. -/
def kd0 (m : Ms) : Bool := if m.kind = 1 then tx m else if m.kind = 2 then mkk m else if m.kind = 3 then wn m else if m.kind = 4 then ch m else false
def in0 (b : List Int) : Bool := decide (prE b = 0 ∧ prR b = []) && (decide ((prM b).body.length ≤ 160) && hn (prM b) && kd0 (prM b))
def od (m : Ms) : Bool := pln m && nd m.id && isr m.rs m.rr && decide (0 < m.sq) && in0 m.body
def kd (m : Ms) : Bool := if m.kind = 5 then od m else kd0 m
/-- Check's answer. -/
def chk (m : Ms) : Int := if 160 < m.body.length then 5 else if hn m && kd m then 0 else 2
/-- Unpack's error. -/
def unE (b : List Int) : Int := if prE b ≠ 0 then prE b else if ¬ (prR b = [] ∧ chk (prM b) = 0) then 4 else 0
theorem chk_parts {m : Ms} (h : chk m = 0) : m.body.length ≤ 160 ∧ hn m = true ∧ kd m = true := by
  unfold chk at h
  by_cases h1 : 160 < m.body.length
  · rw [if_pos h1] at h; omega
  · rw [if_neg h1] at h
    by_cases h2 : (hn m && kd m) = true
    · rw [Bool.and_eq_true] at h2
      exact ⟨by omega, h2⟩
    · rw [if_neg h2] at h; omega
theorem chk_of {m : Ms} (h1 : m.body.length ≤ 160) (h2 : hn m = true) (h3 : kd m = true) : chk m = 0 := by
  unfold chk
  rw [if_neg (by omega), if_pos (by rw [h2, h3]; rfl)]
theorem un_parts {b : List Int} (h : unE b = 0) : prE b = 0 ∧ prR b = [] ∧ chk (prM b) = 0 := by
  unfold unE at h
  by_cases h1 : prE b = 0
  · rw [if_neg (by simp [h1])] at h
    by_cases h2 : prR b = [] ∧ chk (prM b) = 0
    · exact ⟨h1, h2⟩
    · rw [if_pos h2] at h; omega
  · rw [if_pos h1] at h; exact absurd h h1
/-- Whether bytes are those of a message that is no MsgOld. -/
theorem in0_eq (b : List Int) : in0 b = ((unE b == 0) && ((prM b).kind != 5)) := by
  rw [Bool.eq_iff_iff]
  simp only [in0, Bool.and_eq_true, decide_eq_true_eq, beq_iff_eq, bne_iff_ne, ne_eq]
  constructor
  · rintro ⟨⟨h1, h2⟩, ⟨h3, h4⟩, h5⟩
    have hk : (prM b).kind ≠ 5 := by
      intro e
      rw [kd0, if_neg (by omega), if_neg (by omega), if_neg (by omega), if_neg (by omega)] at h5
      cases h5
    refine ⟨?_, hk⟩
    have hc : chk (prM b) = 0 := chk_of h3 h4 (by rw [kd, if_neg hk]; exact h5)
    unfold unE
    rw [if_neg (by simp [h1]), if_neg (by simp [h2, hc])]
  · rintro ⟨h, hk⟩
    obtain ⟨h1, h2, h3⟩ := un_parts h
    obtain ⟨a, b', c⟩ := chk_parts h3
    rw [kd, if_neg hk] at c
    exact ⟨⟨h1, h2⟩, ⟨a, b'⟩, c⟩
theorem ck_nums {s q r n : Int} (h : ck s q r n = 0) : 0 ≤ s ∧ s ≤ 9007199254740991 ∧ 0 ≤ n ∧ n ≤ 9007199254740991 ∧ 0 ≤ q ∧ q ≤ 9007199254740991 ∧ 0 ≤ r ∧ r ≤ 8 := by
  unfold ck at h
  by_cases h1 : nm s = true ∧ nm n = true
  · rw [if_pos h1] at h
    simp only [nm, decide_eq_true_eq] at h1
    unfold cr at h
    split at h
    · omega
    · omega
  · rw [if_neg h1] at h; omega
theorem hn_parts {m : Ms} (h : hn m = true) : (1 ≤ m.origin ∧ m.origin ≤ 8) ∧ (0 ≤ m.life ∧ m.life ≤ 9007199254740991) ∧ (0 ≤ m.id ∧ m.id ≤ 9007199254740991) ∧ (0 ≤ m.groups ∧ m.groups ≤ 255) ∧ ck m.st m.rs m.rr m.sq = 0 := by
  simp only [hn, nd, nm, Bool.and_eq_true, decide_eq_true_eq, beq_iff_eq] at h
  obtain ⟨⟨⟨⟨⟨h1, h2⟩, h3⟩, h4⟩, h5⟩, h6⟩ := h
  exact ⟨h1, h2, h3, ⟨h4, h5⟩, h6⟩
theorem pln_parts {m : Ms} (h : pln m = true) : m.life = 0 ∧ m.part = 0 ∧ m.parts = 0 ∧ m.groups = 0 ∧ m.safe = false := by
  simp only [pln, Bool.and_eq_true, decide_eq_true_eq, Bool.not_eq_true'] at h
  obtain ⟨⟨⟨⟨h1, h2⟩, h3⟩, h4⟩, h5⟩ := h
  exact ⟨h1, h2, h3, h4, h5⟩
theorem kd_parts {m : Ms} (h : kd m = true) : (1 ≤ m.kind ∧ m.kind ≤ 5) ∧ ((m.kind = 1 ∧ tx m = true) ∨ (m.kind ≠ 1 ∧ pln m = true)) := by
  unfold kd at h
  by_cases h5 : m.kind = 5
  · rw [if_pos h5] at h
    simp only [od, Bool.and_eq_true] at h
    exact ⟨by omega, .inr ⟨by omega, h.1.1.1.1⟩⟩
  · rw [if_neg h5] at h
    unfold kd0 at h
    by_cases h1 : m.kind = 1
    · rw [if_pos h1] at h; exact ⟨by omega, .inl ⟨h1, h⟩⟩
    · rw [if_neg h1] at h
      by_cases h2 : m.kind = 2
      · rw [if_pos h2] at h
        simp only [mkk, Bool.and_eq_true] at h
        exact ⟨by omega, .inr ⟨h1, h.1.1⟩⟩
      · rw [if_neg h2] at h
        by_cases h3 : m.kind = 3
        · rw [if_pos h3] at h
          simp only [wn, mkk, Bool.and_eq_true] at h
          exact ⟨by omega, .inr ⟨h1, h.1.1.1⟩⟩
        · rw [if_neg h3] at h
          by_cases h4 : m.kind = 4
          · rw [if_pos h4] at h
            simp only [ch, Bool.and_eq_true] at h
            exact ⟨by omega, .inr ⟨h1, h.1.1⟩⟩
          · rw [if_neg h4] at h; cases h
theorem tx_parts {m : Ms} (h : tx m = true) : 1 ≤ m.parts ∧ m.parts ≤ 5 ∧ 0 ≤ m.part ∧ m.part < m.parts ∧ m.body.length ≤ 48 := by
  simp only [tx, Bool.and_eq_true, decide_eq_true_eq] at h
  omega
theorem sf_rng (b : Bool) : 0 ≤ sf b ∧ sf b ≤ 1 := by cases b <;> simp [sf]
/-- What may be has numbers that can be written. -/
theorem chk_nums {m : Ms} (h : chk m = 0) : Nums m.n8 ∧ Nums m.n4 := by
  obtain ⟨_, h2, h3⟩ := chk_parts h
  obtain ⟨o, l, i, g, k⟩ := hn_parts h2
  obtain ⟨d, e⟩ := kd_parts h3
  have c := ck_nums k
  have s := sf_rng m.safe
  have p : 0 ≤ m.part ∧ m.part ≤ 5 ∧ 0 ≤ m.parts ∧ m.parts ≤ 5 := by
    rcases e with ⟨_, e⟩ | ⟨_, e⟩
    · have := tx_parts e; omega
    · have := pln_parts e; omega
  constructor
  · intro x hx
    simp only [Ms.n8, List.mem_cons, List.not_mem_nil, or_false] at hx
    omega
  · intro x hx
    simp only [Ms.n4, List.mem_cons, List.not_mem_nil, or_false] at hx
    omega
/-- There and back. -/
theorem un_pk {m : Ms} (r : List Int) (h : chk m = 0) : prM (pk m ++ r) = m ∧ unE (pk m ++ r) = if r = [] then 0 else 4 := by
  obtain ⟨h1, _, _⟩ := chk_parts h
  obtain ⟨n8, n4⟩ := chk_nums h
  obtain ⟨e1, e2, e3⟩ := pr_pk m r n8 n4 h1
  refine ⟨e2, ?_⟩
  unfold unE
  rw [e1, e2, e3, h, if_neg (by simp)]
  by_cases hr : r = [] <;> simp [hr]
theorem un_pk0 {m : Ms} (h : chk m = 0) : prM (pk m) = m ∧ unE (pk m) = 0 := by
  have := un_pk [] h
  simpa using this
/-- Back and there. -/
theorem pk_un {b : List Int} (hr : ∀ c ∈ b, 0 ≤ c ∧ c ≤ 255) (h : unE b = 0) : pk (prM b) = b ∧ chk (prM b) = 0 := by
  obtain ⟨h1, h2, h3⟩ := un_parts h
  have := pr_back hr h1
  rw [h2, List.append_nil] at this
  exact ⟨this, h3⟩
theorem pk_rng (m : Ms) (hr : ∀ c ∈ m.body, 0 ≤ c ∧ c ≤ 255) : ∀ c ∈ pk m, 0 ≤ c ∧ c ≤ 255 :=
  rng_app (packs_rng _) (rng_app (packs_rng _) (rng_app (enc_rng _) hr))
theorem pk_len (m : Ms) : (pk m).length ≤ 104 + m.body.length := by
  have a := packs_len m.n8
  have b := packs_len m.n4
  have c := enc_len m.body.length
  have e1 : m.n8.length = 8 := rfl
  have e2 : m.n4.length = 4 := rfl
  simp only [pk, List.length_append]
  omega
/-- What may be, and is no MsgOld, has room in a body. -/
theorem room {m : Ms} (hr : ∀ c ∈ m.body, 0 ≤ c ∧ c ≤ 255) (h : chk m = 0) (hk : m.kind ≠ 5) : (pk m).length ≤ 160 := by
  obtain ⟨_, h2, h3⟩ := chk_parts h
  obtain ⟨o, l, i, g, k⟩ := hn_parts h2
  have c := ck_nums k
  obtain ⟨d, e⟩ := kd_parts h3
  rcases e with ⟨_, e⟩ | ⟨h1, e⟩
  · have := tx_parts e
    have := enc_small (x := m.body.length) (by omega)
    have a := packs_len m.n8
    have b := packs_len m.n4
    have e1 : m.n8.length = 8 := rfl
    have e2 : m.n4.length = 4 := rfl
    simp only [pk, List.length_append]
    omega
  · obtain ⟨p1, p2, p3, p4, p5⟩ := pln_parts e
    have hb : m.id = 0 ∧ m.body.length ≤ 49 := by
      rw [kd, if_neg hk, kd0, if_neg h1] at h3
      by_cases h2 : m.kind = 2
      · rw [if_pos h2] at h3
        simp only [mkk, Bool.and_eq_true, decide_eq_true_eq] at h3
        omega
      · rw [if_neg h2] at h3
        by_cases h3' : m.kind = 3
        · rw [if_pos h3'] at h3
          simp only [wn, mkk, Bool.and_eq_true, decide_eq_true_eq] at h3
          omega
        · rw [if_neg h3'] at h3
          by_cases h4 : m.kind = 4
          · rw [if_pos h4] at h3
            simp only [ch, Bool.and_eq_true, decide_eq_true_eq, beq_iff_eq] at h3
            refine ⟨h3.1.2, ?_⟩
            have hp := pl_parts h3.2
            have hq := (pl_back hr h3.2).1
            have hl := pls_len (plL m.body) 0 (by omega) hp.2.2.2.2
            have hN : (plL m.body).length ≤ 4 := by
              have := rpv_len _ _ hp.2.2.1
              have h2 := hp.2.1
              show (rpv (plN m.body).toNat (rdr 1 m.body)).length ≤ 4
              omega
            have hs := enc_small (x := (plL m.body).length) (by omega)
            rw [← hq]
            simp only [pkl, packs, List.length_append, List.length_nil, Int.toNat_natCast]
            omega
          · rw [if_neg h4] at h3; cases h3
    obtain ⟨hi, hb⟩ := hb
    have e0 := enc_small (x := m.kind.toNat) (by omega)
    have e1 := enc_small (x := m.origin.toNat) (by omega)
    have e2 := enc_small (x := 0) (by omega)
    have e3 := enc_len m.st.toNat
    have e4 := enc_len m.rs.toNat
    have e5 := enc_small (x := m.rr.toNat) (by omega)
    have e6 := enc_len m.sq.toNat
    have e7 := enc_small (x := m.body.length) (by omega)
    simp only [pk, packs, Ms.n8, Ms.n4, List.length_append, List.length_nil, hi, p1, p2, p3, p4, p5, sf, Int.toNat_zero, Bool.false_eq_true, if_false]
    omega
/-- Data sent again. -/
def od5 (s rs rr sq sn : Int) (m : Ms) : Ms := { kind := 5, origin := sn, life := 0, id := sn, part := 0, parts := 0, groups := 0, safe := false, st := s, rs := rs, rr := rr, sq := sq, body := pk m }
end Go.Proofs.YthiijonmnebjgaaGreat
