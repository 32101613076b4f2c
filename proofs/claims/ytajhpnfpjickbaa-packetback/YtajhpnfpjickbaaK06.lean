/- Plain: which messages may be, what is wrong with bytes that are none; that what is packed is unpacked as it was, that bytes that are a message are just those that it is packed into, and that what is no MsgOld has room in a body. No conditions beyond those in each statement; nothing of the program is named. What is said of memory here: a slice of ints that reads as a list, and which blocks a call may turn. No conditions; definitions and small laws on them. Crews as plain numbers below 512: which nodes, the list, the count, the next one; what bits make of any int. No conditions. -/
import Derived.Test.YtajhpnfpjickbaaK01
import Derived.Test.YtajhpnfpjickbaaK05
import Derived.WalkKit
import Derived.WalkSmall
import Derived.Deep.AppendLies
import Derived.Deep.Draws
namespace Go.Proofs.Ytajhpnfpjickbaa

/-- What the kinds but texts have not. -/
def pln (m : Ms) : Bool := decide (m.life = 0) && decide (m.part = 0) && decide (m.parts = 0) && decide (m.groups = 0) && !m.safe
def tx (m : Ms) : Bool := decide (1 ≤ m.parts) && decide (m.parts ≤ 5) && decide (0 ≤ m.part) && decide (m.part < m.parts) && decide (0 < m.groups) && decide (0 < m.life) && decide (m.body.length ≤ 48)
def mkk (m : Ms) : Bool := pln m && decide (m.id = 0) && decide (m.body.length = 0)
def wn (m : Ms) : Bool := mkk m && (decide (m.st = 0) && (decide (m.rs = 0) && (decide (m.rr = 0) && decide (m.sq = 0))))
def ch (m : Ms) : Bool := pln m && decide (m.id = 0) && (plE m.body == 0)
/-- What messages of all kinds have. -/
def hn (m : Ms) : Bool := nd m.origin && nm m.life && nm m.id && decide (0 ≤ m.groups) && decide (m.groups ≤ 255) && (ck m.st m.rs m.rr m.sq == 0)
/-- What its kind asks for, of all kinds but MsgOld. -/
def kd0 (m : Ms) : Bool := if m.kind = 1 then tx m else if m.kind = 2 then mkk m else if m.kind = 3 then wn m else if m.kind = 4 then ch m else false
def in0 (b : List Int) : Bool := decide (prE b = 0 ∧ prR b = []) && (decide ((prM b).body.length ≤ 160) && hn (prM b) && kd0 (prM b))
def od (m : Ms) : Bool := pln m && nd m.id && isr m.rs m.rr && decide (0 < m.sq) && in0 m.body
def kd (m : Ms) : Bool := if m.kind = 5 then od m else kd0 m
/-- Check's answer. -/
def chk (m : Ms) : Int := if 160 < m.body.length then 5 else if hn m && kd m then 0 else 2
/-- Unpack's error. -/
def unE (b : List Int) : Int := if prE b ≠ 0 then prE b else if ¬ (prR b = [] ∧ chk (prM b) = 0) then 4 else 0
theorem chk_parts {m : Ms} (h : chk m = 0) : m.body.length ≤ 160 ∧ hn m = true ∧ kd m = true := by
  unfold chk at h
  by_cases h1 : 160 < m.body.length
  · rw [if_pos h1] at h; omega
  · rw [if_neg h1] at h
    by_cases h2 : (hn m && kd m) = true
    · rw [Bool.and_eq_true] at h2
      exact ⟨by omega, h2⟩
    · rw [if_neg h2] at h; omega
theorem chk_of {m : Ms} (h1 : m.body.length ≤ 160) (h2 : hn m = true) (h3 : kd m = true) : chk m = 0 := by
  unfold chk
  rw [if_neg (by omega), if_pos (by rw [h2, h3]; rfl)]
theorem un_parts {b : List Int} (h : unE b = 0) : prE b = 0 ∧ prR b = [] ∧ chk (prM b) = 0 := by
  unfold unE at h
  by_cases h1 : prE b = 0
  · rw [if_neg (by simp [h1])] at h
    by_cases h2 : prR b = [] ∧ chk (prM b) = 0
    · exact ⟨h1, h2⟩
    · rw [if_pos h2] at h; omega
  · rw [if_pos h1] at h; exact absurd h h1
/-- Whether bytes are those of a message that is no MsgOld. -/
theorem in0_eq (b : List Int) : in0 b = ((unE b == 0) && ((prM b).kind != 5)) := by
  rw [Bool.eq_iff_iff]
  simp only [in0, Bool.and_eq_true, decide_eq_true_eq, beq_iff_eq, bne_iff_ne, ne_eq]
  constructor
  · rintro ⟨⟨h1, h2⟩, ⟨h3, h4⟩, h5⟩
    have hk : (prM b).kind ≠ 5 := by
      intro e
      rw [kd0, if_neg (by omega), if_neg (by omega), if_neg (by omega), if_neg (by omega)] at h5
      cases h5
    refine ⟨?_, hk⟩
    have hc : chk (prM b) = 0 := chk_of h3 h4 (by rw [kd, if_neg hk]; exact h5)
    unfold unE
    rw [if_neg (by simp [h1]), if_neg (by simp [h2, hc])]
  · rintro ⟨h, hk⟩
    obtain ⟨h1, h2, h3⟩ := un_parts h
    obtain ⟨a, b', c⟩ := chk_parts h3
    rw [kd, if_neg hk] at c
    exact ⟨⟨h1, h2⟩, ⟨a, b'⟩, c⟩
theorem ck_nums {s q r n : Int} (h : ck s q r n = 0) : 0 ≤ s ∧ s ≤ 9007199254740991 ∧ 0 ≤ n ∧ n ≤ 9007199254740991 ∧ 0 ≤ q ∧ q ≤ 9007199254740991 ∧ 0 ≤ r ∧ r ≤ 8 := by
  unfold ck at h
  by_cases h1 : nm s = true ∧ nm n = true
  · rw [if_pos h1] at h
    simp only [nm, decide_eq_true_eq] at h1
    unfold cr at h
    split at h
    · omega
    · omega
  · rw [if_neg h1] at h; omega
theorem hn_parts {m : Ms} (h : hn m = true) : (1 ≤ m.origin ∧ m.origin ≤ 8) ∧ (0 ≤ m.life ∧ m.life ≤ 9007199254740991) ∧ (0 ≤ m.id ∧ m.id ≤ 9007199254740991) ∧ (0 ≤ m.groups ∧ m.groups ≤ 255) ∧ ck m.st m.rs m.rr m.sq = 0 := by
  simp only [hn, nd, nm, Bool.and_eq_true, decide_eq_true_eq, beq_iff_eq] at h
  obtain ⟨⟨⟨⟨⟨h1, h2⟩, h3⟩, h4⟩, h5⟩, h6⟩ := h
  exact ⟨h1, h2, h3, ⟨h4, h5⟩, h6⟩
theorem pln_parts {m : Ms} (h : pln m = true) : m.life = 0 ∧ m.part = 0 ∧ m.parts = 0 ∧ m.groups = 0 ∧ m.safe = false := by
  simp only [pln, Bool.and_eq_true, decide_eq_true_eq, Bool.not_eq_true'] at h
  obtain ⟨⟨⟨⟨h1, h2⟩, h3⟩, h4⟩, h5⟩ := h
  exact ⟨h1, h2, h3, h4, h5⟩
theorem kd_parts {m : Ms} (h : kd m = true) : (1 ≤ m.kind ∧ m.kind ≤ 5) ∧ ((m.kind = 1 ∧ tx m = true) ∨ (m.kind ≠ 1 ∧ pln m = true)) := by
  unfold kd at h
  by_cases h5 : m.kind = 5
  · rw [if_pos h5] at h
    simp only [od, Bool.and_eq_true] at h
    exact ⟨by omega, .inr ⟨by omega, h.1.1.1.1⟩⟩
  · rw [if_neg h5] at h
    unfold kd0 at h
    by_cases h1 : m.kind = 1
    · rw [if_pos h1] at h; exact ⟨by omega, .inl ⟨h1, h⟩⟩
    · rw [if_neg h1] at h
      by_cases h2 : m.kind = 2
      · rw [if_pos h2] at h
        simp only [mkk, Bool.and_eq_true] at h
        exact ⟨by omega, .inr ⟨h1, h.1.1⟩⟩
      · rw [if_neg h2] at h
        by_cases h3 : m.kind = 3
        · rw [if_pos h3] at h
          simp only [wn, mkk, Bool.and_eq_true] at h
          exact ⟨by omega, .inr ⟨h1, h.1.1.1⟩⟩
        · rw [if_neg h3] at h
          by_cases h4 : m.kind = 4
          · rw [if_pos h4] at h
            simp only [ch, Bool.and_eq_true] at h
            exact ⟨by omega, .inr ⟨h1, h.1.1⟩⟩
          · rw [if_neg h4] at h; cases h
theorem tx_parts {m : Ms} (h : tx m = true) : 1 ≤ m.parts ∧ m.parts ≤ 5 ∧ 0 ≤ m.part ∧ m.part < m.parts ∧ m.body.length ≤ 48 := by
  simp only [tx, Bool.and_eq_true, decide_eq_true_eq] at h
  omega
theorem sf_rng (b : Bool) : 0 ≤ sf b ∧ sf b ≤ 1 := by cases b <;> simp [sf]
/-- What may be has numbers that can be written. -/
theorem chk_nums {m : Ms} (h : chk m = 0) : Nums m.n8 ∧ Nums m.n4 := by
  obtain ⟨_, h2, h3⟩ := chk_parts h
  obtain ⟨o, l, i, g, k⟩ := hn_parts h2
  obtain ⟨d, e⟩ := kd_parts h3
  have c := ck_nums k
  have s := sf_rng m.safe
  have p : 0 ≤ m.part ∧ m.part ≤ 5 ∧ 0 ≤ m.parts ∧ m.parts ≤ 5 := by
    rcases e with ⟨_, e⟩ | ⟨_, e⟩
    · have := tx_parts e; omega
    · have := pln_parts e; omega
  constructor
  · intro x hx
    simp only [Ms.n8, List.mem_cons, List.not_mem_nil, or_false] at hx
    omega
  · intro x hx
    simp only [Ms.n4, List.mem_cons, List.not_mem_nil, or_false] at hx
    omega
/-- There and back. -/
theorem un_pk {m : Ms} (r : List Int) (h : chk m = 0) : prM (pk m ++ r) = m ∧ unE (pk m ++ r) = if r = [] then 0 else 4 := by
  obtain ⟨h1, _, _⟩ := chk_parts h
  obtain ⟨n8, n4⟩ := chk_nums h
  obtain ⟨e1, e2, e3⟩ := pr_pk m r n8 n4 h1
  refine ⟨e2, ?_⟩
  unfold unE
  rw [e1, e2, e3, h, if_neg (by simp)]
  by_cases hr : r = [] <;> simp [hr]
theorem un_pk0 {m : Ms} (h : chk m = 0) : prM (pk m) = m ∧ unE (pk m) = 0 := by
  have := un_pk [] h
  simpa using this
/-- Back and there. -/
theorem pk_un {b : List Int} (hr : ∀ c ∈ b, 0 ≤ c ∧ c ≤ 255) (h : unE b = 0) : pk (prM b) = b ∧ chk (prM b) = 0 := by
  obtain ⟨h1, h2, h3⟩ := un_parts h
  have := pr_back hr h1
  rw [h2, List.append_nil] at this
  exact ⟨this, h3⟩
theorem pk_rng (m : Ms) (hr : ∀ c ∈ m.body, 0 ≤ c ∧ c ≤ 255) : ∀ c ∈ pk m, 0 ≤ c ∧ c ≤ 255 :=
  rng_app (packs_rng _) (rng_app (packs_rng _) (rng_app (enc_rng _) hr))
theorem pk_len (m : Ms) : (pk m).length ≤ 104 + m.body.length := by
  have a := packs_len m.n8
  have b := packs_len m.n4
  have c := enc_len m.body.length
  have e1 : m.n8.length = 8 := rfl
  have e2 : m.n4.length = 4 := rfl
  simp only [pk, List.length_append]
  omega
/-- What may be, and is no MsgOld, has room in a body. -/
theorem room {m : Ms} (hr : ∀ c ∈ m.body, 0 ≤ c ∧ c ≤ 255) (h : chk m = 0) (hk : m.kind ≠ 5) : (pk m).length ≤ 160 := by
  obtain ⟨_, h2, h3⟩ := chk_parts h
  obtain ⟨o, l, i, g, k⟩ := hn_parts h2
  have c := ck_nums k
  obtain ⟨d, e⟩ := kd_parts h3
  rcases e with ⟨_, e⟩ | ⟨h1, e⟩
  · have := tx_parts e
    have := enc_small (x := m.body.length) (by omega)
    have a := packs_len m.n8
    have b := packs_len m.n4
    have e1 : m.n8.length = 8 := rfl
    have e2 : m.n4.length = 4 := rfl
    simp only [pk, List.length_append]
    omega
  · obtain ⟨p1, p2, p3, p4, p5⟩ := pln_parts e
    have hb : m.id = 0 ∧ m.body.length ≤ 49 := by
      rw [kd, if_neg hk, kd0, if_neg h1] at h3
      by_cases h2 : m.kind = 2
      · rw [if_pos h2] at h3
        simp only [mkk, Bool.and_eq_true, decide_eq_true_eq] at h3
        omega
      · rw [if_neg h2] at h3
        by_cases h3' : m.kind = 3
        · rw [if_pos h3'] at h3
          simp only [wn, mkk, Bool.and_eq_true, decide_eq_true_eq] at h3
          omega
        · rw [if_neg h3'] at h3
          by_cases h4 : m.kind = 4
          · rw [if_pos h4] at h3
            simp only [ch, Bool.and_eq_true, decide_eq_true_eq, beq_iff_eq] at h3
            refine ⟨h3.1.2, ?_⟩
            have hp := pl_parts h3.2
            have hq := (pl_back hr h3.2).1
            have hl := pls_len (plL m.body) 0 (by omega) hp.2.2.2.2
            have hN : (plL m.body).length ≤ 4 := by
              have := rpv_len _ _ hp.2.2.1
              have h2 := hp.2.1
              show (rpv (plN m.body).toNat (rdr 1 m.body)).length ≤ 4
              omega
            have hs := enc_small (x := (plL m.body).length) (by omega)
            rw [← hq]
            simp only [pkl, packs, List.length_append, List.length_nil, Int.toNat_natCast]
            omega
          · rw [if_neg h4] at h3; cases h3
    obtain ⟨hi, hb⟩ := hb
    have e0 := enc_small (x := m.kind.toNat) (by omega)
    have e1 := enc_small (x := m.origin.toNat) (by omega)
    have e2 := enc_small (x := 0) (by omega)
    have e3 := enc_len m.st.toNat
    have e4 := enc_len m.rs.toNat
    have e5 := enc_small (x := m.rr.toNat) (by omega)
    have e6 := enc_len m.sq.toNat
    have e7 := enc_small (x := m.body.length) (by omega)
    simp only [pk, packs, Ms.n8, Ms.n4, List.length_append, List.length_nil, hi, p1, p2, p3, p4, p5, sf, Int.toNat_zero, Bool.false_eq_true, if_false]
    omega
/-- Data sent again. -/
def od5 (s rs rr sq sn : Int) (m : Ms) : Ms := { kind := 5, origin := sn, life := 0, id := sn, part := 0, parts := 0, groups := 0, safe := false, st := s, rs := rs, rr := rr, sq := sq, body := pk m }
end Go.Proofs.Ytajhpnfpjickbaa
namespace Go.Proofs.Ytajhpnfpjickbaa.Cr
open Go.RowKit

/-- Ints as cells. -/
def U (l : List Int) : List Value := l.map (Value.int .i64)
theorem U_len (l : List Int) : (U l).length = l.length := by simp [U]
theorem U_app (l m : List Int) : U (l ++ m) = U l ++ U m := by simp [U]
theorem U_get (l : List Int) (j : Nat) (h : j < l.length) : (U l)[j]? = some (.int .i64 (l.getD j 0)) := by
  simp [U, h]
theorem U_one (l : List Int) : ∀ u ∈ U l, u.oneCell' = true := by
  intro u hu
  obtain ⟨_, _, rfl⟩ := List.mem_map.1 hu
  rfl

/-- A slice that reads as the ints l. -/
def Sl (w : World) (v : Value) (l : List Int) : Prop :=
  ∃ ao cap, v = .slice ao l.length cap ∧ l.length ≤ cap ∧ cap ≤ maxLen ∧ (ao = none → cap = 0) ∧
    (l ≠ [] → ∃ b off, ao = some ⟨b, off, none⟩ ∧ ∀ j, j < l.length → w.cell? ⟨b, off + j, none⟩ = some (.int .i64 (l.getD j 0)))

theorem Sl.mod2 {S : Nat → Prop} {w w' : World} {v : Value} {l : List Int} (h : Sl w v l) (hm : Mod S w w') (hv : l ≠ [] → ∀ g, v.ownBlock = some g → ¬ S g) : Sl w' v l := by
  obtain ⟨ao, cap, rfl, h1, h2, h3, h4⟩ := h
  refine ⟨ao, cap, rfl, h1, h2, h3, fun hl => ?_⟩
  obtain ⟨b, off, rfl, hc⟩ := h4 hl
  exact ⟨b, off, rfl, fun j hj => hm.cell (hc j hj) (hv hl b rfl)⟩
theorem Sl.mod {S : Nat → Prop} {w w' : World} {v : Value} {l : List Int} (h : Sl w v l) (hm : Mod S w w') (hv : ∀ g, v.ownBlock = some g → ¬ S g) : Sl w' v l := h.mod2 hm fun _ => hv
theorem Sl.lt {w : World} {v : Value} {l : List Int} (h : Sl w v l) (hl : l ≠ []) : ∀ g, v.ownBlock = some g → g < w.heap.size := by
  obtain ⟨ao, cap, rfl, _, _, _, h4⟩ := h
  obtain ⟨b, off, rfl, hc⟩ := h4 hl
  intro g hg
  simp only [Value.ownBlock, Option.some.injEq] at hg
  subst hg
  have h0 : 0 < l.length := by cases l with | nil => exact absurd rfl hl | cons _ _ => simp
  exact World.block_lt_of_cell? w _ (hc 0 h0)

/-- A slice that the call itself has made. -/
def Own (w : World) (v : Value) (l : List Int) : Prop := w.ownsRow 0 3 1 v l.length (U l)

theorem Own.sl {w : World} {v : Value} {l : List Int} (h : Own w v l) : Sl w v l := by
  rcases h.2 with ⟨rfl, h0⟩ | ⟨g, cap, cur, rfl, hb, hg, hn, hcm, hcs, ht⟩
  · exact ⟨none, 0, by rw [h0], by omega, by simp [maxLen], fun _ => rfl, fun hl => absurd (List.eq_nil_of_length_eq_zero h0) hl⟩
  · refine ⟨some ⟨g, 0, none⟩, cap, rfl, hn, hcm, (by intro h; cases h), fun _ => ⟨g, 0, rfl, fun j hj => ?_⟩⟩
    have := World.ownsRow.cellAt h j (by omega)
    rw [Nat.zero_add, this]
    exact U_get l j hj
theorem Own.mod {S : Nat → Prop} {w w' : World} {v : Value} {l : List Int} (h : Own w v l) (hm : Mod S w w') (hv : ∀ g, v.ownBlock = some g → ¬ S g) : Own w' v l := by
  obtain ⟨h1, h2⟩ := h
  refine ⟨h1, ?_⟩
  rcases h2 with h2 | ⟨g, cap, cur, rfl, hb, hg, r⟩
  · exact Or.inl h2
  · exact Or.inr ⟨g, cap, cur, rfl, hb, hm.obj hg (hv g rfl), r⟩

theorem Own.nil (w : World) : Own w (.slice none 0 0) [] := World.ownsRow_nil _ _ _ _

theorem Own.lt {w : World} {v : Value} {l : List Int} (h : Own w v l) : ∀ g, v.ownBlock = some g → g < w.heap.size := fun g hg => (World.ownsRow.lt h g hg).2

theorem Own.shape {w : World} {v : Value} {l : List Int} (h : Own w v l) : ∃ ao cap, v = .slice ao l.length cap := by
  rcases h.2 with ⟨rfl, h0⟩ | ⟨g, cap, cur, rfl, _⟩
  · exact ⟨none, 0, by rw [h0]⟩
  · exact ⟨_, cap, rfl⟩

/-- Its block holds ints. -/
theorem Own.kind {w : World} {v : Value} {l : List Int} (h : Own w v l) {g : Nat} (hg : v.ownBlock = some g) : ∃ cur, w.heap[g]? = some (.cells cur 3 (0, 0)) := by
  rcases h.2 with ⟨rfl, _⟩ | ⟨g', cap, cur, rfl, hb, hh, _⟩
  · simp [Value.ownBlock] at hg
  · simp only [Value.ownBlock, Option.some.injEq] at hg
    subst hg
    exact ⟨cur, hh⟩

/-- What is behind an append: the old block, or a new one. -/
def Fr (w : World) (v v' : Value) : Prop := ∀ g, v'.ownBlock = some g → v.ownBlock = some g ∨ w.heap.size ≤ g
theorem Fr.refl (w : World) (v : Value) : Fr w v v := fun _ h => .inl h
theorem Fr.trans {w w1 : World} {v v1 v2 : Value} (h : Fr w v v1) (k : Fr w1 v1 v2) (hs : w.heap.size ≤ w1.heap.size) : Fr w v v2 := fun g hg => by
  rcases k g hg with h1 | h1
  · exact h g h1
  · exact .inr (by omega)

/-- Ints that were just laid. -/
theorem Own.lit (w : World) (l : List Int) (hm : l.length ≤ maxLen) : Own (w.alloc (.cells (U l).toArray 3)) (.slice (some ⟨w.heap.size, 0, none⟩) l.length l.length) l :=
  ⟨by simp [U], .inr ⟨w.heap.size, l.length, (U l).toArray, rfl, Nat.zero_le _, heap_alloc_new w _, Nat.le_refl _, hm, by simp [U], by rw [Nat.mul_one, List.take_of_length_le (by simp [U])]⟩⟩
end Go.Proofs.Ytajhpnfpjickbaa.Cr
namespace Go.Proofs.Ytajhpnfpjickbaa.Cr
open Go.RowKit

/-- The nine lowest bits. -/
def lo (c : Int) : Nat := (c % 512).toNat
theorem lo_lt (c : Int) : lo c < 512 := by unfold lo; omega
theorem lo_int (c : Int) : (lo c : Int) = c % 512 := by unfold lo; omega
/-- Whether n is a node, and in m. -/
def hs (m n : Nat) : Bool := Nat.ble 1 n && (Nat.ble n 8 && m.testBit n)
def node (n : Int) : Bool := decide (1 ≤ n) && decide (n < 9)
def has (c n : Int) : Bool := node n && hs (lo c) n.toNat
/-- The nodes of m below k. -/
def lsk (m : Nat) : Nat → List Int
  | 0 => []
  | k + 1 => if hs m k then lsk m k ++ [(k : Int)] else lsk m k
def ls (m : Nat) : List Int := lsk m 9
def cn (m : Nat) : Nat := (ls m).length
/-- The least node of m above n, of the last f numbers ahead of 9. -/
def abf (m : Nat) (n : Int) : Nat → Nat
  | 0 => 0
  | f + 1 => if decide (n < ((8 - f : Nat) : Int)) && hs m (8 - f) then 8 - f else abf m n f
def ab (m : Nat) (n : Int) : Nat := abf m n 9
def nx (m : Nat) (n : Int) : Nat := if ab m n = 0 then ab m 0 else ab m n
/-- The crew of l, behind a. -/
def off : Nat → List Int → Option Nat
  | a, [] => some a
  | a, n :: l => if node n then off (a ||| 2 ^ n.toNat) l else none
def chk (c : Int) : Int := if ((lo c &&& 510 : Nat) : Int) = c then 0 else 2

theorem hs_big (m n : Nat) (h : 9 ≤ n) : hs m n = false := by
  have : Nat.ble n 8 = false := by rw [Bool.eq_false_iff]; intro e; have := Nat.le_of_ble_eq_true e; omega
  simp [hs, this]
theorem hs_pos {m n : Nat} (h : hs m n = true) : 1 ≤ n ∧ n ≤ 8 := by
  simp only [hs, Bool.and_eq_true, Nat.ble_eq] at h
  exact ⟨h.1, h.2.1⟩

/-- Bits of any number with a small one. -/
theorem and_nat (x : Int) (y : Nat) (hy : y < 2 ^ 63) : bits .and .i64 x y = (((x % 2 ^ 64).toNat &&& y : Nat) : Int) := by
  have e : ((BitVec.ofInt 64 x &&& BitVec.ofInt 64 (y : Int)).toNat) = (x % 2 ^ 64).toNat &&& y := by
    rw [BitVec.toNat_and, BitVec.toNat_ofInt, BitVec.toNat_ofInt]
    congr 1
    omega
  have hle : (x % 2 ^ 64).toNat &&& y ≤ y := Nat.and_le_right
  show IntKind.i64.wrap ((BitVec.ofInt 64 x &&& BitVec.ofInt 64 (y : Int)).toNat : Nat) = _
  rw [e, IntKind.wrap_i64]
  omega
theorem and_lo (x : Int) (y : Nat) (hy : y < 512) : bits .and .i64 x y = ((lo x &&& y : Nat) : Int) := by
  rw [and_nat x y (by omega)]
  have e : (x % 2 ^ 64).toNat % 512 = lo x := by unfold lo; omega
  have h1 : y = 511 &&& y := by
    have := Nat.and_two_pow_sub_one_of_lt_two_pow (x := y) (n := 9) (by omega)
    rw [Nat.and_comm]
    exact this.symm
  have h2 : (x % 2 ^ 64).toNat &&& 511 = (x % 2 ^ 64).toNat % 512 := Nat.and_two_pow_sub_one_eq_mod _ 9
  rw [h1, ← Nat.and_assoc, h2, e]
  rw [← h1]
theorem bit_fact : ∀ m : Fin 512, ∀ n : Fin 9, (decide (m.val / 2 ^ n.val % 2 = 1) = m.val.testBit n.val) ∧ ((m.val &&& 2 ^ n.val != 0) = m.val.testBit n.val) := by decide +kernel
theorem shr_bit (c n : Int) (h1 : 1 ≤ n) (h2 : n < 9) : (bits .and .i64 (c / 2 ^ n.toNat) 1 == 1) = hs (lo c) n.toNat := by
  have e : bits .and .i64 (c / 2 ^ n.toNat) 1 = ((lo (c / 2 ^ n.toNat) &&& 1 : Nat) : Int) := and_lo _ 1 (by omega)
  rw [e, Nat.and_one_is_mod]
  have hb := (bit_fact ⟨lo c, lo_lt c⟩ ⟨n.toNat, by omega⟩).1
  simp only at hb
  have hn : Nat.ble 1 n.toNat = true := by rw [Nat.ble_eq]; omega
  have hm : Nat.ble n.toNat 8 = true := by rw [Nat.ble_eq]; omega
  rw [hs, hn, hm, Bool.true_and, Bool.true_and, ← hb]
  have key : (lo (c / 2 ^ n.toNat)) % 2 = lo c / 2 ^ n.toNat % 2 := by
    obtain ⟨k, hk⟩ : ∃ k, k = n.toNat := ⟨_, rfl⟩
    rw [← hk]
    have : k = 1 ∨ k = 2 ∨ k = 3 ∨ k = 4 ∨ k = 5 ∨ k = 6 ∨ k = 7 ∨ k = 8 := by omega
    unfold lo
    rcases this with rfl | rfl | rfl | rfl | rfl | rfl | rfl | rfl <;> omega
  rw [key]
  by_cases h : lo c / 2 ^ n.toNat % 2 = 1
  · simp [h]
  · have : lo c / 2 ^ n.toNat % 2 = 0 := by omega
    simp [this]
theorem and_bit (c n : Int) (h1 : 1 ≤ n) (h2 : n < 9) : (bits .and .i64 c ((2 ^ n.toNat : Nat) : Int) != 0) = hs (lo c) n.toNat := by
  have hp : 2 ^ n.toNat < 512 := by
    have : 2 ^ n.toNat ≤ 2 ^ 8 := Nat.pow_le_pow_right (by omega) (by omega)
    omega
  rw [and_lo _ _ hp]
  have hb := (bit_fact ⟨lo c, lo_lt c⟩ ⟨n.toNat, by omega⟩).2
  have hn : Nat.ble 1 n.toNat = true := by rw [Nat.ble_eq]; omega
  have hm : Nat.ble n.toNat 8 = true := by rw [Nat.ble_eq]; omega
  rw [hs, hn, hm, Bool.true_and, Bool.true_and, ← hb]
  by_cases h : lo c &&& 2 ^ n.toNat = 0
  · simp [h]
  · have h' : ((lo c &&& 2 ^ n.toNat : Nat) : Int) ≠ 0 := by omega
    rw [bne_iff_ne.2 h', bne_iff_ne.2 h]
theorem andNot_zero (a b : BitVec 64) : a &&& ~~~b = 0 ↔ a &&& b = a := by
  constructor
  · intro h
    apply BitVec.eq_of_getLsbD_eq
    intro i hi
    have := congrArg (fun x => x.getLsbD i) h
    simp only [BitVec.getLsbD_and, BitVec.getLsbD_not] at this ⊢
    simp [hi] at this
    cases h1 : a.getLsbD i <;> cases h2 : b.getLsbD i <;> simp_all
  · intro h
    apply BitVec.eq_of_getLsbD_eq
    intro i hi
    have := congrArg (fun x => x.getLsbD i) h
    simp only [BitVec.getLsbD_and, BitVec.getLsbD_not] at this ⊢
    cases h1 : a.getLsbD i <;> cases h2 : b.getLsbD i <;> simp_all
theorem wrap_zero (n : Nat) (h : n < 2 ^ 64) : IntKind.i64.wrap (n : Int) = 0 ↔ n = 0 := by
  rw [IntKind.wrap_i64]
  omega
theorem wrap_inj (a : BitVec 64) (c : Int) (h : IntKind.i64.wrap (a.toNat : Int) = c) : a = BitVec.ofInt 64 c := by
  apply BitVec.eq_of_toNat_eq
  rw [BitVec.toNat_ofInt]
  rw [IntKind.wrap_i64] at h
  have := a.isLt
  omega
theorem wrap_of (c : Int) (hc : -9223372036854775808 ≤ c ∧ c ≤ 9223372036854775807) : IntKind.i64.wrap ((BitVec.ofInt 64 c).toNat : Int) = c := by
  rw [IntKind.wrap_i64, BitVec.toNat_ofInt]
  omega
theorem chk_eq (c : Int) (hc : -9223372036854775808 ≤ c ∧ c ≤ 9223372036854775807) : (bits .andNot .i64 c 510 != 0) = !decide (((lo c &&& 510 : Nat) : Int) = c) := by
  have e : bits .andNot .i64 c 510 = IntKind.i64.wrap ((BitVec.ofInt 64 c &&& ~~~(BitVec.ofInt 64 510)).toNat : Nat) := rfl
  have e2 : bits .and .i64 c 510 = IntKind.i64.wrap ((BitVec.ofInt 64 c &&& (BitVec.ofInt 64 510)).toNat : Nat) := rfl
  have e3 : bits .and .i64 c 510 = ((lo c &&& 510 : Nat) : Int) := and_lo c 510 (by omega)
  have k : bits .andNot .i64 c 510 = 0 ↔ ((lo c &&& 510 : Nat) : Int) = c := by
    rw [← e3, e, e2, wrap_zero _ (BitVec.isLt _)]
    constructor
    · intro h
      have h' : BitVec.ofInt 64 c &&& ~~~(BitVec.ofInt 64 510) = 0 := by apply BitVec.eq_of_toNat_eq; rw [h]; rfl
      rw [(andNot_zero _ _).1 h', wrap_of c hc]
    · intro h
      have h' := (andNot_zero _ _).2 (wrap_inj _ c h)
      rw [h']
      rfl
  by_cases h : bits .andNot .i64 c 510 = 0
  · simp [h, k.1 h]
  · have := mt k.2 h
    simp [h, this]

/-- The lowest bits of what is joined, or common, or turned. -/
theorem lo_bits (x : BitVec 64) : lo (IntKind.i64.wrap (x.toNat : Int)) = x.toNat % 512 := by
  rw [IntKind.wrap_i64]
  unfold lo
  have := x.isLt
  omega
theorem lo_of (c : Int) : (BitVec.ofInt 64 c).toNat % 512 = lo c := by
  rw [BitVec.toNat_ofInt]
  unfold lo
  omega
theorem lo_or (a b : Int) : lo (bits .or .i64 a b) = lo a ||| lo b := by
  have e : bits .or .i64 a b = IntKind.i64.wrap ((BitVec.ofInt 64 a ||| BitVec.ofInt 64 b).toNat : Nat) := rfl
  rw [e, lo_bits, BitVec.toNat_or, ← lo_of a, ← lo_of b]
  exact Nat.or_mod_two_pow (n := 9)
theorem lo_and (a b : Int) : lo (bits .and .i64 a b) = lo a &&& lo b := by
  have e : bits .and .i64 a b = IntKind.i64.wrap ((BitVec.ofInt 64 a &&& BitVec.ofInt 64 b).toNat : Nat) := rfl
  rw [e, lo_bits, BitVec.toNat_and, ← lo_of a, ← lo_of b]
  exact Nat.and_mod_two_pow (n := 9)
theorem or_nat (a b : Nat) (ha : a < 512) (hb : b < 512) : bits .or .i64 a b = ((a ||| b : Nat) : Int) := by
  have e : bits .or .i64 a b = IntKind.i64.wrap ((BitVec.ofInt 64 a ||| BitVec.ofInt 64 b).toNat : Nat) := rfl
  have e2 : ((BitVec.ofInt 64 (a : Int) ||| BitVec.ofInt 64 (b : Int)).toNat) = a ||| b := by
    rw [BitVec.toNat_or, BitVec.toNat_ofInt, BitVec.toNat_ofInt]
    congr 1 <;> omega
  have : a ||| b < 2 ^ 9 := Nat.or_lt_two_pow (by omega) (by omega)
  rw [e, e2, IntKind.wrap_i64]
  omega
end Go.Proofs.Ytajhpnfpjickbaa.Cr
