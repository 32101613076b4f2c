/- Plain: numbers read and written one behind the other, octets; messages and places as bytes, and which may be. No conditions beyond those in each statement; nothing of the program is named. -/
import Derived.Test.YtampdkbcijdpcaaKb
namespace Go.Proofs.Ytampdkbcijdpcaa

/-- Numbers written one behind the other. -/
def packs : List Int → List Int
  | [] => []
  | x :: l => enc x.toNat ++ packs l
theorem packs_app (l m : List Int) : packs (l ++ m) = packs l ++ packs m := by
  induction l with
  | nil => rfl
  | cons x l ih => simp [packs, ih]
theorem packs_rng : ∀ l : List Int, ∀ c ∈ packs l, 0 ≤ c ∧ c ≤ 255
  | [] => by simp [packs]
  | x :: l => rng_app (enc_rng _) (packs_rng l)
theorem packs_len : ∀ l : List Int, (packs l).length ≤ 8 * l.length
  | [] => by simp [packs]
  | x :: l => by
    have := enc_len x.toNat
    have := packs_len l
    simp [packs]; omega
/-- What may be written. -/
def Nums (l : List Int) : Prop := ∀ x ∈ l, 0 ≤ x ∧ x ≤ 9007199254740991

/-- n numbers, read one behind the other: those up to the first error; the error; what is left. -/
def rdv : Nat → List Int → List Int
  | 0, _ => []
  | n + 1, l => if (num 0 0 l).2.2 = 0 then (num 0 0 l).1 :: rdv n (l.drop (num 0 0 l).2.1.toNat) else []
def rde : Nat → List Int → Int
  | 0, _ => 0
  | n + 1, l => if (num 0 0 l).2.2 = 0 then rde n (l.drop (num 0 0 l).2.1.toNat) else (num 0 0 l).2.2
def rdr : Nat → List Int → List Int
  | 0, l => l
  | n + 1, l => if (num 0 0 l).2.2 = 0 then rdr n (l.drop (num 0 0 l).2.1.toNat) else l
theorem rdv_nums : ∀ n l, Nums (rdv n l)
  | 0, _ => by simp [rdv, Nums]
  | n + 1, l => by
    unfold rdv
    by_cases h : (num 0 0 l).2.2 = 0
    · rw [if_pos h]
      have hv := num_val l 0 0
      intro x hx
      rcases List.mem_cons.1 hx with rfl | hx
      · omega
      · exact rdv_nums n _ x hx
    · rw [if_neg h]; simp [Nums]
theorem rdv_len : ∀ n l, rde n l = 0 → (rdv n l).length = n
  | 0, _, _ => rfl
  | n + 1, l, h => by
    unfold rde at h
    unfold rdv
    by_cases h1 : (num 0 0 l).2.2 = 0
    · rw [if_pos h1] at h ⊢
      simp [rdv_len n _ h]
    · rw [if_neg h1] at h; exact absurd h h1
theorem rdv_le : ∀ n l, (rdv n l).length ≤ n
  | 0, _ => by simp [rdv]
  | n + 1, l => by
    unfold rdv
    split
    · simp; exact rdv_le n _
    · simp
theorem rdr_mem : ∀ n l, ∀ c ∈ rdr n l, c ∈ l
  | 0, _ => fun _ h => h
  | n + 1, l => by
    unfold rdr
    split
    · intro c hc
      exact List.mem_of_mem_drop (rdr_mem n _ c hc)
    · exact fun _ h => h
theorem rdr_len : ∀ n l, rde n l = 0 → (rdr n l).length + n ≤ l.length
  | 0, _, _ => by simp [rdr]
  | n + 1, l, h => by
    unfold rde at h
    unfold rdr
    by_cases h1 : (num 0 0 l).2.2 = 0
    · rw [if_pos h1] at h ⊢
      have := rdr_len n _ h
      have hv := num_val l 0 0
      have hz := num_size l 0 0
      rw [List.length_drop] at this
      omega
    · rw [if_neg h1] at h; exact absurd h h1
theorem rde_err : ∀ n l, rde n l = 0 ∨ rde n l = 3 ∨ rde n l = 4
  | 0, _ => .inl rfl
  | n + 1, l => by
    unfold rde
    split
    · exact rde_err n _
    · have := num_val l 0 0; omega
theorem num_front (l : List Int) (hr : ∀ c ∈ l, 0 ≤ c ∧ c ≤ 255) (h : (num 0 0 l).2.2 = 0) : enc (num 0 0 l).1.toNat = l.take (num 0 0 l).2.1.toNat := by
  obtain ⟨y, h1, h2, _⟩ := num_back l 0 0 (by omega) hr h
  have : (num 0 0 l).1.toNat = y := by rw [h1]; simp
  rw [this]
  simpa [enc] using h2
theorem rd_back : ∀ n l, (∀ c ∈ l, 0 ≤ c ∧ c ≤ 255) → rde n l = 0 → packs (rdv n l) ++ rdr n l = l
  | 0, _, _, _ => rfl
  | n + 1, l, hr, h => by
    unfold rde at h
    unfold rdv rdr
    by_cases h1 : (num 0 0 l).2.2 = 0
    · rw [if_pos h1] at h ⊢
      rw [if_pos h1, packs, List.append_assoc, rd_back n _ (fun c hc => hr c (List.mem_of_mem_drop hc)) h, num_front l hr h1, List.take_append_drop]
    · rw [if_neg h1] at h; exact absurd h h1
theorem rd_packs : ∀ (vs r : List Int), Nums vs → rdv vs.length (packs vs ++ r) = vs ∧ rde vs.length (packs vs ++ r) = 0 ∧ rdr vs.length (packs vs ++ r) = r
  | [], r, _ => ⟨rfl, rfl, rfl⟩
  | x :: vs, r, h => by
    have hx := h x (by simp)
    have ih := rd_packs vs r (fun y hy => h y (by simp [hy]))
    have hn := num_enc0 x.toNat (packs vs ++ r) (by omega)
    rw [packs, List.append_assoc, List.length_cons]
    unfold rdv rde rdr
    rw [hn, if_pos rfl, if_pos rfl, if_pos rfl]
    dsimp only
    rw [Int.toNat_natCast, List.drop_left]
    refine ⟨?_, ih.2.1, ih.2.2⟩
    rw [ih.1, Int.toNat_of_nonneg hx.1]
theorem rd_packs' (n : Nat) (vs r : List Int) (hl : vs.length = n) (h : Nums vs) : rdv n (packs vs ++ r) = vs ∧ rde n (packs vs ++ r) = 0 ∧ rdr n (packs vs ++ r) = r := by
  subst hl; exact rd_packs vs r h

/-- Octets: the bytes, and what is left. -/
def obody (l : List Int) : List Int := (l.drop (num 0 0 l).2.1.toNat).take (num 0 0 l).1.toNat
def orest (l : List Int) : List Int := l.drop ((num 0 0 l).2.1.toNat + (num 0 0 l).1.toNat)
theorem oct_parts {most : Int} {l : List Int} (h : octE most l = 0) : (num 0 0 l).2.2 = 0 ∧ (num 0 0 l).1 ≤ most ∧ (num 0 0 l).1 ≤ (l.length : Int) - (num 0 0 l).2.1 := by
  unfold octE at h
  by_cases h1 : (num 0 0 l).2.2 = 0
  · rw [if_neg (by simp [h1])] at h
    by_cases h2 : most < (num 0 0 l).1
    · rw [if_pos h2] at h; omega
    · rw [if_neg h2] at h
      by_cases h3 : (l.length : Int) - (num 0 0 l).2.1 < (num 0 0 l).1
      · rw [if_pos h3] at h; omega
      · exact ⟨h1, by omega, by omega⟩
  · rw [if_pos h1] at h; exact absurd h h1
theorem obody_len {most : Int} {l : List Int} (h : octE most l = 0) : ((obody l).length : Int) = (num 0 0 l).1 ∧ (obody l).length + 1 ≤ l.length := by
  obtain ⟨h1, h2, h3⟩ := oct_parts h
  have hv := num_val l 0 0
  have hz := num_size l 0 0
  unfold obody
  rw [List.length_take, List.length_drop]
  omega
theorem oct_back {most : Int} {l : List Int} (hr : ∀ c ∈ l, 0 ≤ c ∧ c ≤ 255) (h : octE most l = 0) : enc (obody l).length ++ (obody l ++ orest l) = l := by
  obtain ⟨h1, h2, h3⟩ := oct_parts h
  have hb := (obody_len h).1
  have e : (obody l).length = (num 0 0 l).1.toNat := by omega
  rw [e, num_front l hr h1]
  unfold obody orest
  rw [← List.drop_drop, List.take_append_drop, List.take_append_drop]
theorem oct_enc {most : Int} (body r : List Int) (hm : (body.length : Int) ≤ most) (hb : body.length ≤ 9007199254740991) :
    octE most (enc body.length ++ (body ++ r)) = 0 ∧ obody (enc body.length ++ (body ++ r)) = body ∧ orest (enc body.length ++ (body ++ r)) = r := by
  have hn := num_enc0 body.length (body ++ r) hb
  unfold octE obody orest
  rw [hn]
  dsimp only
  refine ⟨?_, ?_, ?_⟩
  · rw [if_neg (by simp), if_neg (by omega), if_neg (by simp; omega)]
  · simp
  · rw [Int.toNat_natCast, Int.toNat_natCast, ← List.drop_drop, List.drop_left, List.drop_left]
theorem obody_mem {l : List Int} : ∀ c ∈ obody l, c ∈ l := fun _ hc => List.mem_of_mem_drop (List.mem_of_mem_take hc)

/-- A message. -/
structure Ms where
  kind : Int
  origin : Int
  life : Int
  id : Int
  part : Int
  parts : Int
  groups : Int
  safe : Bool
  st : Int
  rs : Int
  rr : Int
  sq : Int
  body : List Int
def sf (b : Bool) : Int := if b then 1 else 0
def Ms.n8 (m : Ms) : List Int := [m.kind, m.origin, m.life, m.id, m.part, m.parts, m.groups, sf m.safe]
def Ms.n4 (m : Ms) : List Int := [m.st, m.rs, m.rr, m.sq]
/-- Its bytes. -/
def pk (m : Ms) : List Int := packs m.n8 ++ (packs m.n4 ++ (enc m.body.length ++ m.body))
/-- What is read of bytes: the error, the message, what is left. -/
def prE (b : List Int) : Int := if rde 8 b ≠ 0 then rde 8 b else if 1 < (rdv 8 b).getD 7 0 then 4 else if rde 4 (rdr 8 b) ≠ 0 then rde 4 (rdr 8 b) else octE 160 (rdr 4 (rdr 8 b))
def prM (b : List Int) : Ms :=
  { kind := (rdv 8 b).getD 0 0, origin := (rdv 8 b).getD 1 0, life := (rdv 8 b).getD 2 0, id := (rdv 8 b).getD 3 0, part := (rdv 8 b).getD 4 0, parts := (rdv 8 b).getD 5 0, groups := (rdv 8 b).getD 6 0,
    safe := decide ((rdv 8 b).getD 7 0 = 1), st := (rdv 4 (rdr 8 b)).getD 0 0, rs := (rdv 4 (rdr 8 b)).getD 1 0, rr := (rdv 4 (rdr 8 b)).getD 2 0, sq := (rdv 4 (rdr 8 b)).getD 3 0, body := obody (rdr 4 (rdr 8 b)) }
def prR (b : List Int) : List Int := orest (rdr 4 (rdr 8 b))
theorem pr_parts {b : List Int} (h : prE b = 0) : rde 8 b = 0 ∧ (rdv 8 b).getD 7 0 ≤ 1 ∧ rde 4 (rdr 8 b) = 0 ∧ octE 160 (rdr 4 (rdr 8 b)) = 0 := by
  unfold prE at h
  by_cases h1 : rde 8 b = 0
  · rw [if_neg (by simp [h1])] at h
    by_cases h2 : 1 < (rdv 8 b).getD 7 0
    · rw [if_pos h2] at h; omega
    · rw [if_neg h2] at h
      by_cases h3 : rde 4 (rdr 8 b) = 0
      · rw [if_neg (by simp [h3])] at h
        exact ⟨h1, by omega, h3, h⟩
      · rw [if_pos h3] at h; exact absurd h h3
  · rw [if_pos h1] at h; exact absurd h h1
theorem list8 (l : List Int) (h : l.length = 8) : l = [l.getD 0 0, l.getD 1 0, l.getD 2 0, l.getD 3 0, l.getD 4 0, l.getD 5 0, l.getD 6 0, l.getD 7 0] := by
  match l, h with
  | [_, _, _, _, _, _, _, _], _ => rfl
theorem list4 (l : List Int) (h : l.length = 4) : l = [l.getD 0 0, l.getD 1 0, l.getD 2 0, l.getD 3 0] := by
  match l, h with
  | [_, _, _, _], _ => rfl
theorem nums_getD {l : List Int} (h : Nums l) (k : Nat) : 0 ≤ l.getD k 0 ∧ l.getD k 0 ≤ 9007199254740991 := by
  by_cases hk : k < l.length
  · exact h _ (getD_mem hk)
  · rw [List.getD_eq_getElem?_getD, List.getElem?_eq_none (by omega)]; simp
theorem pr_n8 {b : List Int} (h : prE b = 0) : (prM b).n8 = rdv 8 b := by
  obtain ⟨h1, h2, _, _⟩ := pr_parts h
  have e := list8 _ (rdv_len 8 b h1)
  have hn := nums_getD (rdv_nums 8 b) 7
  have : sf (decide ((rdv 8 b).getD 7 0 = 1)) = (rdv 8 b).getD 7 0 := by
    by_cases h7 : (rdv 8 b).getD 7 0 = 1
    · rw [h7]; rfl
    · rw [show decide ((rdv 8 b).getD 7 0 = 1) = false from by simp only [decide_eq_false_iff_not]; exact h7]
      show 0 = _; omega
  unfold Ms.n8 prM
  dsimp only
  rw [this]
  exact e.symm
theorem pr_n4 {b : List Int} (h : prE b = 0) : (prM b).n4 = rdv 4 (rdr 8 b) := (list4 _ (rdv_len 4 _ (pr_parts h).2.2.1)).symm
theorem pr_back {b : List Int} (hr : ∀ c ∈ b, 0 ≤ c ∧ c ≤ 255) (h : prE b = 0) : pk (prM b) ++ prR b = b := by
  obtain ⟨h1, h2, h3, h4⟩ := pr_parts h
  have r1 : ∀ c ∈ rdr 8 b, 0 ≤ c ∧ c ≤ 255 := fun c hc => hr c (rdr_mem 8 b c hc)
  have r2 : ∀ c ∈ rdr 4 (rdr 8 b), 0 ≤ c ∧ c ≤ 255 := fun c hc => r1 c (rdr_mem 4 _ c hc)
  have o := oct_back r2 h4
  unfold pk
  rw [pr_n8 h, pr_n4 h, List.append_assoc, List.append_assoc, List.append_assoc]
  rw [show (prM b).body = obody (rdr 4 (rdr 8 b)) from rfl, show prR b = orest (rdr 4 (rdr 8 b)) from rfl, o, rd_back 4 _ r1 h3, rd_back 8 _ hr h1]
theorem pr_len {b : List Int} (h : prE b = 0) : (prM b).body.length + 13 ≤ b.length ∧ (prM b).body.length ≤ 160 := by
  obtain ⟨h1, h2, h3, h4⟩ := pr_parts h
  have l1 := rdr_len 8 b h1
  have l2 := rdr_len 4 _ h3
  have l3 := obody_len h4
  have l4 := oct_parts h4
  rw [show (prM b).body = obody (rdr 4 (rdr 8 b)) from rfl]
  omega
theorem pr_mem (b : List Int) : ∀ c ∈ (prM b).body, c ∈ b := fun c hc => rdr_mem 8 b c (rdr_mem 4 _ c (obody_mem c hc))
theorem pr_pk (m : Ms) (r : List Int) (h8 : Nums m.n8) (h4 : Nums m.n4) (hb : m.body.length ≤ 160) : prE (pk m ++ r) = 0 ∧ prM (pk m ++ r) = m ∧ prR (pk m ++ r) = r := by
  have e : pk m ++ r = packs m.n8 ++ (packs m.n4 ++ (enc m.body.length ++ (m.body ++ r))) := by simp [pk]
  obtain ⟨a1, a2, a3⟩ := rd_packs' 8 m.n8 (packs m.n4 ++ (enc m.body.length ++ (m.body ++ r))) rfl h8
  obtain ⟨b1, b2, b3⟩ := rd_packs' 4 m.n4 (enc m.body.length ++ (m.body ++ r)) rfl h4
  obtain ⟨c1, c2, c3⟩ := oct_enc (most := 160) m.body r (by omega) (by omega)
  have hs : sf m.safe ≤ 1 := by unfold sf; split <;> omega
  have hs2 : decide (sf m.safe = 1) = m.safe := by cases m.safe <;> rfl
  refine ⟨?_, ?_, ?_⟩
  · unfold prE
    rw [e, a1, a2, a3, b2, b3, c1, if_neg (by simp), if_neg (show ¬ 1 < m.n8.getD 7 0 by show ¬ 1 < sf m.safe; omega), if_neg (by simp)]
  · unfold prM
    rw [e, a1, a3, b1, b3, c2]
    show Ms.mk _ _ _ _ _ _ _ (decide (sf m.safe = 1)) _ _ _ _ _ = m
    rw [hs2]
    rfl
  · unfold prR
    rw [e, a3, b3, c3]

/-- A place. -/
structure Pl where
  ring : Int
  ps : Int
  pr : Int
  mb : Int
def Pl.n4 (p : Pl) : List Int := [p.ring, p.ps, p.pr, p.mb]
def plc (l : List Int) : Pl := ⟨l.getD 0 0, l.getD 1 0, l.getD 2 0, l.getD 3 0⟩
theorem plc_n4 (l : List Int) (h : l.length = 4) : (plc l).n4 = l := (list4 l h).symm
def pls : List Pl → List Int
  | [] => []
  | p :: l => packs p.n4 ++ pls l
/-- n places, read one behind the other. -/
def rpv : Nat → List Int → List Pl
  | 0, _ => []
  | n + 1, l => if rde 4 l = 0 then plc (rdv 4 l) :: rpv n (rdr 4 l) else []
def rpe : Nat → List Int → Int
  | 0, _ => 0
  | n + 1, l => if rde 4 l = 0 then rpe n (rdr 4 l) else rde 4 l
def rpr : Nat → List Int → List Int
  | 0, l => l
  | n + 1, l => if rde 4 l = 0 then rpr n (rdr 4 l) else rdr 4 l
theorem rpv_len : ∀ n l, rpe n l = 0 → (rpv n l).length = n
  | 0, _, _ => rfl
  | n + 1, l, h => by
    unfold rpe at h
    unfold rpv
    by_cases h1 : rde 4 l = 0
    · rw [if_pos h1] at h ⊢
      simp [rpv_len n _ h]
    · rw [if_neg h1] at h; exact absurd h h1
theorem rpr_mem : ∀ n l, ∀ c ∈ rpr n l, c ∈ l
  | 0, _ => fun _ h => h
  | n + 1, l => by
    unfold rpr
    split
    · intro c hc
      exact rdr_mem 4 l c (rpr_mem n _ c hc)
    · exact rdr_mem 4 l
theorem rp_back : ∀ n l, (∀ c ∈ l, 0 ≤ c ∧ c ≤ 255) → rpe n l = 0 → pls (rpv n l) ++ rpr n l = l
  | 0, _, _, _ => rfl
  | n + 1, l, hr, h => by
    unfold rpe at h
    unfold rpv rpr
    by_cases h1 : rde 4 l = 0
    · rw [if_pos h1] at h ⊢
      rw [if_pos h1, pls, List.append_assoc, rp_back n _ (fun c hc => hr c (rdr_mem 4 l c hc)) h, plc_n4 _ (rdv_len 4 l h1), rd_back 4 l hr h1]
    · rw [if_neg h1] at h; exact absurd h h1
theorem rp_packs : ∀ (ps : List Pl) (r : List Int), (∀ p ∈ ps, Nums p.n4) → rpv ps.length (pls ps ++ r) = ps ∧ rpe ps.length (pls ps ++ r) = 0 ∧ rpr ps.length (pls ps ++ r) = r
  | [], r, _ => ⟨rfl, rfl, rfl⟩
  | p :: ps, r, h => by
    have ih := rp_packs ps r (fun y hy => h y (by simp [hy]))
    obtain ⟨a1, a2, a3⟩ := rd_packs' 4 p.n4 (pls ps ++ r) rfl (h p (by simp))
    rw [pls, List.append_assoc, List.length_cons]
    unfold rpv rpe rpr
    rw [a1, a2, a3, if_pos rfl, if_pos rfl, if_pos rfl]
    exact ⟨by rw [ih.1]; rfl, ih.2.1, ih.2.2⟩
/-- A ring number that may be, and not none; a crew that is not empty. -/
def isr (q r : Int) : Bool := decide (¬ (q = 0 ∧ r = 0)) && (cr q r == 0)
def crew (c : Int) : Bool := decide (0 < c ∧ c < 512 ∧ c % 2 = 0)
/-- Places that a chart can hold, the rings from least on. -/
def held : Int → List Pl → Bool
  | _, [] => true
  | least, p :: l => (decide (least ≤ p.ring) && decide (p.ring < 4)) && (isr p.ps p.pr && crew p.mb) && held (p.ring + 1) l
theorem isr_nums {q r : Int} (h : isr q r = true) : 0 < q ∧ q ≤ 9007199254740991 ∧ 1 ≤ r ∧ r ≤ 8 := by
  simp only [isr, Bool.and_eq_true, decide_eq_true_eq, beq_iff_eq] at h
  unfold cr at h
  split at h
  · omega
  · omega
theorem held_nums : ∀ (l : List Pl) (least : Int), 0 ≤ least → held least l = true → ∀ p ∈ l, Nums p.n4 ∧ p.ring < 4 ∧ p.mb < 512 ∧ p.pr ≤ 8
  | [], _, _, _ => by simp
  | p :: l, least, h0, h => by
    simp only [held, Bool.and_eq_true, decide_eq_true_eq, crew] at h
    obtain ⟨⟨⟨h1, h2⟩, h3, h4⟩, h5⟩ := h
    have h6 := isr_nums h3
    intro q hq
    rcases List.mem_cons.1 hq with rfl | hq
    · refine ⟨?_, by omega, by omega, by omega⟩
      intro x hx
      simp only [Pl.n4, List.mem_cons, List.not_mem_nil, or_false] at hx
      omega
    · exact held_nums l (p.ring + 1) (by omega) h5 q hq
/-- The body of places; why there is none. -/
def pkl (l : List Pl) : List Int := packs [(l.length : Int)] ++ pls l
def chE (l : List Pl) : Int := if 4 < l.length then 5 else if held 0 l then 0 else 2
/-- The places of a body; why there are none. -/
def plN (b : List Int) : Int := (rdv 1 b).getD 0 0
def plL (b : List Int) : List Pl := rpv (plN b).toNat (rdr 1 b)
def plE (b : List Int) : Int :=
  if rde 1 b ≠ 0 then rde 1 b else if 4 < plN b then 5 else if rpe (plN b).toNat (rdr 1 b) ≠ 0 then rpe (plN b).toNat (rdr 1 b)
  else if ¬ (rpr (plN b).toNat (rdr 1 b) = [] ∧ held 0 (plL b) = true) then 4 else 0
theorem pl_parts {b : List Int} (h : plE b = 0) : rde 1 b = 0 ∧ plN b ≤ 4 ∧ rpe (plN b).toNat (rdr 1 b) = 0 ∧ rpr (plN b).toNat (rdr 1 b) = [] ∧ held 0 (plL b) = true := by
  unfold plE at h
  by_cases h1 : rde 1 b = 0
  · rw [if_neg (by simp [h1])] at h
    by_cases h2 : 4 < plN b
    · rw [if_pos h2] at h; omega
    · rw [if_neg h2] at h
      by_cases h3 : rpe (plN b).toNat (rdr 1 b) = 0
      · rw [if_neg (by simp [h3])] at h
        by_cases h4 : rpr (plN b).toNat (rdr 1 b) = [] ∧ held 0 (plL b) = true
        · exact ⟨h1, by omega, h3, h4⟩
        · rw [if_pos h4] at h; omega
      · rw [if_pos h3] at h; exact absurd h h3
  · rw [if_pos h1] at h; exact absurd h h1
theorem list1 (l : List Int) (h : l.length = 1) : l = [l.getD 0 0] := by
  match l, h with
  | [_], _ => rfl
theorem pl_back {b : List Int} (hr : ∀ c ∈ b, 0 ≤ c ∧ c ≤ 255) (h : plE b = 0) : pkl (plL b) = b ∧ chE (plL b) = 0 := by
  obtain ⟨h1, h2, h3, h4, h5⟩ := pl_parts h
  have hl : (plL b).length = (plN b).toNat := rpv_len _ _ h3
  have hn := nums_getD (rdv_nums 1 b) 0
  have hN : plN b = (rdv 1 b).getD 0 0 := rfl
  constructor
  · unfold pkl
    have e : ((plL b).length : Int) = plN b := by omega
    have r1 := rp_back (plN b).toNat (rdr 1 b) (fun c hc => hr c (rdr_mem 1 b c hc)) h3
    rw [h4, List.append_nil] at r1
    rw [e, show pls (plL b) = rdr 1 b from r1, hN, ← list1 _ (rdv_len 1 b h1), rd_back 1 b hr h1]
  · unfold chE
    rw [if_neg (by omega), if_pos h5]
theorem pl_pk (l : List Pl) (r : List Int) (h : chE l = 0) : plL (pkl l ++ r) = l ∧ plE (pkl l ++ r) = if r = [] then 0 else 4 := by
  have h4 : ¬ 4 < l.length := by intro h4; rw [chE, if_pos h4] at h; omega
  rw [chE, if_neg h4] at h
  have hh : held 0 l = true := by
    cases hc : held 0 l with
    | true => rfl
    | false => rw [hc] at h; simp at h
  have hn := held_nums l 0 (by omega) hh
  have e : pkl l ++ r = packs [(l.length : Int)] ++ (pls l ++ r) := by simp [pkl]
  obtain ⟨a1, a2, a3⟩ := rd_packs' 1 [(l.length : Int)] (pls l ++ r) rfl (by intro x hx; simp only [List.mem_singleton] at hx; omega)
  obtain ⟨b1, b2, b3⟩ := rp_packs l r (fun p hp => (hn p hp).1)
  have hN : plN (pkl l ++ r) = l.length := by unfold plN; rw [e, a1]; rfl
  have hR : rdr 1 (pkl l ++ r) = pls l ++ r := by rw [e, a3]
  have hL : plL (pkl l ++ r) = l := by unfold plL; rw [hN, hR, Int.toNat_natCast, b1]
  refine ⟨hL, ?_⟩
  unfold plE
  rw [hL, hN, hR, Int.toNat_natCast, b2, b3, hh, if_neg (by rw [e, a2]; simp), if_neg (by omega), if_neg (by simp)]
  by_cases hr : r = [] <;> simp [hr]
/-- What a chart's places take. -/
theorem enc_small {x : Nat} (h : x < 128) : (enc x).length = 1 := by
  unfold enc encF
  rw [if_neg (by omega)]
  rfl
theorem enc_two {x : Nat} (h : x < 16384) : (enc x).length ≤ 2 := by
  unfold enc encF
  split
  · unfold encF
    rw [if_neg (by omega)]
    simp
  · simp
theorem pls_len : ∀ (l : List Pl) (least : Int), 0 ≤ least → held least l = true → (pls l).length ≤ 12 * l.length
  | [], _, _, _ => by simp [pls]
  | p :: l, least, h0, h => by
    have hp := held_nums (p :: l) least h0 h p (by simp)
    simp only [held, Bool.and_eq_true, decide_eq_true_eq] at h
    have ih := pls_len l (p.ring + 1) (by omega) h.2
    have n := hp.1
    have n0 := n p.ring (by simp [Pl.n4])
    have n2 := n p.pr (by simp [Pl.n4])
    have n3 := n p.mb (by simp [Pl.n4])
    have e0 := enc_small (x := p.ring.toNat) (by omega)
    have e1 := enc_len p.ps.toNat
    have e2 := enc_small (x := p.pr.toNat) (by omega)
    have e3 := enc_two (x := p.mb.toNat) (by omega)
    simp only [pls, packs, Pl.n4, List.length_append, List.length_nil, List.length_cons]
    omega
end Go.Proofs.Ytampdkbcijdpcaa
