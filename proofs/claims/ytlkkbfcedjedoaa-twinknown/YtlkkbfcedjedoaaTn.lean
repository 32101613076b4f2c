/- Plain: numbers read and written one behind the other, octets; frames as bytes. No conditions beyond those in each statement; nothing of the program is named. -/
import Derived.Test.YtlkkbfcedjedoaaTb
namespace Go.Proofs.Ytlkkbfcedjedoaa

/-- Numbers written one behind the other. -/
def packs : List Int → List Int
  | [] => []
  | x :: l => enc x.toNat ++ packs l
theorem packs_app (l m : List Int) : packs (l ++ m) = packs l ++ packs m := by
  induction l with
  | nil => rfl
  | cons x l ih => simp [packs, ih]
theorem packs_rng : ∀ l : List Int, ∀ c ∈ packs l, 0 ≤ c ∧ c ≤ 255
  | [] => by simp [packs]
  | x :: l => rng_app (enc_rng _) (packs_rng l)
theorem packs_len : ∀ l : List Int, (packs l).length ≤ 8 * l.length
  | [] => by simp [packs]
  | x :: l => by
    have := enc_len x.toNat
    have := packs_len l
    simp [packs]; omega
/-- What may be written. -/
def Nums (l : List Int) : Prop := ∀ x ∈ l, 0 ≤ x ∧ x ≤ 9007199254740991

/-- n numbers, read one behind the other: those up to the first error; the error; what is left. -/
def rdv : Nat → List Int → List Int
  | 0, _ => []
  | n + 1, l => if (num 0 0 l).2.2 = 0 then (num 0 0 l).1 :: rdv n (l.drop (num 0 0 l).2.1.toNat) else []
def rde : Nat → List Int → Int
  | 0, _ => 0
  | n + 1, l => if (num 0 0 l).2.2 = 0 then rde n (l.drop (num 0 0 l).2.1.toNat) else (num 0 0 l).2.2
def rdr : Nat → List Int → List Int
  | 0, l => l
  | n + 1, l => if (num 0 0 l).2.2 = 0 then rdr n (l.drop (num 0 0 l).2.1.toNat) else l
theorem rdv_nums : ∀ n l, Nums (rdv n l)
  | 0, _ => by simp [rdv, Nums]
  | n + 1, l => by
    unfold rdv
    by_cases h : (num 0 0 l).2.2 = 0
    · rw [if_pos h]
      have hv := num_val l 0 0
      intro x hx
      rcases List.mem_cons.1 hx with rfl | hx
      · omega
      · exact rdv_nums n _ x hx
    · rw [if_neg h]; simp [Nums]
theorem rdv_len : ∀ n l, rde n l = 0 → (rdv n l).length = n
  | 0, _, _ => rfl
  | n + 1, l, h => by
    unfold rde at h
    unfold rdv
    by_cases h1 : (num 0 0 l).2.2 = 0
    · rw [if_pos h1] at h ⊢
      simp [rdv_len n _ h]
    · rw [if_neg h1] at h; exact absurd h h1
theorem rdv_le : ∀ n l, (rdv n l).length ≤ n
  | 0, _ => by simp [rdv]
  | n + 1, l => by
    unfold rdv
    split
    · simp; exact rdv_le n _
    · simp
theorem rdr_mem : ∀ n l, ∀ c ∈ rdr n l, c ∈ l
  | 0, _ => fun _ h => h
  | n + 1, l => by
    unfold rdr
    split
    · intro c hc
      exact List.mem_of_mem_drop (rdr_mem n _ c hc)
    · exact fun _ h => h
theorem rdr_len : ∀ n l, rde n l = 0 → (rdr n l).length + n ≤ l.length
  | 0, _, _ => by simp [rdr]
  | n + 1, l, h => by
    unfold rde at h
    unfold rdr
    by_cases h1 : (num 0 0 l).2.2 = 0
    · rw [if_pos h1] at h ⊢
      have := rdr_len n _ h
      have hv := num_val l 0 0
      have hz := num_size l 0 0
      rw [List.length_drop] at this
      omega
    · rw [if_neg h1] at h; exact absurd h h1
theorem rde_err : ∀ n l, rde n l = 0 ∨ rde n l = 3 ∨ rde n l = 4
  | 0, _ => .inl rfl
  | n + 1, l => by
    unfold rde
    split
    · exact rde_err n _
    · have := num_val l 0 0; omega
theorem num_front (l : List Int) (hr : ∀ c ∈ l, 0 ≤ c ∧ c ≤ 255) (h : (num 0 0 l).2.2 = 0) : enc (num 0 0 l).1.toNat = l.take (num 0 0 l).2.1.toNat := by
  obtain ⟨y, h1, h2, _⟩ := num_back l 0 0 (by omega) hr h
  have : (num 0 0 l).1.toNat = y := by rw [h1]; simp
  rw [this]
  simpa [enc] using h2
theorem rd_back : ∀ n l, (∀ c ∈ l, 0 ≤ c ∧ c ≤ 255) → rde n l = 0 → packs (rdv n l) ++ rdr n l = l
  | 0, _, _, _ => rfl
  | n + 1, l, hr, h => by
    unfold rde at h
    unfold rdv rdr
    by_cases h1 : (num 0 0 l).2.2 = 0
    · rw [if_pos h1] at h ⊢
      rw [if_pos h1, packs, List.append_assoc, rd_back n _ (fun c hc => hr c (List.mem_of_mem_drop hc)) h, num_front l hr h1, List.take_append_drop]
    · rw [if_neg h1] at h; exact absurd h h1
theorem rd_packs : ∀ (vs r : List Int), Nums vs → rdv vs.length (packs vs ++ r) = vs ∧ rde vs.length (packs vs ++ r) = 0 ∧ rdr vs.length (packs vs ++ r) = r
  | [], r, _ => ⟨rfl, rfl, rfl⟩
  | x :: vs, r, h => by
    have hx := h x (by simp)
    have ih := rd_packs vs r (fun y hy => h y (by simp [hy]))
    have hn := num_enc0 x.toNat (packs vs ++ r) (by omega)
    rw [packs, List.append_assoc, List.length_cons]
    unfold rdv rde rdr
    rw [hn, if_pos rfl, if_pos rfl, if_pos rfl]
    dsimp only
    rw [Int.toNat_natCast, List.drop_left]
    refine ⟨?_, ih.2.1, ih.2.2⟩
    rw [ih.1, Int.toNat_of_nonneg hx.1]
theorem rd_packs' (n : Nat) (vs r : List Int) (hl : vs.length = n) (h : Nums vs) : rdv n (packs vs ++ r) = vs ∧ rde n (packs vs ++ r) = 0 ∧ rdr n (packs vs ++ r) = r := by
  subst hl; exact rd_packs vs r h

/-- Octets: the bytes, and what is left. -/
def obody (l : List Int) : List Int := (l.drop (num 0 0 l).2.1.toNat).take (num 0 0 l).1.toNat
def orest (l : List Int) : List Int := l.drop ((num 0 0 l).2.1.toNat + (num 0 0 l).1.toNat)
theorem oct_parts {most : Int} {l : List Int} (h : octE most l = 0) : (num 0 0 l).2.2 = 0 ∧ (num 0 0 l).1 ≤ most ∧ (num 0 0 l).1 ≤ (l.length : Int) - (num 0 0 l).2.1 := by
  unfold octE at h
  by_cases h1 : (num 0 0 l).2.2 = 0
  · rw [if_neg (by simp [h1])] at h
    by_cases h2 : most < (num 0 0 l).1
    · rw [if_pos h2] at h; omega
    · rw [if_neg h2] at h
      by_cases h3 : (l.length : Int) - (num 0 0 l).2.1 < (num 0 0 l).1
      · rw [if_pos h3] at h; omega
      · exact ⟨h1, by omega, by omega⟩
  · rw [if_pos h1] at h; exact absurd h h1
theorem obody_len {most : Int} {l : List Int} (h : octE most l = 0) : ((obody l).length : Int) = (num 0 0 l).1 ∧ (obody l).length + 1 ≤ l.length := by
  obtain ⟨h1, h2, h3⟩ := oct_parts h
  have hv := num_val l 0 0
  have hz := num_size l 0 0
  unfold obody
  rw [List.length_take, List.length_drop]
  omega
theorem oct_back {most : Int} {l : List Int} (hr : ∀ c ∈ l, 0 ≤ c ∧ c ≤ 255) (h : octE most l = 0) : enc (obody l).length ++ (obody l ++ orest l) = l := by
  obtain ⟨h1, h2, h3⟩ := oct_parts h
  have hb := (obody_len h).1
  have e : (obody l).length = (num 0 0 l).1.toNat := by omega
  rw [e, num_front l hr h1]
  unfold obody orest
  rw [← List.drop_drop, List.take_append_drop, List.take_append_drop]
theorem oct_enc {most : Int} (body r : List Int) (hm : (body.length : Int) ≤ most) (hb : body.length ≤ 9007199254740991) :
    octE most (enc body.length ++ (body ++ r)) = 0 ∧ obody (enc body.length ++ (body ++ r)) = body ∧ orest (enc body.length ++ (body ++ r)) = r := by
  have hn := num_enc0 body.length (body ++ r) hb
  unfold octE obody orest
  rw [hn]
  dsimp only
  refine ⟨?_, ?_, ?_⟩
  · rw [if_neg (by simp), if_neg (by omega), if_neg (by simp; omega)]
  · simp
  · rw [Int.toNat_natCast, Int.toNat_natCast, ← List.drop_drop, List.drop_left, List.drop_left]
theorem obody_mem {l : List Int} : ∀ c ∈ obody l, c ∈ l := fun _ hc => List.mem_of_mem_drop (List.mem_of_mem_take hc)
theorem rde_add : ∀ (k j : Nat) (L : List Int), rde k L = 0 → rde (k + j) L = rde j (rdr k L) ∧ rdv (k + j) L = rdv k L ++ rdv j (rdr k L) ∧ rdr (k + j) L = rdr j (rdr k L)
  | 0, j, L, _ => by simp [rdr, rdv]
  | k + 1, j, L, h => by
    by_cases h0 : (num 0 0 L).2.2 = 0
    · simp only [rde, h0, if_true] at h
      have := rde_add k j _ h
      rw [show k + 1 + j = (k + j) + 1 by omega]
      simp only [rde, rdv, rdr, h0, if_true, List.cons_append]
      exact ⟨this.1, by rw [this.2.1], this.2.2⟩
    · simp only [rde, h0, if_false] at h
/-- One number more. -/
theorem rd_one (k : Nat) (L : List Int) (h : rde k L = 0) (h1 : (num 0 0 (rdr k L)).2.2 = 0) : rde (k + 1) L = 0 ∧ rdv (k + 1) L = rdv k L ++ [(num 0 0 (rdr k L)).1] ∧ rdr (k + 1) L = (rdr k L).drop (num 0 0 (rdr k L)).2.1.toNat := by
  obtain ⟨a, b, c⟩ := rde_add k 1 L h
  rw [a, b, c]
  simp [rde, rdv, rdr, h1]
theorem rd_stop (k j : Nat) (L : List Int) (h : rde k L = 0) (h1 : (num 0 0 (rdr k L)).2.2 ≠ 0) : rde (k + (j + 1)) L = (num 0 0 (rdr k L)).2.2 := by
  rw [(rde_add k (j + 1) L h).1]
  simp [rde, h1]
theorem openE_sealed (l : List Int) : Sm.openE (Sm.sealed l) = 0 := by
  have h1 : (Sm.sealed l).take ((Sm.sealed l).length - 4) = l := by
    rw [Sm.sealed_len, Nat.add_sub_cancel, Sm.sealed, List.take_left']
    rfl
  have h2 : (Sm.sealed l).drop ((Sm.sealed l).length - 4) = Sm.four (Sm.chk l) := by
    rw [Sm.sealed_len, Nat.add_sub_cancel, Sm.sealed, List.drop_left']
    rfl
  rw [Sm.openE, if_neg (by rw [Sm.sealed_len]; omega), h1, h2, if_pos (Sm.num_four (Sm.chk_lt l)).symm]
theorem openD_sealed (l : List Int) : Sm.openD (Sm.sealed l) = l := by
  rw [Sm.openD, if_pos (openE_sealed l), Sm.sealed_len, Nat.add_sub_cancel, Sm.sealed, List.take_left']
  rfl
theorem open_sealed (l : List Int) : Sm.openE (Sm.sealed l) = 0 ∧ Sm.openD (Sm.sealed l) = l := ⟨openE_sealed l, openD_sealed l⟩
theorem sealed_open {l : List Int} (hr : ∀ c ∈ l, 0 ≤ c ∧ c ≤ 255) (h : Sm.openE l = 0) : Sm.sealed (Sm.openD l) = l := by
  unfold Sm.openD
  rw [if_pos h]
  unfold Sm.openE at h
  split at h
  · cases h
  · rename_i h4
    split at h
    · rename_i hc
      rw [Sm.sealed, hc, Sm.four_num (by simp; omega) (fun c hc => hr c (List.mem_of_mem_drop hc)), List.take_append_drop]
    · cases h
theorem openD_len (l : List Int) : (Sm.openD l).length ≤ l.length := by unfold Sm.openD; split <;> simp
theorem openD_mem (l : List Int) : ∀ c ∈ Sm.openD l, c ∈ l := by
  intro c hc
  unfold Sm.openD at hc
  split at hc
  · exact List.mem_of_mem_take hc
  · simp at hc
/-- What is wrong with the bytes of a frame, opened; its Bytes; what is left. -/
def rfE (L : List Int) : Int := if rde 3 L ≠ 0 then rde 3 L else octE 512 (rdr 3 L)
def rfB (L : List Int) : List Int := obody (rdr 3 L)
def rfR (L : List Int) : List Int := orest (rdr 3 L)
def rfN (L : List Int) (i : Nat) : Int := (rdv 3 L).getD i 0
theorem rfN_rng (L : List Int) (i : Nat) : 0 ≤ rfN L i ∧ rfN L i ≤ 9007199254740991 := by
  unfold rfN
  by_cases h : i < (rdv 3 L).length
  · exact rdv_nums 3 L _ (getD_mem h)
  · rw [List.getD_eq_getElem?_getD, List.getElem?_eq_none (by omega)]
    simp
/-- What is wrong with the bytes of a frame. -/
def opE (b : List Int) : Int := if Sm.openE b ≠ 0 then Sm.openE b else if rfE (Sm.openD b) ≠ 0 then rfE (Sm.openD b) else if 0 < (rfR (Sm.openD b)).length ∨ okF (rfN (Sm.openD b) 0) (rfN (Sm.openD b) 1) (rfN (Sm.openD b) 2) (rfB (Sm.openD b)).length = false then 4 else 0
/-- The frame that is read. -/
def opN (b : List Int) (i : Nat) : Int := if opE b = 0 then rfN (Sm.openD b) i else 0
def opB (b : List Int) : List Int := if opE b = 0 then rfB (Sm.openD b) else []
theorem rfE_parts {L : List Int} (h : rfE L = 0) : rde 3 L = 0 ∧ octE 512 (rdr 3 L) = 0 := by
  unfold rfE at h
  by_cases h1 : rde 3 L = 0
  · rw [if_neg (by simp [h1])] at h; exact ⟨h1, h⟩
  · rw [if_pos h1] at h; exact absurd h h1
theorem opE_parts {b : List Int} (h : opE b = 0) : Sm.openE b = 0 ∧ rfE (Sm.openD b) = 0 ∧ rfR (Sm.openD b) = [] ∧ okF (rfN (Sm.openD b) 0) (rfN (Sm.openD b) 1) (rfN (Sm.openD b) 2) (rfB (Sm.openD b)).length = true := by
  unfold opE at h
  by_cases h1 : Sm.openE b = 0
  · rw [if_neg (by simp [h1])] at h
    by_cases h2 : rfE (Sm.openD b) = 0
    · rw [if_neg (by simp [h2])] at h
      by_cases h3 : 0 < (rfR (Sm.openD b)).length ∨ okF (rfN (Sm.openD b) 0) (rfN (Sm.openD b) 1) (rfN (Sm.openD b) 2) (rfB (Sm.openD b)).length = false
      · rw [if_pos h3] at h; omega
      · rw [not_or] at h3
        exact ⟨h1, h2, List.eq_nil_of_length_eq_zero (by omega), by simpa using h3.2⟩
    · rw [if_pos h2] at h; exact absurd h h2
  · rw [if_pos h1] at h; exact absurd h h1
theorem okF_parts {s l n : Int} {m : Nat} (h : okF s l n m = true) : (1 ≤ s ∧ s ≤ 8) ∧ (1 ≤ l ∧ l ≤ 9007199254740991) ∧ (1 ≤ n ∧ n ≤ 9007199254740991) ∧ m ≤ 512 := by
  unfold okF at h
  simpa using h
theorem list3 (l : List Int) (h : l.length = 3) : l = [l.getD 0 0, l.getD 1 0, l.getD 2 0] := by
  match l, h with
  | [a, b, c], _ => rfl
theorem fby_packs (s l n : Int) (B : List Int) : fby s l n B = packs [s, l, n] ++ (enc B.length ++ (B ++ [])) := by
  simp [fby, packs]
/-- Bytes that are a frame are just those that it is packed into. -/
theorem op_back {b : List Int} (hr : ∀ c ∈ b, 0 ≤ c ∧ c ≤ 255) (h : opE b = 0) : Sm.sealed (fby (opN b 0) (opN b 1) (opN b 2) (opB b)) = b ∧ paE (opN b 0) (opN b 1) (opN b 2) (opB b) = 0 := by
  obtain ⟨h1, h2, h3, h4⟩ := opE_parts h
  obtain ⟨h5, h6⟩ := rfE_parts h2
  have hrD : ∀ c ∈ Sm.openD b, 0 ≤ c ∧ c ≤ 255 := fun c hc => hr c (by
    unfold Sm.openD at hc
    rw [if_pos h1] at hc
    exact List.mem_of_mem_take hc)
  have e1 := rd_back 3 (Sm.openD b) hrD h5
  have e2 := oct_back (fun c hc => hrD c (rdr_mem 3 _ c hc)) h6
  simp only [opN, opB, h, if_true]
  refine ⟨?_, ?_⟩
  · rw [fby_packs]
    have e3 : packs [rfN (Sm.openD b) 0, rfN (Sm.openD b) 1, rfN (Sm.openD b) 2] = packs (rdv 3 (Sm.openD b)) := by
      unfold rfN
      rw [← list3 _ (rdv_len 3 _ h5)]
    have e4 : enc (rfB (Sm.openD b)).length ++ (rfB (Sm.openD b) ++ []) = rdr 3 (Sm.openD b) := by
      rw [← h3]
      exact e2
    rw [e3, e4, e1]
    exact sealed_open hr h1
  · unfold paE
    have := (okF_parts h4).2.2.2
    rw [if_neg (by omega), h4]
    rfl
/-- What was packed is opened as it was. -/
theorem op_forth {s l n : Int} {B : List Int} (h : okF s l n B.length = true) : opE (Sm.sealed (fby s l n B)) = 0 ∧ opN (Sm.sealed (fby s l n B)) 0 = s ∧ opN (Sm.sealed (fby s l n B)) 1 = l ∧ opN (Sm.sealed (fby s l n B)) 2 = n ∧ opB (Sm.sealed (fby s l n B)) = B := by
  obtain ⟨h1, h2, h3, h4⟩ := okF_parts h
  have hn : Nums [s, l, n] := by
    intro x hx
    simp only [List.mem_cons, List.not_mem_nil, or_false] at hx
    rcases hx with rfl | rfl | rfl <;> omega
  obtain ⟨e1, e2⟩ := open_sealed (fby s l n B)
  obtain ⟨r1, r2, r3⟩ := rd_packs' 3 [s, l, n] (enc B.length ++ (B ++ [])) rfl hn
  obtain ⟨o1, o2, o3⟩ := oct_enc (most := 512) B [] (by omega) (by omega)
  rw [← fby_packs] at r1 r2 r3
  have hE : opE (Sm.sealed (fby s l n B)) = 0 := by
    unfold opE rfE rfR rfB rfN
    rw [e1, e2, r1, r2, r3, o1, o2, o3]
    simp [h]
  refine ⟨hE, ?_, ?_, ?_, ?_⟩
  · simp only [opN, hE, if_true, rfN, e2, r1]; rfl
  · simp only [opN, hE, if_true, rfN, e2, r1]; rfl
  · simp only [opN, hE, if_true, rfN, e2, r1]; rfl
  · simp only [opB, hE, if_true, rfB, e2, r3, o2]
end Go.Proofs.Ytlkkbfcedjedoaa
