/- Plain mathematics of the check: one step of it, eight steps, a list's check, that it is linear and takes unlike numbers to unlike ones, and how a check is four bytes. No conditions beyond those in each statement; nothing of the program is named. -/
import Derived.Test.YtlkkbfcedjedoaaMem
namespace Go.Proofs.Ytlkkbfcedjedoaa.Sm

/-- One bit goes out. -/
def step (x : Nat) : Nat := if x % 2 = 1 then x / 2 ^^^ 3988292384 else x / 2
def steps : Nat → Nat → Nat
  | 0, x => x
  | n + 1, x => steps n (step x)
def eight (x : Nat) : Nat := steps 8 x
/-- The check on its way, from x. -/
def crc : Nat → List Int → Nat
  | x, [] => x
  | x, c :: l => crc (eight (x ^^^ c.toNat)) l
/-- The check of bytes. -/
def chk (l : List Int) : Nat := 4294967295 - crc 4294967295 l
/-- A check as four bytes. -/
def four (x : Nat) : List Int := [((x / 16777216 % 256 : Nat) : Int), ((x / 65536 % 256 : Nat) : Int), ((x / 256 % 256 : Nat) : Int), ((x % 256 : Nat) : Int)]
/-- Bytes as a number of 32 bits. -/
def num : Nat → List Int → Nat
  | x, [] => x
  | x, c :: l => num (x * 256 % 4294967296 + c.toNat) l

theorem xor_lt {a b : Nat} (ha : a < 4294967296) (hb : b < 4294967296) : a ^^^ b < 4294967296 := Nat.xor_lt_two_pow (n := 32) ha hb
theorem xor_lt8 {a b : Nat} (ha : a < 256) (hb : b < 256) : a ^^^ b < 256 := Nat.xor_lt_two_pow (n := 8) ha hb
theorem step_lt {x : Nat} (h : x < 4294967296) : step x < 4294967296 := by
  unfold step
  split
  · exact xor_lt (by omega) (by omega)
  · omega
theorem steps_lt (n : Nat) : ∀ {x : Nat}, x < 4294967296 → steps n x < 4294967296 := by
  induction n with
  | zero => intro x h; exact h
  | succ n ih => intro x h; exact ih (step_lt h)
theorem eight_lt {x : Nat} (h : x < 4294967296) : eight x < 4294967296 := steps_lt 8 h
theorem xor_div2 (a b : Nat) : (a ^^^ b) / 2 = a / 2 ^^^ b / 2 := by
  have := Nat.shiftRight_xor_distrib (a := a) (b := b) (i := 1)
  simpa [Nat.shiftRight_eq_div_pow] using this
theorem xor_mod2 (a b : Nat) : (a ^^^ b) % 2 = (a + b) % 2 := by
  have h := Nat.testBit_xor a b 0
  simp only [Nat.testBit_zero] at h
  rcases Nat.mod_two_eq_zero_or_one (a ^^^ b) with h0 | h0 <;> rcases Nat.mod_two_eq_zero_or_one a with h1 | h1 <;> rcases Nat.mod_two_eq_zero_or_one b with h2 | h2 <;> simp [h0, h1, h2] at h <;> omega
theorem step_xor (a b : Nat) : step (a ^^^ b) = step a ^^^ step b := by
  unfold step
  rw [xor_mod2, xor_div2]
  rcases Nat.mod_two_eq_zero_or_one a with h1 | h1 <;> rcases Nat.mod_two_eq_zero_or_one b with h2 | h2
  · simp [h1, h2, show (a + b) % 2 = 0 by omega]
  · simp [h1, h2, show (a + b) % 2 = 1 by omega, Nat.xor_assoc]
  · simp only [h1, h2, show (a + b) % 2 = 1 by omega]
    simp only [↓reduceIte, Nat.zero_ne_one]
    rw [Nat.xor_assoc, Nat.xor_comm (b / 2), Nat.xor_assoc]
  · simp only [h1, h2, show (a + b) % 2 = 0 by omega]
    simp only [↓reduceIte, Nat.zero_ne_one]
    rw [Nat.xor_assoc, Nat.xor_comm (b / 2), ← Nat.xor_assoc 3988292384, Nat.xor_self, Nat.zero_xor]
theorem steps_xor (n : Nat) : ∀ a b : Nat, steps n (a ^^^ b) = steps n a ^^^ steps n b := by
  induction n with
  | zero => intro a b; rfl
  | succ n ih => intro a b; simp only [steps]; rw [step_xor, ih]
theorem eight_xor (a b : Nat) : eight (a ^^^ b) = eight a ^^^ eight b := steps_xor 8 a b
theorem step_dbl (h : Nat) : step (2 * h) = h := by
  unfold step
  rw [if_neg (by omega)]
  omega
theorem eight_high (h : Nat) : eight (256 * h) = h := by
  unfold eight
  simp only [steps]
  rw [show 256 * h = 2 * (2 * (2 * (2 * (2 * (2 * (2 * (2 * h))))))) by omega]
  simp only [step_dbl]
theorem split256 (x : Nat) : x = 256 * (x / 256) ^^^ x % 256 := by
  have h := Nat.two_pow_add_eq_or_of_lt (i := 8) (b := x % 256) (by omega) (x / 256)
  have h2 : (2 ^ 8 * (x / 256) ||| x % 256) = 2 ^ 8 * (x / 256) ^^^ x % 256 := by
    apply Nat.eq_of_testBit_eq
    intro i
    rw [Nat.testBit_or, Nat.testBit_xor, Nat.testBit_two_pow_mul, show (256 : Nat) = 2 ^ 8 by decide, Nat.testBit_mod_two_pow]
    by_cases hi : i < 8
    · simp [hi, show ¬ 8 ≤ i by omega]
    · simp [hi]
  rw [show (256 : Nat) = 2 ^ 8 by decide] at *
  rw [← h2, ← h]
  omega
/-- One look into the table stands for the eight steps. -/
theorem eight_look (x c : Nat) : eight (x ^^^ c) = eight (x % 256 ^^^ c) ^^^ x / 256 := by
  conv => lhs; rw [split256 x]
  rw [Nat.xor_assoc, eight_xor, eight_high, Nat.xor_comm]
theorem crc_lt : ∀ (l : List Int) {x : Nat}, x < 4294967296 → (∀ c ∈ l, 0 ≤ c ∧ c ≤ 255) → crc x l < 4294967296 := by
  intro l
  induction l with
  | nil => intro x h _; exact h
  | cons c l ih =>
    intro x h hr
    have := hr c (by simp)
    exact ih (eight_lt (xor_lt h (by omega))) fun c hc => hr c (by simp [hc])
theorem crc_app : ∀ (l m : List Int) (x : Nat), crc x (l ++ m) = crc (crc x l) m := by
  intro l
  induction l with
  | nil => intro m x; rfl
  | cons c l ih => intro m x; exact ih m _
theorem crc_snoc (l : List Int) (c : Int) (x : Nat) : crc x (l ++ [c]) = eight (crc x l ^^^ c.toNat) := by
  rw [crc_app]; rfl
theorem chk_lt (l : List Int) : chk l < 4294967296 := by unfold chk; omega
theorem not_xor {x : Nat} (h : x < 4294967296) : 4294967295 - x = x ^^^ 4294967295 := by
  apply Nat.eq_of_testBit_eq
  intro i
  have h1 := Nat.testBit_two_pow_sub_succ (n := 32) h i
  have h2 := Nat.testBit_two_pow_sub_one 32 i
  rw [Nat.testBit_xor, show (4294967295 : Nat) - x = 2 ^ 32 - (x + 1) by omega, h1, show (4294967295 : Nat) = 2 ^ 32 - 1 by omega, h2]
  by_cases hi : i < 32
  · cases x.testBit i <;> simp [hi]
  · have : x.testBit i = false := Nat.testBit_lt_two_pow (Nat.lt_of_lt_of_le h (Nat.pow_le_pow_right (n := 2) (by omega) (show 32 ≤ i by omega)))
    simp [hi, this]
theorem chk_xor {l : List Int} (hr : ∀ c ∈ l, 0 ≤ c ∧ c ≤ 255) : chk l = crc 4294967295 l ^^^ 4294967295 :=
  not_xor (crc_lt l (by omega) hr)

/-- Three lists, byte by byte. -/
def three : List Int → List Int → List Int → List Int
  | a :: l, b :: m, c :: n => ((a.toNat ^^^ b.toNat ^^^ c.toNat : Nat) : Int) :: three l m n
  | _, _, _ => []
theorem three_rng : ∀ (a b c : List Int), (∀ x ∈ a, 0 ≤ x ∧ x ≤ 255) → (∀ x ∈ b, 0 ≤ x ∧ x ≤ 255) → (∀ x ∈ c, 0 ≤ x ∧ x ≤ 255) → ∀ x ∈ three a b c, 0 ≤ x ∧ x ≤ 255 := by
  intro a
  induction a with
  | nil => intro b c _ _ _ x hx; simp [three] at hx
  | cons p a ih =>
    intro b c ha hb hc x hx
    match b, c with
    | [], _ => simp [three] at hx
    | _ :: _, [] => simp [three] at hx
    | q :: b, r :: c =>
      simp only [three, List.mem_cons] at hx
      rcases hx with rfl | hx
      · have h1 := ha p (by simp); have h2 := hb q (by simp); have h3 := hc r (by simp)
        have := xor_lt8 (xor_lt8 (a := p.toNat) (b := q.toNat) (by omega) (by omega)) (b := r.toNat) (by omega)
        omega
      · exact ih b c (fun x h => ha x (by simp [h])) (fun x h => hb x (by simp [h])) (fun x h => hc x (by simp [h])) x hx
theorem three_snoc (p q r : Int) : ∀ (a b c : List Int), a.length = b.length → a.length = c.length → three (a ++ [p]) (b ++ [q]) (c ++ [r]) = three a b c ++ [((p.toNat ^^^ q.toNat ^^^ r.toNat : Nat) : Int)] := by
  intro a
  induction a with
  | nil =>
    intro b c hb hc
    obtain rfl : b = [] := List.eq_nil_of_length_eq_zero (by simpa using hb.symm)
    obtain rfl : c = [] := List.eq_nil_of_length_eq_zero (by simpa using hc.symm)
    rfl
  | cons p' a ih =>
    intro b c hb hc
    match b, c with
    | [], _ => simp at hb
    | _ :: _, [] => simp at hc
    | q' :: b, r' :: c => simp only [List.cons_append, three]; rw [ih b c (by simpa using hb) (by simpa using hc)]
theorem three_len : ∀ (a b c : List Int), a.length = b.length → a.length = c.length → (three a b c).length = a.length := by
  intro a
  induction a with
  | nil => intro b c _ _; simp [three]
  | cons p a ih =>
    intro b c hb hc
    match b, c with
    | [], _ => simp at hb
    | _ :: _, [] => simp at hc
    | q :: b, r :: c => simp only [three, List.length_cons]; rw [ih b c (by simpa using hb) (by simpa using hc)]
theorem xor_mix (a b c p q r : Nat) : (a ^^^ p) ^^^ (b ^^^ q) ^^^ (c ^^^ r) = (a ^^^ b ^^^ c) ^^^ (p ^^^ q ^^^ r) := by
  apply Nat.eq_of_testBit_eq
  intro i
  simp only [Nat.testBit_xor]
  cases a.testBit i <;> cases b.testBit i <;> cases c.testBit i <;> cases p.testBit i <;> cases q.testBit i <;> cases r.testBit i <;> rfl
theorem crc_cons (x : Nat) (c : Int) (l : List Int) : crc x (c :: l) = crc (eight (x ^^^ c.toNat)) l := rfl
theorem three_key (x y z p q r : Nat) : eight (x ^^^ p) ^^^ eight (y ^^^ q) ^^^ eight (z ^^^ r) = eight ((x ^^^ y ^^^ z) ^^^ (p ^^^ q ^^^ r)) := by
  rw [← eight_xor, ← eight_xor, xor_mix]
theorem crc_three : ∀ (a b c : List Int) (x y z : Nat), a.length = b.length → a.length = c.length → crc x a ^^^ crc y b ^^^ crc z c = crc (x ^^^ y ^^^ z) (three a b c) := by
  intro a
  induction a with
  | nil =>
    intro b c x y z hb hc
    obtain rfl : b = [] := List.eq_nil_of_length_eq_zero (by simpa using hb.symm)
    obtain rfl : c = [] := List.eq_nil_of_length_eq_zero (by simpa using hc.symm)
    rfl
  | cons p a ih =>
    intro b c x y z hb hc
    cases b with
    | nil => simp at hb
    | cons q b =>
      cases c with
      | nil => simp at hc
      | cons r c =>
        have h1 := ih b c (eight (x ^^^ p.toNat)) (eight (y ^^^ q.toNat)) (eight (z ^^^ r.toNat)) (by simpa using hb) (by simpa using hc)
        rw [three_key] at h1
        rw [three, crc_cons, crc_cons, crc_cons, crc_cons, Int.toNat_natCast]
        exact h1
/-- Checks go together. -/
theorem chk_three {a b c : List Int} (hab : a.length = b.length) (hac : a.length = c.length) (ha : ∀ x ∈ a, 0 ≤ x ∧ x ≤ 255) (hb : ∀ x ∈ b, 0 ≤ x ∧ x ≤ 255) (hc : ∀ x ∈ c, 0 ≤ x ∧ x ≤ 255) : chk a ^^^ chk b ^^^ chk c = chk (three a b c) := by
  rw [chk_xor ha, chk_xor hb, chk_xor hc, chk_xor (three_rng a b c ha hb hc), xor_mix, crc_three a b c _ _ _ hab hac]
  rw [Nat.xor_self, Nat.zero_xor]

theorem xor_canc {a b c : Nat} (h : a ^^^ c = b ^^^ c) : a = b := by
  have := congrArg (· ^^^ c) h
  simpa [Nat.xor_assoc] using this
theorem step_inj {a b : Nat} (ha : a < 4294967296) (hb : b < 4294967296) (h : step a = step b) : a = b := by
  have top : ∀ x : Nat, x < 4294967296 → (x / 2 ^^^ 3988292384).testBit 31 = true := fun x hx => by
    have h1 : (x / 2).testBit 31 = false := Nat.testBit_lt_two_pow (by omega)
    rw [Nat.testBit_xor, h1]
    decide
  have low : ∀ x : Nat, x < 4294967296 → (x / 2).testBit 31 = false := fun x hx => Nat.testBit_lt_two_pow (by omega)
  unfold step at h
  split at h <;> split at h
  · have := xor_canc h
    omega
  · have h1 := top a ha
    exact absurd (h1.symm.trans ((congrArg (fun x => x.testBit 31) h).trans (low b hb))) (by decide)
  · have h1 := top b hb
    exact absurd (h1.symm.trans ((congrArg (fun x => x.testBit 31) h.symm).trans (low a ha))) (by decide)
  · omega
theorem steps_inj (n : Nat) : ∀ {a b : Nat}, a < 4294967296 → b < 4294967296 → steps n a = steps n b → a = b := by
  induction n with
  | zero => intro a b _ _ h; exact h
  | succ n ih => intro a b ha hb h; exact step_inj ha hb (ih (step_lt ha) (step_lt hb) h)
theorem eight_inj {a b : Nat} (ha : a < 4294967296) (hb : b < 4294967296) (h : eight a = eight b) : a = b := by
  unfold eight at h
  exact steps_inj 8 ha hb h
theorem crc_inj : ∀ (l : List Int) {x y : Nat}, x < 4294967296 → y < 4294967296 → (∀ c ∈ l, 0 ≤ c ∧ c ≤ 255) → crc x l = crc y l → x = y := by
  intro l
  induction l with
  | nil => intro x y _ _ _ h; exact h
  | cons c l ih =>
    intro x y hx hy hr h
    have := hr c (by simp)
    have h1 := ih (eight_lt (xor_lt hx (by omega))) (eight_lt (xor_lt hy (by omega))) (fun c hc => hr c (by simp [hc])) h
    exact xor_canc (eight_inj (xor_lt hx (by omega)) (xor_lt hy (by omega)) h1)
theorem crc_unlike (l m : List Int) (c d : Int) {x : Nat} (hx : x < 4294967296) (hl : ∀ c ∈ l, 0 ≤ c ∧ c ≤ 255) (hm : ∀ c ∈ m, 0 ≤ c ∧ c ≤ 255) (hc : 0 ≤ c ∧ c ≤ 255) (hd : 0 ≤ d ∧ d ≤ 255) (h : c ≠ d) : crc x (l ++ c :: m) ≠ crc x (l ++ d :: m) := by
  intro e
  rw [crc_app, crc_app] at e
  have hp := crc_lt l hx hl
  have h1 := crc_inj m (eight_lt (xor_lt hp (by omega))) (eight_lt (xor_lt hp (by omega))) hm e
  have h2 := eight_inj (xor_lt hp (by omega)) (xor_lt hp (by omega)) h1
  rw [Nat.xor_comm _ c.toNat, Nat.xor_comm _ d.toNat] at h2
  have := xor_canc h2
  omega
theorem chk_unlike (B : List Int) (K : Nat) (c : Int) (hK : K < B.length) (hB : ∀ c ∈ B, 0 ≤ c ∧ c ≤ 255) (hc : 0 ≤ c ∧ c ≤ 255) (h : c ≠ B.getD K 0) : chk (B.set K c) ≠ chk B := by
  have hg : B.getD K 0 = B[K] := by simp [hK]
  have h1 : B = B.take K ++ B[K] :: B.drop (K + 1) := by simp
  have h2 : B.set K c = B.take K ++ c :: B.drop (K + 1) := by rw [List.set_eq_take_append_cons_drop, if_pos hK]
  have l1 := crc_lt B (x := 4294967295) (by omega) hB
  have hs : ∀ x ∈ B.set K c, 0 ≤ x ∧ x ≤ 255 := fun x hx => by
    rcases List.mem_or_eq_of_mem_set hx with h | rfl
    · exact hB x h
    · exact hc
  have l2 := crc_lt (B.set K c) (x := 4294967295) (by omega) hs
  have := crc_unlike (B.take K) (B.drop (K + 1)) c B[K] (x := 4294967295) (by omega) (fun x hx => hB x (List.mem_of_mem_take hx)) (fun x hx => hB x (List.mem_of_mem_drop hx)) hc (hB _ (by simp)) (by rwa [hg] at h)
  rw [← h1, ← h2] at this
  unfold chk
  omega
theorem four_rng (x : Nat) : ∀ c ∈ four x, 0 ≤ c ∧ c ≤ 255 := by
  intro c hc
  simp only [four, List.mem_cons, List.not_mem_nil, or_false] at hc
  omega
theorem four_len (x : Nat) : (four x).length = 4 := rfl
theorem num_four {x : Nat} (h : x < 4294967296) : num 0 (four x) = x := by
  simp only [four, num, Int.toNat_natCast]
  omega
theorem four_num {l : List Int} (h : l.length = 4) (hr : ∀ c ∈ l, 0 ≤ c ∧ c ≤ 255) : four (num 0 l) = l := by
  match l, h with
  | [a, b, c, d], _ =>
    have h1 := hr a (by simp); have h2 := hr b (by simp); have h3 := hr c (by simp); have h4 := hr d (by simp)
    simp only [four, num, List.cons.injEq, and_true]
    omega
/-- Sealed bytes. -/
def sealed (l : List Int) : List Int := l ++ four (chk l)
theorem sealed_len (l : List Int) : (sealed l).length = l.length + 4 := by simp [sealed, four_len]
theorem sealed_rng {l : List Int} (hr : ∀ c ∈ l, 0 ≤ c ∧ c ≤ 255) : ∀ c ∈ sealed l, 0 ≤ c ∧ c ≤ 255 := rng_app hr (four_rng _)
/-- One byte turned is told. -/
theorem told (B : List Int) (K : Nat) (c : Int) (hK : K < B.length + 4) (hB : ∀ c ∈ B, 0 ≤ c ∧ c ≤ 255) (hc : 0 ≤ c ∧ c ≤ 255) (h : c ≠ (sealed B).getD K 0) :
    chk (((sealed B).set K c).take B.length) ≠ num 0 (((sealed B).set K c).drop B.length) ∧ (K < B.length → chk (((sealed B).set K c).take B.length) ≠ chk B) := by
  by_cases hlt : K < B.length
  · have e1 : (sealed B).set K c = B.set K c ++ four (chk B) := by rw [sealed, List.set_append_left _ _ hlt]
    have hl : (B.set K c).length = B.length := by simp
    have hg : (sealed B).getD K 0 = B.getD K 0 := by simp [sealed, hlt, List.getElem?_append_left hlt]
    rw [hg] at h
    have hu := chk_unlike B K c hlt hB hc h
    rw [e1, List.take_append_of_le_length (by omega), List.take_of_length_le (by omega), List.drop_append_of_le_length (by omega), List.drop_of_length_le (by omega), List.nil_append, num_four (chk_lt B)]
    exact ⟨hu, fun _ => hu⟩
  · have e1 : (sealed B).set K c = B ++ (four (chk B)).set (K - B.length) c := by rw [sealed, List.set_append_right _ _ (by omega)]
    refine ⟨?_, fun h => absurd h hlt⟩
    rw [e1, List.take_append_of_le_length (by omega), List.take_of_length_le (by omega), List.drop_append_of_le_length (by omega), List.drop_of_length_le (by omega), List.nil_append]
    intro e
    have hr : ∀ x ∈ (four (chk B)).set (K - B.length) c, 0 ≤ x ∧ x ≤ 255 := fun x hx => by
      rcases List.mem_or_eq_of_mem_set hx with h | rfl
      · exact four_rng _ x h
      · exact hc
    have h4 := four_num (l := (four (chk B)).set (K - B.length) c) (by simp [four_len]) hr
    rw [← e] at h4
    apply h
    have hk : K - B.length < (four (chk B)).length := by rw [four_len]; omega
    have : (four (chk B))[K - B.length]? = ((four (chk B)).set (K - B.length) c)[K - B.length]? := by rw [← h4]
    rw [List.getElem?_set_self hk] at this
    simp only [sealed, List.getD_eq_getElem?_getD]
    rw [List.getElem?_append_right (by omega), this]
    rfl
end Go.Proofs.Ytlkkbfcedjedoaa.Sm
