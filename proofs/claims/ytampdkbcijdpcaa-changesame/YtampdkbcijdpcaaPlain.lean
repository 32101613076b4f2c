/- Plain mathematics of numbers as bytes: how a number is written in seven bits a byte and in so many bytes, how it is read, and that these go together. No conditions beyond those in each statement; nothing of the program is named. -/
import Derived.WalkKit
namespace Go.Proofs.Ytampdkbcijdpcaa

/-- A number in seven bits a byte, in at most f bytes. -/
def encF : Nat → Nat → List Int
  | 0, _ => []
  | f + 1, x => if 128 ≤ x then ((x % 128 + 128 : Nat) : Int) :: encF f (x / 128) else [(x : Int)]
def enc (x : Nat) : List Int := encF 8 x

theorem encF_rng : ∀ f x, ∀ c ∈ encF f x, 0 ≤ c ∧ c ≤ 255
  | 0, _ => by simp [encF]
  | f + 1, x => by
    intro c hc
    unfold encF at hc
    split at hc
    · rcases List.mem_cons.1 hc with rfl | hc
      · omega
      · exact encF_rng f _ c hc
    · simp only [List.mem_singleton] at hc
      subst hc
      omega
theorem enc_rng (x : Nat) : ∀ c ∈ enc x, 0 ≤ c ∧ c ≤ 255 := encF_rng 8 x
theorem encF_len : ∀ f x, (encF f x).length ≤ f
  | 0, _ => by simp [encF]
  | f + 1, x => by
    unfold encF
    split
    · have := encF_len f (x / 128); simp; omega
    · simp
theorem enc_len (x : Nat) : (enc x).length ≤ 8 := encF_len 8 x

theorem pow_step {f y : Nat} (hy : 128 ≤ y) (h : y < 128 ^ f) : ∃ g, f = g + 1 ∧ y / 128 < 128 ^ g ∧ 0 < g := by
  cases f with
  | zero => simp at h; omega
  | succ g =>
    rw [Nat.pow_succ] at h
    refine ⟨g, rfl, by omega, ?_⟩
    cases g with
    | zero => simp at h; omega
    | succ _ => omega

theorem mask127_u64 {y : Int} (h0 : 0 ≤ y) (h1 : y < 18446744073709551616) : bits .and .u64 y 127 = y % 128 :=
  bits_mask .u64 64 (by decide) (fun n h0 h1 => by rw [IntKind.wrap_u64]; omega) 7 (by decide) y h0 (by omega)
theorem or128_u64 {y : Int} (h0 : 0 ≤ y) (h1 : y < 128) : bits .or .u64 y 128 = y + 128 := by
  obtain ⟨n, rfl⟩ := Int.eq_ofNat_of_zero_le h0
  have hn : n < 128 := by omega
  have h := bits_or_u64_nat n 128 (by omega) (by omega)
  have h2 : n ||| 128 = n + 128 := by
    have : ∀ k : Fin 128, k.val ||| 128 = k.val + 128 := by decide
    exact this ⟨n, hn⟩
  rw [h2] at h
  simpa using h

/-- The number at the front of bytes: the number, how many bytes it has, the error; s: what the first i bytes come to. -/
def num (s i : Nat) : List Int → Int × Int × Int
  | [] => (0, 0, 3)
  | c :: r =>
    if c < 128 then (if 0 < i ∧ c = 0 then (0, 0, 4) else if 9007199254740991 < s + (c.toNat % 128) * 128 ^ i then (0, 0, 4) else (((s + (c.toNat % 128) * 128 ^ i : Nat) : Int), ((i + 1 : Nat) : Int), 0))
    else if i = 7 then (0, 0, 4) else num (s + (c.toNat % 128) * 128 ^ i) (i + 1) r
theorem mask127_u8 {y : Int} (h0 : 0 ≤ y) (h1 : y ≤ 255) : bits .and .u8 y 127 = y % 128 :=
  bits_mask .u8 8 (by decide) wraps_u8 7 (by decide) y h0 (by omega)
theorem and128_u8 {y : Int} (h0 : 0 ≤ y) (h1 : y ≤ 255) : bits .and .u8 y 128 = if y < 128 then 0 else 128 := by
  obtain ⟨n, rfl⟩ := Int.eq_ofNat_of_zero_le h0
  have hn : n < 256 := by omega
  have h := bits_nat .u8 8 (by decide) wraps_u8 n 128 (by omega) (by omega)
  have h2 : ∀ k : Fin 256, k.val &&& 128 = if k.val < 128 then 0 else 128 := by decide +kernel
  have h3 := h2 ⟨n, hn⟩
  simp only at h3
  have h4 := h.1
  rw [h3] at h4
  rw [show ((128 : Nat) : Int) = (128 : Int) from rfl] at h4
  rw [h4]
  by_cases hc : n < 128
  · rw [if_pos hc, if_pos (by omega)]; rfl
  · rw [if_neg hc, if_neg (by omega)]; rfl
theorem or_shift {x k : Nat} {c : Int} (hx : x < 128 ^ k) (hk : k ≤ 7) (h0 : 0 ≤ c) (h1 : c < 128) : bits .or .u64 (x : Int) (IntKind.u64.wrap (c * 2 ^ (7 * k))) = ((x + c.toNat * 128 ^ k : Nat) : Int) := by
  obtain ⟨n, rfl⟩ := Int.eq_ofNat_of_zero_le h0
  have hp : (2 : Int) ^ (7 * k) = ((128 ^ k : Nat) : Int) := by rw [Int.pow_mul]; simp
  rw [hp, Int.toNat_natCast]
  have hk8 : 128 ^ k ≤ 128 ^ 7 := Nat.pow_le_pow_right (by omega) hk
  have hle : n * 128 ^ k ≤ 127 * 128 ^ 7 := Nat.mul_le_mul (by omega) hk8
  have hm : IntKind.u64.wrap ((n : Int) * ((128 ^ k : Nat) : Int)) = ((n * 128 ^ k : Nat) : Int) := by
    rw [IntKind.wrap_u64, ← Int.natCast_mul]
    exact Int.emod_eq_of_lt (by omega) (by omega)
  rw [hm, bits_or_u64_nat _ _ (by omega) (by omega)]
  congr 1
  rw [Nat.or_comm, show (128 : Nat) ^ k = 2 ^ (7 * k) from by rw [Nat.pow_mul]]
  rw [← Nat.mul_comm (2 ^ (7 * k)) n, ← Nat.two_pow_add_eq_or_of_lt (by rw [show (2 : Nat) ^ (7 * k) = 128 ^ k from by rw [Nat.pow_mul]]; exact hx), Nat.add_comm]
theorem drop_cons {l : List Int} {k : Nat} (hk : k < l.length) : l.drop k = l.getD k 0 :: l.drop (k + 1) := by
  rw [List.drop_eq_getElem_cons hk]
  simp [hk]
theorem getD_mem {l : List Int} {k : Nat} (hk : k < l.length) : l.getD k 0 ∈ l := by
  simp [hk]
theorem acc_lt {x k : Nat} {c : Int} (hx : x < 128 ^ k) (h0 : 0 ≤ c) (h1 : c < 128) : x + c.toNat * 128 ^ k < 128 ^ (k + 1) := by
  have : c.toNat * 128 ^ k ≤ 127 * 128 ^ k := Nat.mul_le_mul_right _ (by omega)
  rw [Nat.pow_succ]
  omega
theorem num_size : ∀ (l : List Int) (s i : Nat), 0 ≤ (num s i l).2.1 ∧ ((num s i l).2.1 = 0 ∨ ((i : Int) + 1 ≤ (num s i l).2.1 ∧ (num s i l).2.1 ≤ i + l.length))
  | [], s, i => by simp [num]
  | c :: r, s, i => by
    unfold num
    split
    · split
      · simp
      · split
        · simp
        · simp; omega
    · split
      · simp
      · have := num_size r (s + (c.toNat % 128) * 128 ^ i) (i + 1)
        simp only [List.length_cons]
        omega
theorem num_val : ∀ (l : List Int) (s i : Nat), ((num s i l).2.2 = 0 ∧ 0 ≤ (num s i l).1 ∧ (num s i l).1 ≤ 9007199254740991 ∧ (i : Int) + 1 ≤ (num s i l).2.1) ∨ (((num s i l).2.2 = 3 ∨ (num s i l).2.2 = 4) ∧ (num s i l).1 = 0 ∧ (num s i l).2.1 = 0)
  | [], s, i => by simp [num]
  | c :: r, s, i => by
    unfold num
    split
    · split
      · simp
      · split
        · simp
        · refine .inl ⟨rfl, ?_, ?_, ?_⟩ <;> dsimp only <;> omega
    · split
      · simp
      · have := num_val r (s + (c.toNat % 128) * 128 ^ i) (i + 1)
        omega

/-- A number in so many bytes, the highest first. -/
def fx (l : List Int) : Nat := l.foldl (fun s c => s * 256 + c.toNat) 0
theorem fx_snoc (l : List Int) (c : Int) : fx (l ++ [c]) = fx l * 256 + c.toNat := by simp [fx]
theorem fx_take {l : List Int} {k : Nat} (hk : k < l.length) : fx (l.take (k + 1)) = fx (l.take k) * 256 + (l.getD k 0).toNat := by
  rw [List.take_succ_eq_append_getElem hk, fx_snoc]
  simp [hk]
theorem fx_lt (l : List Int) (hr : ∀ c ∈ l, 0 ≤ c ∧ c ≤ 255) : ∀ k, k ≤ l.length → fx (l.take k) < 256 ^ k
  | 0, _ => by simp [fx]
  | k + 1, h => by
    have h1 := fx_lt l hr k (by omega)
    have h2 := hr _ (getD_mem (l := l) (k := k) (by omega))
    rw [fx_take (by omega), Nat.pow_succ]
    omega
theorem or256 {x : Nat} {c : Int} (hx : x < 72057594037927936) (h0 : 0 ≤ c) (h1 : c ≤ 255) : bits .or .u64 ((x : Int) * 256) c = ((x * 256 + c.toNat : Nat) : Int) := by
  obtain ⟨n, rfl⟩ := Int.eq_ofNat_of_zero_le h0
  rw [show (x : Int) * 256 = ((x * 256 : Nat) : Int) from by omega, bits_or_u64_nat _ _ (by omega) (by omega), Int.toNat_natCast]
  congr 1
  rw [Nat.mul_comm x 256]
  exact (Nat.two_pow_add_eq_or_of_lt (i := 8) (b := n) (by omega) x).symm
theorem and_max (a : Int) : 0 ≤ bits .and .i64 a 9007199254740991 ∧ bits .and .i64 a 9007199254740991 ≤ 9007199254740991 := by
  have h : bits .and .i64 a 9007199254740991 = IntKind.i64.wrap (((BitVec.ofInt 64 a).toNat &&& 9007199254740991 : Nat) : Int) := by
    rfl
  have h2 : (BitVec.ofInt 64 a).toNat &&& 9007199254740991 ≤ 9007199254740991 := Nat.and_le_right
  rw [h, IntKind.wrap_i64]
  omega
theorem encF_pos (f x : Nat) (hf : 0 < f) : 0 < (encF f x).length := by
  cases f with
  | zero => omega
  | succ f => unfold encF; split <;> simp
theorem encF_mono : ∀ f x y, x ≤ y → (encF f x).length ≤ (encF f y).length
  | 0, x, y, _ => by simp [encF]
  | f + 1, x, y, h => by
    unfold encF
    by_cases hx : 128 ≤ x
    · rw [if_pos hx, if_pos (by omega)]
      have := encF_mono f (x / 128) (y / 128) (by omega)
      simp; omega
    · rw [if_neg hx]
      split <;> simp
theorem encF_free : ∀ f x y, x < 128 ^ f → y < 128 ^ f → encF f x = (encF f y).take (encF f x).length → x = y
  | 0, x, y, hx, hy, _ => by simp at hx hy; omega
  | f + 1, x, y, hx, hy, h => by
    unfold encF at h
    rw [Nat.pow_succ] at hx hy
    by_cases h1 : 128 ≤ x <;> by_cases h2 : 128 ≤ y
    · simp only [if_pos h1, if_pos h2, List.length_cons, List.take_succ_cons, List.cons.injEq] at h
      have := encF_free f (x / 128) (y / 128) (by omega) (by omega) h.2
      have := h.1
      omega
    · simp only [if_pos h1, if_neg h2, List.length_cons, List.take_succ_cons, List.cons.injEq] at h
      have := h.1
      omega
    · simp only [if_neg h1, if_pos h2, List.length_cons, List.length_nil, List.take_succ_cons, List.cons.injEq] at h
      have := h.1
      omega
    · simp only [if_neg h1, if_neg h2, List.length_cons, List.length_nil, List.take_succ_cons, List.cons.injEq] at h
      have := h.1
      omega
theorem div_max {X : Int} {n : Nat} (h0 : 0 ≤ X) (h : X ≤ 9007199254740991) : 0 ≤ X / 2 ^ n ∧ X / 2 ^ n ≤ 9007199254740991 := by
  have hp : (0 : Int) < 2 ^ n := Int.pow_pos (by omega)
  exact ⟨Int.ediv_nonneg h0 (by omega), Int.le_trans (Int.ediv_le_self _ h0) h⟩
end Go.Proofs.Ytampdkbcijdpcaa
