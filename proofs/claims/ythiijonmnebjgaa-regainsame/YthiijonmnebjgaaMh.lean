/- For RegainSame: bits as plain numbers; many windows side by side; the law's numbersOf. Conditions: windows of at most a million data. -/
import Derived.Test.YthiijonmnebjgaaMe
import Derived.Test.YthiijonmnebjgaaYi
namespace Go.Proofs.Ythiijonmnebjgaa
open Go.RowKit
/-- Operations on numbers of 64 bits. -/
theorem and_u (x y : Nat) (hx : x < 2 ^ 64) (hy : y < 2 ^ 64) : bits .and .u64 (x : Int) (y : Int) = ((x &&& y : Nat) : Int) := by
  have e : ((BitVec.ofInt 64 (x : Int) &&& BitVec.ofInt 64 (y : Int)).toNat) = x &&& y := by
    rw [BitVec.toNat_and, BitVec.toNat_ofInt, BitVec.toNat_ofInt]
    congr 1 <;> omega
  have hle : x &&& y ≤ x := Nat.and_le_left
  show IntKind.u64.wrap ((BitVec.ofInt 64 (x : Int) &&& BitVec.ofInt 64 (y : Int)).toNat : Nat) = _
  rw [e]
  show (((x &&& y : Nat) : Int)) % 18446744073709551616 = _
  omega
theorem or_u (x y : Nat) (hx : x < 2 ^ 64) (hy : y < 2 ^ 64) : bits .or .u64 (x : Int) (y : Int) = ((x ||| y : Nat) : Int) := by
  have e : ((BitVec.ofInt 64 (x : Int) ||| BitVec.ofInt 64 (y : Int)).toNat) = x ||| y := by
    rw [BitVec.toNat_or, BitVec.toNat_ofInt, BitVec.toNat_ofInt]
    congr 1 <;> omega
  have hle : x ||| y < 2 ^ 64 := Nat.or_lt_two_pow hx hy
  show IntKind.u64.wrap ((BitVec.ofInt 64 (x : Int) ||| BitVec.ofInt 64 (y : Int)).toNat : Nat) = _
  rw [e]
  show (((x ||| y : Nat) : Int)) % 18446744073709551616 = _
  omega
/-- Whether a number's bit is there, for data with numbers from 1. -/
def sB (m j : Nat) : Int → Bool := fun k => decide (1 ≤ k ∧ k ≤ (j : Int)) && m.testBit (k - 1).toNat
theorem sB_zero (m : Nat) : sB m 0 = S0 := by
  funext k
  simp only [sB, S0]
  rw [show decide (1 ≤ k ∧ k ≤ ((0 : Nat) : Int)) = false by simp; omega]
  rfl
theorem sB_yes {m j : Nat} (h : m.testBit j = true) : ins (sB m j) ((j : Int) + 1) = sB m (j + 1) := by
  funext k
  simp only [ins, sB]
  by_cases e : k = (j : Int) + 1
  · subst e
    rw [show ((j : Int) + 1 - 1).toNat = j by omega, h]
    simp
    omega
  · rw [show (k == (j : Int) + 1) = false by simpa using e, Bool.or_false]
    congr 1
    simp only [decide_eq_decide]
    omega
theorem sB_no {m j : Nat} (h : m.testBit j = false) : sB m j = sB m (j + 1) := by
  funext k
  simp only [sB]
  by_cases e : k = (j : Int) + 1
  · subst e
    rw [show ((j : Int) + 1 - 1).toNat = j by omega, h]
    simp
  · congr 1
    simp only [decide_eq_decide]
    omega
theorem sB_new {m j : Nat} : sB m j ((j : Int) + 1) = false := by
  simp only [sB]
  rw [show decide (1 ≤ (j : Int) + 1 ∧ (j : Int) + 1 ≤ (j : Int)) = false by simp; omega]
  rfl
theorem sB_rng {m j : Nat} {k : Int} (h : sB m j k = true) : 1 ≤ k ∧ k ≤ (j : Int) := by
  simp only [sB, Bool.and_eq_true, decide_eq_true_eq] at h
  exact h.1
theorem bit_val (m j : Nat) : m >>> j &&& 1 = if m.testBit j then 1 else 0 := by
  rw [Nat.and_one_is_mod, Nat.shiftRight_eq_div_pow, Nat.testBit_eq_decide_div_mod_eq]
  rcases Nat.mod_two_eq_zero_or_one (m / 2 ^ j) with h | h <;> simp [h]
/-- The bits that a node has; those of all of the first i. -/
def bN (H : List Int) (low i : Nat) : Nat := (2 ^ low - 1) ||| (if i < H.length then (H.getD i 0).toNat &&& 1099511627775 else 0)
def aN (H : List Int) (low : Nat) : Nat → Nat
  | 0 => 0
  | i + 1 => aN H low i ||| bN H low i
theorem bN_lt {H : List Int} {low i : Nat} (hl : low ≤ 20) : bN H low i < 2 ^ 40 := by
  refine Nat.or_lt_two_pow ?_ ?_
  · have : 2 ^ low ≤ 2 ^ 20 := Nat.pow_le_pow_right (by omega) hl
    have : (2 : Nat) ^ 20 < 2 ^ 40 := by decide
    omega
  · split
    · exact Nat.lt_of_le_of_lt Nat.and_le_right (by decide)
    · decide
theorem aN_lt {H : List Int} {low : Nat} (hl : low ≤ 20) : ∀ i, aN H low i < 2 ^ 40
  | 0 => by show 0 < 2 ^ 40; decide
  | i + 1 => Nat.or_lt_two_pow (aN_lt hl i) (bN_lt hl)
theorem aN_bit {H : List Int} {low : Nat} (t : Nat) : ∀ i, (aN H low i).testBit t = true ↔ ∃ j, j < i ∧ (bN H low j).testBit t = true
  | 0 => by simp [aN]
  | i + 1 => by
    rw [aN, Nat.testBit_or, Bool.or_eq_true, aN_bit t i]
    constructor
    · rintro (⟨j, h1, h2⟩ | h)
      · exact ⟨j, by omega, h2⟩
      · exact ⟨i, by omega, h⟩
    · rintro ⟨j, h1, h2⟩
      by_cases e : j = i
      · subst e; exact .inr h2
      · exact .inl ⟨j, by omega, h2⟩
theorem bN_low {H : List Int} {low i t : Nat} (h : t < low) : (bN H low i).testBit t = true := by
  rw [bN, Nat.testBit_or, Nat.testBit_two_pow_sub_one]
  simp [h]
/-- New, and how many there are. -/
theorem New_jl {w : World} {p : Nat} {X : Nat → Prop} {q r : Int} {S : Int → Bool} {a h : Int} {n : Nat} (hw : Wn w p X (jOf q r S) a h n) (hq : isr q r = true) (hS : ∀ k, S k = true → 1 ≤ k ∧ k ≤ 100) (hn : n ≤ 1000000) (low : Int) : Calls Try.prog 10 #[.pointer (some ⟨p, 0, none⟩), .int .i64 low] w fun e w' => ∃ b zs, e = .returned (.tuple #[.pointer (some ⟨b, 0, none⟩), .int .i64 0]) ∧ Kz S low zs ∧ zs.length ≤ n ∧ Rg w' b (fun i => w.heap.size ≤ i ∧ i < w'.heap.size) (zs.map (fun k => oldm (onR q r k))) ∧ Mod (fun _ => False) w w' := by
  refine (New_w hw hn low).mono ?_
  rintro e w' ⟨b, zs, rfl, hk, hl, hg, hm⟩
  have hmem : ∀ x, x ∈ zs ↔ (low < x ∧ S x = true) := fun x => by rw [hk.mem, jOf_some]
  have hz : ∀ k ∈ zs, 1 ≤ k ∧ k ≤ 100 := fun k h => hS k ((hmem k).1 h).2
  have he : zs.map (fun k => (jOf q r S k).getD d0) = zs.map (onR q r) := List.map_congr_left fun k h => by
    simp [jOf, ((hmem k).1 h).2]
  rw [he, snt_j hq zs hz] at hg
  exact ⟨b, zs, rfl, ⟨hk.up, hmem⟩, hl, hg, hm⟩
theorem infoWq : (Try.prog.info? 28).map (fun i => (i.zero, i.size, i.bytes)) = some (some (.pointer none), 1, 8) := by kernel_rfl
theorem elW : El 27 28 1 8 := ⟨Try.underlying27, by
  have h := infoWq
  cases hi : Try.prog.info? 28 with
  | none => rw [hi] at h; cases h
  | some i =>
    rw [hi] at h
    simp only [Option.map_some, Option.some.injEq, Prod.mk.injEq] at h
    exact ⟨i, _, rfl, h.1, h.2.1, h.2.2, rfl⟩⟩
/-- Pointers to windows, as cells. -/
def pts (P : Nat → Nat) (n : Nat) : List Value := (List.range n).map fun i => .pointer (some ⟨P i, 0, none⟩)
theorem pts_get {P : Nat → Nat} {n i : Nat} (h : i < n) : (pts P n)[i]? = some (.pointer (some ⟨P i, 0, none⟩)) := by
  simp [pts, h]
/-- Windows side by side, blocks apart, pointed to by a row. -/
structure Ws (w : World) (v : Value) (n : Nat) (P : Nat → Nat) (X : Nat → Nat → Prop) (S : Nat → Int → Bool) (c b : Nat) : Prop where
  row : RG w 28 1 v n (pts P n)
  win : ∀ i, i < n → ∃ a h, Wn w (P i) (X i) (jOf 2 1 (S i)) a h c
  dis : ∀ i j, i < n → j < n → i ≠ j → ∀ k, X i k → ¬ X j k
  rx : ∀ i, i < n → ∀ g, v.ownBlock = some g → ¬ X i g
  sb : ∀ i, i < n → ∀ k, S i k = true → 1 ≤ k ∧ k ≤ 40
  new : ∀ i, i < n → ∀ k, X i k → b ≤ k
  vb : ∀ g, v.ownBlock = some g → b ≤ g
theorem Ws.mod {T : Nat → Prop} {w w' : World} {v : Value} {n : Nat} {P : Nat → Nat} {X : Nat → Nat → Prop} {S : Nat → Int → Bool} {c b : Nat} (h : Ws w v n P X S c b) (hm : Mod T w w') (hT : ∀ k, T k → (∀ i, i < n → ¬ X i k) ∧ v.ownBlock ≠ some k) : Ws w' v n P X S c b :=
  ⟨h.row.mod hm (fun g hg e => (hT g e).2 hg), fun i hi => by
    obtain ⟨a, hh, hw⟩ := h.win i hi
    exact ⟨a, hh, hw.mod hm (fun k hk e => (hT k e).1 i hi hk)⟩, h.dis, h.rx, h.sb, h.new, h.vb⟩
theorem Ws.keep {w w' : World} {v : Value} {n : Nat} {P : Nat → Nat} {X : Nat → Nat → Prop} {S : Nat → Int → Bool} {c b : Nat} (h : Ws w v n P X S c b) (hm : Mod (fun _ => False) w w') : Ws w' v n P X S c b := h.mod hm (fun _ h => h.elim)
theorem Ws.lt {w : World} {v : Value} {n : Nat} {P : Nat → Nat} {X : Nat → Nat → Prop} {S : Nat → Int → Bool} {c b : Nat} (h : Ws w v n P X S c b) : ∀ i, i < n → ∀ k, X i k → k < w.heap.size := fun i hi k hk => by
  obtain ⟨a, hh, hw⟩ := h.win i hi
  exact hw.mem.lt k hk
def up {α : Type} (f : Nat → α) (i : Nat) (x : α) : Nat → α := fun j => if j = i then x else f j
theorem up_same {α : Type} (f : Nat → α) (i : Nat) (x : α) : up f i x i = x := by simp [up]
theorem up_ne {α : Type} (f : Nat → α) {i j : Nat} (x : α) (h : j ≠ i) : up f i x j = f j := by simp [up, h]
/-- One of them turned. -/
theorem Ws.turn {w w' : World} {v : Value} {n : Nat} {P : Nat → Nat} {X : Nat → Nat → Prop} {S : Nat → Int → Bool} {c b : Nat} (h : Ws w v n P X S c b) {i : Nat} (hi : i < n) {X' : Nat → Prop} {S' : Int → Bool} {a' h' : Int} {c' : Nat} (hw : Wn w' (P i) X' (jOf 2 1 S') a' h' c') (hm : Mod (X i) w w') (hg : Gone w (X i) X') (hs : ∀ k, S' k = true → 1 ≤ k ∧ k ≤ 40) (hb : b ≤ w.heap.size) (hc : c ≤ c') : Ws w' v n P (up X i X') (up S i S') c' b := by
  have hlt := h.lt
  refine ⟨h.row.mod hm (fun g hg' e => h.rx i hi g hg' e), fun j hj => ?_, fun j k hj hk hjk x hx => ?_, fun j hj g hg' => ?_, fun j hj k hk => ?_, fun j hj k hk => ?_, h.vb⟩
  · by_cases e : j = i
    · subst e
      rw [up_same, up_same]
      exact ⟨a', h', hw⟩
    · rw [up_ne _ _ e, up_ne _ _ e]
      obtain ⟨a, hh, hw'⟩ := h.win j hj
      exact ⟨a, hh, (hw'.mod hm (fun k hk => h.dis j i hj hi e k hk)).le hc⟩
  · by_cases e : j = i
    · subst e
      rw [up_same] at hx
      rw [up_ne _ _ (fun e => hjk e.symm)]
      intro hy
      rcases hg x hx with h1 | h1
      · exact h.dis j k hj hk hjk x h1 hy
      · have := hlt k hk x hy; omega
    · rw [up_ne _ _ e] at hx
      by_cases e2 : k = i
      · subst e2
        rw [up_same]
        intro hy
        rcases hg x hy with h1 | h1
        · exact h.dis j k hj hk hjk x hx h1
        · have := hlt j hj x hx; omega
      · rw [up_ne _ _ e2]
        exact h.dis j k hj hk hjk x hx
  · by_cases e : j = i
    · subst e
      rw [up_same]
      intro hy
      rcases hg g hy with h1 | h1
      · exact h.rx j hj g hg' h1
      · have := h.row.lt g hg'; omega
    · rw [up_ne _ _ e]
      exact h.rx j hj g hg'
  · by_cases e : j = i
    · subst e
      rw [up_same] at hk
      exact hs k hk
    · rw [up_ne _ _ e] at hk
      exact h.sb j hj k hk
  · by_cases e : j = i
    · subst e
      rw [up_same] at hk
      rcases hg k hk with h1 | h1
      · exact h.new j hj k h1
      · omega
    · rw [up_ne _ _ e] at hk
      exact h.new j hj k hk
set_option maxRecDepth 100000 in
set_option maxHeartbeats 2000000 in
theorem numbersOf_j {w0 : World} {p : Nat} {X : Nat → Prop} {q r : Int} {S : Int → Bool} {a h : Int} {n : Nat} (hw : Wn w0 p X (jOf q r S) a h n) (hn : n ≤ 1000000) (zz : List Int) (hz : Kz S 0 zz) : Calls Try.prog 16 #[.pointer (some ⟨p, 0, none⟩)] w0 fun e w' => ∃ u, e = .returned u ∧ Cr.Own w' u zz ∧ Mod (fun _ => False) w0 w' ∧ (∀ g, u.ownBlock = some g → w0.heap.size ≤ g) := by
  have HAB := Above_j hw hn 0
  clear hw
  go_enter Try.func16, Try.ntmps16
  go_wp2_with (fail)
  refine HAB.mono ?_
  rintro e w ⟨v, ds, zs, rfl, hRD, hk, hmap, hlz, hM0⟩
  obtain rfl := hz.uniq hk
  have HZZ : Hid (ds.map (·.1.n) = zz) := by
    show _ = _
    have := congrArg (List.map Dt.n) hmap
    simp only [List.map_map] at this
    rw [show (Dt.n ∘ onR q r) = id from rfl, List.map_id] at this
    exact this
  have HM0 : Hid (Mod (fun _ => False) w0 w) := hM0
  have hl : ds.length ≤ 1000000 := by have := congrArg List.length hmap; simp at this; omega
  have HR : Hid (RG w 41 18 v ds.length (fd ds)) := hRD.row
  obtain ⟨av, cv, rfl⟩ := hRD.row.shape
  clear hRD HAB hk hz hmap hlz hM0
  go_wp2_with (fail)
  go_loopw [3, 5] (fun u i wr => ∃ (j : Nat), i = .int .i64 (j : Int) ∧ j ≤ ds.length ∧ Cr.Own wr u ((ds.take j).map (·.1.n)) ∧ Mod (fun _ => False) w wr ∧ Hid (∀ g, u.ownBlock = some g → w.heap.size ≤ g)) (fun _ i _ => ds.length - (intOf i).toNat)
  case atStart => exact ⟨0, rfl, Nat.zero_le _, by simpa using Cr.Own.nil _, Mod.refl _ _, by intro g hg; simp [Value.ownBlock] at hg⟩
  case round =>
    obtain ⟨j, rfl, hj, ho, hMr, hnew⟩ := hrel
    by_cases hlt : j < ds.length
    · have hlt' : (j : Int) < (ds.length : Int) := by omega
      obtain ⟨x, hx⟩ : ∃ x, ds[j]? = some x := ⟨ds[j], List.getElem?_eq_getElem hlt⟩
      obtain ⟨gb, of, cp, e, hrg⟩ := (HR.out.mod hMr (fun _ _ h => h)).range (by omega)
      cases e
      have c2 : wr.cell? ⟨gb, of + j * 18 + 2, none⟩ = some (.int .i64 x.1.n) := by
        have := hrg (j * 18 + 2) _ (fd_get ds j x hx 2 (.int .i64 x.1.n) rfl)
        rwa [← Nat.add_assoc] at this
      obtain ⟨ao, cp2, rfl⟩ := ho.shape
      have HT : Hid ((ds.take (j + 1)).map (·.1.n) = (ds.take j).map (·.1.n) ++ [x.1.n]) := by
        show _ = _
        rw [List.take_add_one, hx, List.map_append]
        rfl
      have HL : Hid (((ds.take j).map (·.1.n)).length + 1 ≤ 1000000000000) := by show _ ≤ _; simp; omega
      have hb1 : (0 : Int) ≤ (j : Int) := by omega
      have hjb : (j : Int) + 1 ≤ 1000000 := by omega
      have HLT : Hid (j < ds.length) := hlt
      clear hrg hx
      generalize (ds.take j).map (·.1.n) = L at *
      generalize x.1.n = y at *
      go_wp2_with (at_builtin; refine wpList_app1 rfl _ _ rfl _ L y wr.heap.size rfl rfl (ho.mod ((Mod.refl (fun _ => False) wr).alloc _) (fun _ _ h => h)) (Bk.new wr #[.int .i64 y] 3).cellz HL.out ?_; intro v4 w4 ho4 hm4 hf4)
      have HN4 : Hid (∀ g, v4.ownBlock = some g → w.heap.size ≤ g) := fun g hg => by
        rcases hf4 g hg with h1 | h1
        · exact hnew.out g h1
        · have := hMr.size; simp at h1; omega
      have HM4 : Hid (Mod (fun _ => False) w w4) := (hMr.alloc _).trans hm4 (fun _ _ h => h) (fun g hg e => by have := hnew.out g e; omega)
      clear hf4 hm4
      go_roundw
      case rel => exact ⟨j + 1, by go_num, HLT.out, by rw [HT.out]; exact ho4, HM4.out, HN4⟩
      case measure =>
        have := HLT.out
        simp [intOf]
        omega
    · have HE : Hid (j = ds.length) := by show _ = _; omega
      obtain ⟨ao, cp2, rfl⟩ := ho.shape
      go_wp2
      go_ret
      have hl2 : (ds.take j).map (·.1.n) = ds.map (·.1.n) := by rw [HE.out, List.take_length]
      refine ⟨_, rfl, ?_, HM0.out.and hMr, fun g hg => Nat.le_trans HM0.out.size (hnew.out g hg)⟩
      rw [← HZZ.out, ← hl2]
      exact ho
end Go.Proofs.Ythiijonmnebjgaa
