/- Contracts of the document's Check, Count, Next and Least. Conditions: none. -/
import Derived.Test.YtlhgpbelgifnpaaLi
namespace Go.Proofs.Ytlhgpbelgifnpaa
open Go.RowKit
theorem RCount (c : Int) (w : World) : Calls Try.prog 17 #[.int .i64 c] w fun e w' => e = .returned (.int .i64 (cn (lo c))) ∧ Mod (fun _ => False) w w' := by
  have H := RList c w
  rw [cn]
  generalize ls (lo c) = L at H ⊢
  go_enter Try.func17, Try.ntmps17
  go_wp2_with (go_at_call 13; refine H.mono ?_; rintro e w' ⟨v, rfl, ho, hm, hn⟩; obtain ⟨ao, cap, rfl⟩ := ho.shape)
  go_ret
  exact ⟨rfl, hm⟩
theorem RCheck (c : Int) (w : World) : Calls Try.prog 10 #[.int .i64 c] w fun e w' => e = .returned (.int .i64 (chk c)) ∧ Mod (fun _ => False) w w' := by
  have H := RList c w
  have K := fun v w => ROf v (ls (lo c)) w
  have hx : ofx (ls (lo c)) = lo c &&& 510 := by rw [ofx, off_ls ⟨lo c, lo_lt c⟩]; rfl
  rw [hx] at K
  generalize ofe (ls (lo c)) = E at K
  have HC : Hid (chk c = if ((lo c &&& 510 : Nat) : Int) = c then 0 else 2) := rfl
  generalize chk c = C at HC ⊢
  generalize ls (lo c) = L at H K
  generalize lo c &&& 510 = x at K HC
  clear hx
  by_cases h : (x : Int) = c
  · have e : Hid (C = 0) := by have := HC.out; rw [if_pos h] at this; exact this
    subst h
    clear HC
    go_enter Try.func10, Try.ntmps10
    go_wp2_with (first | (go_at_call 13; refine H.mono ?_; rintro e w' ⟨v, rfl, ho, hm, hn⟩; have K2 := K v w' ho.sl; clear K) | (go_at_call 25; refine K2.mono ?_; rintro e w2 ⟨rfl, rfl⟩))
    go_ret
    exact ⟨by rw [e.out]; rfl, hm⟩
  · have e : Hid (C = 2) := by have := HC.out; rw [if_neg h] at this; exact this
    have hne : ((x : Int) != c) = true := by simpa using h
    clear HC h
    go_enter Try.func10, Try.ntmps10
    go_wp2_with (first | (go_at_call 13; refine H.mono ?_; rintro e w' ⟨v, rfl, ho, hm, hn⟩; have K2 := K v w' ho.sl; clear K) | (go_at_call 25; refine K2.mono ?_; rintro e w2 ⟨rfl, rfl⟩))
    go_ret
    exact ⟨by rw [e.out]; rfl, hm⟩
/-- The first above n, or the first of all. -/
def fst' (l : List Int) (n : Int) : Int := (l.find? (fun x => decide (n < x))).getD (l.headD 0)
def cl (n : Int) : Nat := if n < 0 then 0 else if 8 < n then 8 else n.toNat
theorem cl_le (n : Int) : cl n ≤ 8 := by unfold cl; split; omega; split; omega; omega
theorem abf_cl (m : Nat) (n : Int) : ∀ f, abf m n f = abf m (cl n) f
  | 0 => rfl
  | f + 1 => by
    rw [abf, abf, abf_cl m n f]
    have : (decide (n < ((8 - f : Nat) : Int)) && hs m (8 - f)) = (decide ((cl n : Int) < ((8 - f : Nat) : Int)) && hs m (8 - f)) := by
      cases h : hs m (8 - f) with
      | false => simp
      | true =>
        have := hs_pos h
        have e : n < ((8 - f : Nat) : Int) ↔ (cl n : Int) < ((8 - f : Nat) : Int) := by
          unfold cl
          split
          · omega
          · split <;> omega
        simp [e]
    rw [this]
theorem nx_cl (m : Nat) (n : Int) : nx m n = nx m (cl n) := by
  unfold nx ab
  rw [← abf_cl m n 9]
theorem fst_eq (c n : Int) : fst' (ls (lo c)) n = nx (lo c) n := by
  have hn := ls_node ⟨lo c, lo_lt c⟩
  have h := ls_find ⟨lo c, lo_lt c⟩ ⟨cl n, by have := cl_le n; omega⟩
  rw [nx_cl, ← h, fst']
  congr 1
  simp only [List.all_eq_true, Bool.and_eq_true, decide_eq_true_eq] at hn
  have : ∀ l : List Int, (∀ x ∈ l, 1 ≤ x ∧ x ≤ 8) → l.find? (fun x => decide (n < x)) = l.find? (fun x => decide ((cl n : Int) < x)) := by
    intro l hl
    induction l with
    | nil => rfl
    | cons a l ih =>
      have ha := hl a (List.mem_cons_self ..)
      have e : n < a ↔ (cl n : Int) < a := by
        unfold cl
        split
        · omega
        · split <;> omega
      rw [List.find?_cons, List.find?_cons, ih fun x hx => hl x (List.mem_cons_of_mem _ hx)]
      simp only [e]
  exact this _ fun x hx => ⟨(hn x hx).1.1, (hn x hx).1.2⟩
theorem RNext (c n : Int) (w : World) : Calls Try.prog 21 #[.int .i64 c, .int .i64 n] w fun e w' => e = .returned (.int .i64 (nx (lo c) n)) ∧ Mod (fun _ => False) w w' := by
  have H := RList c w
  rw [← fst_eq]
  have HL : Hid ((ls (lo c)).length ≤ 8) := ls_len ⟨lo c, lo_lt c⟩
  generalize ls (lo c) = L at H HL ⊢
  by_cases hl : L = []
  · subst hl
    clear HL
    show Calls Try.prog 21 #[.int .i64 c, .int .i64 n] w fun e w' => e = .returned (.int .i64 0) ∧ Mod (fun _ => False) w w'
    go_enter Try.func21, Try.ntmps21
    go_wp2_with (go_at_call 13; refine H.mono ?_; rintro e w' ⟨v, rfl, ho, hm, hn⟩; obtain ⟨ao, cap, rfl⟩ := ho.shape)
    go_loopw [6] (fun i wr => i = .int .i64 0 ∧ Hid (Mod (fun _ => False) w wr)) (fun _ _ => 0)
    case atStart => exact ⟨rfl, hm⟩
    case round =>
      obtain ⟨rfl, hm'⟩ := hrel
      clear ho hn hm H
      go_wp2
      go_ret
      exact ⟨rfl, hm'.out⟩
  · have HF : Hid (L.find? (fun x => decide (n < x)) = (L.drop 0).find? (fun x => decide (n < x))) := rfl
    have HR : Hid (fst' L n = (L.find? (fun x => decide (n < x))).getD (L.headD 0)) := rfl
    generalize fst' L n = r at HR ⊢
    go_enter Try.func21, Try.ntmps21
    go_wp2_with (go_at_call 13; refine H.mono ?_; rintro e w' ⟨v, rfl, ho, hm, hn⟩; have HS : Hid (Sl w' v L) := ho.sl; clear ho hn H; obtain ⟨ao, cap, rfl, h1, h2, h3, h4⟩ := HS.out; obtain ⟨b, o, rfl, hc⟩ := h4 hl; clear h4 h3 h2 h1 HS)
    obtain ⟨N, hN⟩ : ∃ N, N = L.length := ⟨_, rfl⟩
    rw [← hN] at HL hc ⊢
    have HN : Hid (N = L.length) := hN
    have h8 : N ≤ 8 := HL.out
    have h0 : 0 < N := by rcases L with _ | ⟨a, l⟩; exact absurd rfl hl; rw [hN]; simp
    clear hN HL hl
    go_loopw [6] (fun i wr => ∃ k : Nat, i = .int .i64 k ∧ k ≤ N ∧ Hid (L.find? (fun x => decide (n < x)) = (L.drop k).find? (fun x => decide (n < x))) ∧ wr = w') (fun i _ => N - (intOf i).toNat)
    case atStart => exact ⟨0, rfl, by omega, HF, rfl⟩
    case round =>
      obtain ⟨k, rfl, hk, hf, rfl⟩ := hrel
      clear HF
      by_cases hlt : k < N
      · have hi : (k : Int) < (N : Int) := by omega
        have h1 := hc k hlt
        have hd : Hid (L.drop k = L.getD k 0 :: L.drop (k + 1)) := drop_getD L k (by rw [← HN.out]; exact hlt)
        generalize L.getD k 0 = x at h1 hd
        by_cases hx : n < x
        · have e : Hid (r = x) := by
            have := HR.out
            rw [hf.out, hd.out, List.find?_cons, decide_eq_true hx] at this
            exact this
          clear HR hf hd hc
          go_wp2
          go_ret
          exact ⟨by rw [e.out]; rfl, hm⟩
        · have e : Hid (L.find? (fun x => decide (n < x)) = (L.drop (k + 1)).find? (fun x => decide (n < x))) := by
            rw [Hid, hf.out, hd.out, List.find?_cons, decide_eq_false hx]
          have hx' : x ≤ n := by omega
          clear HR hf hd hc hx
          go_wp2
          go_roundw
          case rel => exact ⟨k + 1, by go_num, by omega, e, trivial⟩
          case measure => simp [intOf]; omega
      · obtain rfl : N = k := by omega
        have h1 := hc 0 h0
        rw [Nat.add_zero] at h1
        have hg : Hid (L.headD 0 = L.getD 0 0) := by cases L <;> rfl
        have e : Hid (r = L.getD 0 0) := by
          have := HR.out
          rw [hf.out, List.drop_of_length_le (by have := HN.out; omega), hg.out] at this
          exact this
        generalize L.getD 0 0 = x at h1 e
        have hi : (0 : Int) < (N : Int) := by omega
        clear HR hf hc hg
        go_wp2
        go_ret
        exact ⟨by rw [e.out]; rfl, hm⟩
theorem RLeast (c : Int) (w : World) : Calls Try.prog 19 #[.int .i64 c] w fun e w' => e = .returned (.int .i64 (ab (lo c) 0)) ∧ Mod (fun _ => False) w w' := by
  have H := RNext c 0 w
  have e : nx (lo c) 0 = ab (lo c) 0 := by unfold nx; split <;> simp_all
  rw [e] at H
  generalize ab (lo c) 0 = r at H ⊢
  clear e
  go_enter Try.func19, Try.ntmps19
  go_wp2_with (go_at_call 21; refine H.mono ?_; rintro e w' ⟨rfl, hm⟩)
  go_ret
  exact ⟨rfl, hm⟩
theorem Bring8 (x : Int) (w : World) : Calls Try.prog 26 #[.int .i64 x, .int .i64 8] w fun e w' => e = .returned (.int .i64 (x % 8)) ∧ w' = w := by
  have e : Int.tmod x 8 = if x % 8 ≠ 0 ∧ x < 0 then x % 8 - 8 else x % 8 := by
    rw [Int.tmod_eq_emod]
    split <;> split <;> omega
  by_cases h : Int.tmod x 8 < 0
  · have e2 : Hid (x % 8 = Int.tmod x 8 + 8) := by rw [Hid]; split at e <;> omega
    have hb : -8 ≤ Int.tmod x 8 := by split at e <;> omega
    clear e
    generalize x % 8 = r at e2 ⊢
    go_enter Try.func26, Try.ntmps26
    go_wp2
    go_ret
    exact ⟨by rw [e2.out]; rfl, rfl⟩
  · have e2 : Hid (x % 8 = Int.tmod x 8) := by rw [Hid]; split at e <;> omega
    have h' : 0 ≤ Int.tmod x 8 := by omega
    clear e h
    generalize x % 8 = r at e2 ⊢
    go_enter Try.func26, Try.ntmps26
    go_wp2
    go_ret
    exact ⟨by rw [e2.out]; rfl, rfl⟩
end Go.Proofs.Ytlhgpbelgifnpaa
