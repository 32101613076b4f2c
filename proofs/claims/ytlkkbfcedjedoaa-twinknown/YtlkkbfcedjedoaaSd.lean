/- Contracts of sum's number and Open: for any slice of bytes, as the chapter says; nothing that was there is turned, and what is answered is new memory. Conditions: slices of at most 2^47 bytes. -/
import Derived.Test.YtlkkbfcedjedoaaSc
import Derived.Deep.RegionHeld3
namespace Go.Proofs.Ytlkkbfcedjedoaa.Sm
open Go.RowKit
theorem or8 {y c : Nat} (h : y % 256 = 0) (hy : y < 4294967296) (hc : c < 256) : bits .or .u32 (y : Int) (c : Int) = ((y + c : Nat) : Int) := by
  have h1 := u32_or_nat y c hy (by omega)
  have h2 := Nat.two_pow_add_eq_or_of_lt (i := 8) (b := c) (by omega) (y / 256)
  rw [show (2 : Nat) ^ 8 * (y / 256) = y by omega] at h2
  rw [h1, h2]
theorem num_lt : ∀ (l : List Int) {x : Nat}, x < 4294967296 → (∀ c ∈ l, 0 ≤ c ∧ c ≤ 255) → num x l < 4294967296 := by
  intro l
  induction l with
  | nil => intro x h _; exact h
  | cons c l ih =>
    intro x h hr
    have := hr c (by simp)
    exact ih (by omega) fun c hc => hr c (by simp [hc])
theorem num_app : ∀ (l m : List Int) (x : Nat), num x (l ++ m) = num (num x l) m := by
  intro l
  induction l with
  | nil => intro m x; rfl
  | cons c l ih => intro m x; exact ih m _
theorem num_snoc (l : List Int) (c : Int) (x : Nat) : num x (l ++ [c]) = num x l * 256 % 4294967296 + c.toNat := by
  rw [num_app]; rfl
set_option maxRecDepth 100000 in
set_option maxHeartbeats 1000000 in
theorem number_any (b off cap : Nat) (l : List Int) (w : World) (h : Sl w (.slice (some ⟨b, off, none⟩) l.length cap) l) (hl : l ≠ []) :
    Calls Try.prog 71 #[.slice (some ⟨b, off, none⟩) l.length cap] w fun e w' => e = .returned (.int .u32 (num 0 l : Nat)) ∧ w' = w := by
  have hrg := h.rng
  obtain ⟨ao, cap', e, h1, h2, h3, h4⟩ := h.form
  cases e
  obtain ⟨b', off', e, hc⟩ := h4 hl
  cases e
  clear h h4 h3
  obtain ⟨n, hn⟩ : ∃ n, n = l.length := ⟨_, rfl⟩
  rw [← hn] at h1 hc ⊢
  have HN : Hid (n = l.length) := hn
  clear hn hl
  unfold maxLen at h2
  have HC : Hid (∀ j, j < n → w.cell? ⟨b, off + j, none⟩ = some (.int .u8 (l.getD j 0))) := hc
  have HR : Hid (∀ c ∈ l, 0 ≤ c ∧ c ≤ 255) := hrg
  clear hc hrg
  go_enter Try.func71, Try.ntmps71
  go_wp2
  go_loop [3, 8] (fun s i => ∃ (x k : Nat), s = .int .u32 (x : Int) ∧ i = .int .i64 (k : Int) ∧ k ≤ n ∧ x < 4294967296 ∧ Hid (x = num 0 (l.take k))) (fun _ i => n - (intOf i).toNat)
  case atStart => exact ⟨0, 0, rfl, rfl, by omega, by omega, rfl⟩
  case round =>
    obtain ⟨x, k, rfl, rfl, hk, hx, he⟩ := hrel
    by_cases hlt : k < n
    · have hcell := HC.out k hlt
      have hkl : k < l.length := by have := HN.out; omega
      have hmem : l.getD k 0 ∈ l := by simp [hkl]
      have hcr := HR.out _ hmem
      have hx' : num 0 (l.take (k + 1)) = x * 256 % 4294967296 + (l.getD k 0).toNat := by
        rw [List.take_succ_eq_append_getElem hkl, num_snoc, ← he.out]
        simp [hkl]
      clear hmem hkl he
      obtain ⟨c, hcn⟩ : ∃ c : Nat, (c : Int) = l.getD k 0 := ⟨(l.getD k 0).toNat, by omega⟩
      rw [← hcn] at hcell hcr hx'
      rw [Int.toNat_natCast] at hx'
      clear hcn
      have hc8 : c < 256 := by omega
      have hor := or8 (y := x * 256 % 4294967296) (c := c) (by omega) (by omega) hc8
      have hwr : IntKind.u32.wrap ((x : Int) * 256) = ((x * 256 % 4294967296 : Nat) : Int) := by rw [IntKind.wrap_u32']; omega
      have hwc : IntKind.u32.wrap (c : Int) = (c : Int) := by rw [IntKind.wrap_u32']; omega
      obtain ⟨y, hy⟩ : ∃ y, y = x * 256 % 4294967296 := ⟨_, rfl⟩
      rw [← hy] at hx' hor hwr
      have hlt2 : y + c < 4294967296 := by omega
      have HX : Hid (y + c = num 0 (l.take (k + 1))) := hx'.symm
      clear hx' hcr hy
      go_wp2
      go_round
      case rel => exact ⟨y + c, k + 1, by go_num, by go_num, by omega, hlt2, HX⟩
      case measure => simp [intOf]; omega
    · obtain rfl : k = n := by omega
      have hxe : x = num 0 l := by rw [he.out, List.take_of_length_le (by have := HN.out; omega)]
      have HX : Hid (x = num 0 l) := hxe
      clear hxe he
      go_wp2
      go_ret
      exact ⟨by rw [← HX.out]; rfl, rfl⟩

/-- What Open answers. -/
def openE (l : List Int) : Int := if l.length < 4 then 3 else if chk (l.take (l.length - 4)) = num 0 (l.drop (l.length - 4)) then 0 else 60
def openD (l : List Int) : List Int := if openE l = 0 then l.take (l.length - 4) else []
theorem Sl.drop {w : World} {b off cap : Nat} {l : List Int} (h : Sl w (.slice (some ⟨b, off, none⟩) l.length cap) l) (n : Nat) (hn : n ≤ l.length) : Sl w (.slice (some ⟨b, off + n, none⟩) (l.length - n) (cap - n)) (l.drop n) := by
  obtain ⟨ao, cap', e, h1, h2, h3, h4⟩ := h.form
  simp only [Value.slice.injEq, true_and] at e
  obtain ⟨rfl, rfl⟩ := e
  have hl : (l.drop n).length = l.length - n := by simp
  refine ⟨⟨_, _, by rw [hl], by omega, by omega, (by intro h; cases h), fun hne => ?_⟩, fun c hc => h.rng c (List.mem_of_mem_drop hc)⟩
  obtain ⟨b', off', e, hc⟩ := h4 (by intro e; rw [e] at hne; simp at hne)
  cases e
  refine ⟨b, off + n, rfl, fun j hj => ?_⟩
  rw [hl] at hj
  rw [Nat.add_assoc, hc (n + j) (by omega)]
  simp
theorem Open_short (ao : Option Addr) (n cap : Nat) (hn : n < 4) (w : World) : Calls Try.prog 43 #[.slice ao n cap] w fun e w' => e = .returned (.tuple #[.slice none 0 0, .int .i64 3]) ∧ w' = w := by
  have hi : (n : Int) < 4 := by omega
  go_enter Try.func43, Try.ntmps43
  go_wp2
  go_ret2
  exact ⟨rfl, rfl⟩
set_option maxRecDepth 100000 in
set_option maxHeartbeats 1000000 in
theorem Open_long (b off cap : Nat) (l : List Int) (w : World) (h : Sl w (.slice (some ⟨b, off, none⟩) l.length cap) l) (hn : 4 ≤ l.length) (hb : l.length ≤ 140737488355328) :
    Calls Try.prog 43 #[.slice (some ⟨b, off, none⟩) l.length cap] w fun e w' => ∃ v', e = .returned (.tuple #[v', .int .i64 (openE l)]) ∧ Own w' v' (openD l) ∧ Mod (fun _ => False) w w' ∧ (∀ g, v'.ownBlock = some g → w.heap.size ≤ g) := by
  obtain ⟨ao, cap', e, h1, h2, h3, h4⟩ := h.form
  simp only [Value.slice.injEq, true_and] at e
  obtain ⟨rfl, rfl⟩ := e
  clear h4 h3
  have ht := h.take (l.length - 4) (by omega)
  have hd := Sl.drop h (l.length - 4) (by omega)
  have hE : openE l = if chk (l.take (l.length - 4)) = num 0 (l.drop (l.length - 4)) then 0 else 60 := by unfold openE; rw [if_neg (by omega)]
  have hne : l.drop (l.length - 4) ≠ [] := by intro e; have := congrArg List.length e; simp at this; omega
  have hdl : (l.drop (l.length - 4)).length = 4 := by simp; omega
  have htl : (l.take (l.length - 4)).length = l.length - 4 := by simp
  have hd4 : l.length - (l.length - 4) = 4 := by omega
  rw [hd4] at hd
  have hDD : openD l = if openE l = 0 then l.take (l.length - 4) else [] := rfl
  generalize l.drop (l.length - 4) = D at hd hE hne hdl
  generalize l.take (l.length - 4) = T at ht hE hDD htl
  generalize openD l = OD at hDD ⊢
  generalize openE l = OE at hDD hE ⊢
  obtain ⟨n, hnn⟩ : ∃ n, n + 4 = l.length := ⟨l.length - 4, by omega⟩
  rw [← hnn] at h1 hn hb h ht hd htl ⊢
  simp only [Nat.add_sub_cancel] at ht hd htl
  have hcd : cap - n = cap - n := rfl
  have hnum : ∀ W, Mod (fun _ => False) w W → Calls Try.prog 71 #[.slice (some ⟨b, off + n, none⟩) 4 (cap - n)] W fun e w' => e = .returned (.int .u32 (num 0 D : Nat)) ∧ w' = W := fun W hW => by
    have hs := hd.mod hW (fun _ _ h => h)
    rw [← hdl] at hs ⊢
    exact number_any _ _ _ D W hs hne
  have HT : Hid (Sl w (.slice (some ⟨b, off, none⟩) n cap) T) := ht
  have HO : Hid (∀ W, Mod (fun _ => False) w W → Calls Try.prog 65 #[.slice (some ⟨b, off, none⟩) n cap] W fun e w' => e = .returned (.int .u32 (chk T : Nat)) ∧ Mod (fun _ => False) W w') := fun W hW => Of_any _ _ W (ht.mod hW (fun _ _ h => h))
  have HN : Hid (∀ W, Mod (fun _ => False) w W → Calls Try.prog 71 #[.slice (some ⟨b, off + n, none⟩) 4 (cap - n)] W fun e w' => e = .returned (.int .u32 (num 0 D : Nat)) ∧ w' = W) := hnum
  have HE : Hid (OE = if chk T = num 0 D then 0 else 60) := hE
  have HD : Hid (OD = if OE = 0 then T else []) := hDD
  have HL : Hid (T.length = n) := htl
  clear hnum ht hE hDD hd hdl hne hd4 hnn hcd htl h
  generalize num 0 D = ND at HN HE
  generalize chk T = CT at HO HE
  unfold maxLen at h2
  have hi4 : ¬ ((n : Int) + 4 < 4) := by omega
  have hq1 : n ≤ cap := by omega
  have hq2 : (n : Int) ≤ (n : Int) + 4 := by omega
  have hq3 : ¬ cap = n := by omega
  have hq4 : (0 : Int) ≤ (n : Int) := by omega
  have hq5 : (n : Int) ≤ (cap : Int) := by omega
  by_cases heq : CT = ND
  · have hb : ((CT : Int) == (ND : Int)) = true := by simp [heq]
    have hc : ((CT : Int) != (ND : Int)) = false := by simp [heq]
    have H0 : Hid (OE = 0) := by show OE = 0; rw [HE.out, if_pos heq]
    have H1 : Hid (OD = T) := by show OD = T; rw [HD.out, if_pos H0.out]
    clear HE HD heq
    go_enter Try.func43, Try.ntmps43
    go_wp2
    go_region_held3 (fun _ => True) (trivial)
      (first
        | (go_at_call 65; refine (HO.out _ ((Mod.refl _ w).drew)).mono ?_; rintro e w1 ⟨rfl, hm1⟩)
        | (go_at_call 71; refine (HN.out _ (((Mod.refl _ w).drew).trans hm1 (fun _ _ h => h) (fun _ _ h => h))).mono ?_; rintro e wn ⟨rfl, rfl⟩))
    have hm : Mod (fun _ => False) w wn := ((Mod.refl (fun _ => False) w).drew).trans hm1 (fun _ _ h => h) (fun _ _ h => h)
    have HC : Hid (Calls Try.prog 69 #[.slice (some ⟨b, off, none⟩) n cap] wn fun e w' => ∃ v', e = .returned v' ∧ Own w' v' T ∧ Mod (fun _ => False) wn w' ∧ (∀ g, v'.ownBlock = some g → wn.heap.size ≤ g)) := clone_any _ T wn (HT.out.mod hm (fun _ _ h => h)) (by have := HL.out; omega)
    clear HT HO HN hm1
    go_wp2_with fail
    refine HC.out.mono ?_
    rintro e w2 ⟨v2, rfl, ho2, hm2, hv2⟩
    go_wp2
    go_ret2
    exact ⟨v2, by rw [H0.out]; rfl, H1.out ▸ ho2, hm.trans hm2 (fun _ _ h => h) (fun _ _ h => h), fun g hg => Nat.le_trans hm.size (hv2 g hg)⟩
  · have hb : ((CT : Int) == (ND : Int)) = false := by simp; omega
    have hc : ((CT : Int) != (ND : Int)) = true := by simp; omega
    have H0 : Hid (OE = 60) := by show OE = 60; rw [HE.out, if_neg heq]
    have H1 : Hid (OD = []) := by show OD = []; rw [HD.out, if_neg (by rw [H0.out]; decide)]
    clear HE HD heq
    go_enter Try.func43, Try.ntmps43
    go_wp2
    go_region_held3 (fun _ => True) (trivial)
      (first
        | (go_at_call 65; refine (HO.out _ ((Mod.refl _ w).drew)).mono ?_; rintro e w1 ⟨rfl, hm1⟩)
        | (go_at_call 71; refine (HN.out _ (((Mod.refl _ w).drew).trans hm1 (fun _ _ h => h) (fun _ _ h => h))).mono ?_; rintro e wn ⟨rfl, rfl⟩))
    have hm : Mod (fun _ => False) w wn := ((Mod.refl (fun _ => False) w).drew).trans hm1 (fun _ _ h => h) (fun _ _ h => h)
    clear HT HO HN hm1
    go_wp2
    go_ret2
    exact ⟨.slice none 0 0, by rw [H0.out]; rfl, H1.out ▸ Own.nil _, hm, by intro g hg; simp [Value.ownBlock] at hg⟩
/-- Open: as the chapter says. -/
theorem Open_any (v : Value) (l : List Int) (w : World) (hs : Sl w v l) (hb : l.length ≤ 140737488355328) :
    Calls Try.prog 43 #[v] w fun e w' => ∃ v', e = .returned (.tuple #[v', .int .i64 (openE l)]) ∧ Own w' v' (openD l) ∧ Mod (fun _ => False) w w' ∧ (∀ g, v'.ownBlock = some g → w.heap.size ≤ g) := by
  have h0 := hs
  obtain ⟨ao, cap, rfl, h1, h2, h3, h4⟩ := hs.form
  by_cases hn : l.length < 4
  · refine (Open_short ao _ cap hn w).mono ?_
    rintro e w' ⟨rfl, rfl⟩
    have hE : openE l = 3 := by unfold openE; rw [if_pos hn]
    have hD : openD l = [] := by unfold openD; rw [hE, if_neg (by decide)]
    rw [hE, hD]
    exact ⟨_, rfl, Own.nil _, Mod.refl _ _, by intro g hg; simp [Value.ownBlock] at hg⟩
  · obtain ⟨b, off, rfl, hc⟩ := h4 (by rintro rfl; simp at hn)
    exact Open_long b off cap l w h0 (by omega) hb
end Go.Proofs.Ytlkkbfcedjedoaa.Sm
