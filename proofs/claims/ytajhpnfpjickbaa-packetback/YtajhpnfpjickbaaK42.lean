/- Contracts of sum's number and Open: for any slice of bytes, as the chapter says; nothing that was there is turned, and what is answered is new memory. Conditions: slices of at most 2^47 bytes. Contract of sum's Seal: for any slice of bytes it answers them with their check behind them, in new memory, and turns nothing that was there. Conditions: slices of at most 2^47 - 4 bytes. -/
import Derived.Test.YtajhpnfpjickbaaK41
import Derived.Deep.RegionHeld3
import Derived.Laws.CopyOwn
import Derived.Laws.MakeOwn
namespace Go.Proofs.Ytajhpnfpjickbaa.Sm
open Go.RowKit
theorem or8 {y c : Nat} (h : y % 256 = 0) (hy : y < 4294967296) (hc : c < 256) : bits .or .u32 (y : Int) (c : Int) = ((y + c : Nat) : Int) := by
  have h1 := u32_or_nat y c hy (by omega)
  have h2 := Nat.two_pow_add_eq_or_of_lt (i := 8) (b := c) (by omega) (y / 256)
  rw [show (2 : Nat) ^ 8 * (y / 256) = y by omega] at h2
  rw [h1, h2]
theorem num_lt : ∀ (l : List Int) {x : Nat}, x < 4294967296 → (∀ c ∈ l, 0 ≤ c ∧ c ≤ 255) → num x l < 4294967296 := by
  intro l
  induction l with
  | nil => intro x h _; exact h
  | cons c l ih =>
    intro x h hr
    have := hr c (by simp)
    exact ih (by omega) fun c hc => hr c (by simp [hc])
theorem num_app : ∀ (l m : List Int) (x : Nat), num x (l ++ m) = num (num x l) m := by
  intro l
  induction l with
  | nil => intro m x; rfl
  | cons c l ih => intro m x; exact ih m _
theorem num_snoc (l : List Int) (c : Int) (x : Nat) : num x (l ++ [c]) = num x l * 256 % 4294967296 + c.toNat := by
  rw [num_app]; rfl
set_option maxRecDepth 100000 in
set_option maxHeartbeats 1000000 in
theorem number_any (b off cap : Nat) (l : List Int) (w : World) (h : Sl w (.slice (some ⟨b, off, none⟩) l.length cap) l) (hl : l ≠ []) :
    Calls Try.prog 118 #[.slice (some ⟨b, off, none⟩) l.length cap] w fun e w' => e = .returned (.int .u32 (num 0 l : Nat)) ∧ w' = w := by
  have hrg := h.rng
  obtain ⟨ao, cap', e, h1, h2, h3, h4⟩ := h.form
  cases e
  obtain ⟨b', off', e, hc⟩ := h4 hl
  cases e
  clear h h4 h3
  obtain ⟨n, hn⟩ : ∃ n, n = l.length := ⟨_, rfl⟩
  rw [← hn] at h1 hc ⊢
  have HN : Hid (n = l.length) := hn
  clear hn hl
  unfold maxLen at h2
  have HC : Hid (∀ j, j < n → w.cell? ⟨b, off + j, none⟩ = some (.int .u8 (l.getD j 0))) := hc
  have HR : Hid (∀ c ∈ l, 0 ≤ c ∧ c ≤ 255) := hrg
  clear hc hrg
  go_enter Try.func118, Try.ntmps118
  go_wp2
  go_loop [3, 8] (fun s i => ∃ (x k : Nat), s = .int .u32 (x : Int) ∧ i = .int .i64 (k : Int) ∧ k ≤ n ∧ x < 4294967296 ∧ Hid (x = num 0 (l.take k))) (fun _ i => n - (intOf i).toNat)
  case atStart => exact ⟨0, 0, rfl, rfl, by omega, by omega, rfl⟩
  case round =>
    obtain ⟨x, k, rfl, rfl, hk, hx, he⟩ := hrel
    by_cases hlt : k < n
    · have hcell := HC.out k hlt
      have hkl : k < l.length := by have := HN.out; omega
      have hmem : l.getD k 0 ∈ l := by simp [hkl]
      have hcr := HR.out _ hmem
      have hx' : num 0 (l.take (k + 1)) = x * 256 % 4294967296 + (l.getD k 0).toNat := by
        rw [List.take_succ_eq_append_getElem hkl, num_snoc, ← he.out]
        simp [hkl]
      clear hmem hkl he
      obtain ⟨c, hcn⟩ : ∃ c : Nat, (c : Int) = l.getD k 0 := ⟨(l.getD k 0).toNat, by omega⟩
      rw [← hcn] at hcell hcr hx'
      rw [Int.toNat_natCast] at hx'
      clear hcn
      have hc8 : c < 256 := by omega
      have hor := or8 (y := x * 256 % 4294967296) (c := c) (by omega) (by omega) hc8
      have hwr : IntKind.u32.wrap ((x : Int) * 256) = ((x * 256 % 4294967296 : Nat) : Int) := by rw [IntKind.wrap_u32']; omega
      have hwc : IntKind.u32.wrap (c : Int) = (c : Int) := by rw [IntKind.wrap_u32']; omega
      obtain ⟨y, hy⟩ : ∃ y, y = x * 256 % 4294967296 := ⟨_, rfl⟩
      rw [← hy] at hx' hor hwr
      have hlt2 : y + c < 4294967296 := by omega
      have HX : Hid (y + c = num 0 (l.take (k + 1))) := hx'.symm
      clear hx' hcr hy
      go_wp2
      go_round
      case rel => exact ⟨y + c, k + 1, by go_num, by go_num, by omega, hlt2, HX⟩
      case measure => simp [intOf]; omega
    · obtain rfl : k = n := by omega
      have hxe : x = num 0 l := by rw [he.out, List.take_of_length_le (by have := HN.out; omega)]
      have HX : Hid (x = num 0 l) := hxe
      clear hxe he
      go_wp2
      go_ret
      exact ⟨by rw [← HX.out]; rfl, rfl⟩

/-- What Open answers. -/
def openE (l : List Int) : Int := if l.length < 4 then 3 else if chk (l.take (l.length - 4)) = num 0 (l.drop (l.length - 4)) then 0 else 60
def openD (l : List Int) : List Int := if openE l = 0 then l.take (l.length - 4) else []
theorem Sl.drop {w : World} {b off cap : Nat} {l : List Int} (h : Sl w (.slice (some ⟨b, off, none⟩) l.length cap) l) (n : Nat) (hn : n ≤ l.length) : Sl w (.slice (some ⟨b, off + n, none⟩) (l.length - n) (cap - n)) (l.drop n) := by
  obtain ⟨ao, cap', e, h1, h2, h3, h4⟩ := h.form
  simp only [Value.slice.injEq, true_and] at e
  obtain ⟨rfl, rfl⟩ := e
  have hl : (l.drop n).length = l.length - n := by simp
  refine ⟨⟨_, _, by rw [hl], by omega, by omega, (by intro h; cases h), fun hne => ?_⟩, fun c hc => h.rng c (List.mem_of_mem_drop hc)⟩
  obtain ⟨b', off', e, hc⟩ := h4 (by intro e; rw [e] at hne; simp at hne)
  cases e
  refine ⟨b, off + n, rfl, fun j hj => ?_⟩
  rw [hl] at hj
  rw [Nat.add_assoc, hc (n + j) (by omega)]
  simp
theorem Open_short (ao : Option Addr) (n cap : Nat) (hn : n < 4) (w : World) : Calls Try.prog 77 #[.slice ao n cap] w fun e w' => e = .returned (.tuple #[.slice none 0 0, .int .i64 3]) ∧ w' = w := by
  have hi : (n : Int) < 4 := by omega
  go_enter Try.func77, Try.ntmps77
  go_wp2
  go_ret2
  exact ⟨rfl, rfl⟩
set_option maxRecDepth 100000 in
set_option maxHeartbeats 1000000 in
theorem Open_long (b off cap : Nat) (l : List Int) (w : World) (h : Sl w (.slice (some ⟨b, off, none⟩) l.length cap) l) (hn : 4 ≤ l.length) (hb : l.length ≤ 140737488355328) :
    Calls Try.prog 77 #[.slice (some ⟨b, off, none⟩) l.length cap] w fun e w' => ∃ v', e = .returned (.tuple #[v', .int .i64 (openE l)]) ∧ Own w' v' (openD l) ∧ Mod (fun _ => False) w w' ∧ (∀ g, v'.ownBlock = some g → w.heap.size ≤ g) := by
  obtain ⟨ao, cap', e, h1, h2, h3, h4⟩ := h.form
  simp only [Value.slice.injEq, true_and] at e
  obtain ⟨rfl, rfl⟩ := e
  clear h4 h3
  have ht := h.take (l.length - 4) (by omega)
  have hd := Sl.drop h (l.length - 4) (by omega)
  have hE : openE l = if chk (l.take (l.length - 4)) = num 0 (l.drop (l.length - 4)) then 0 else 60 := by unfold openE; rw [if_neg (by omega)]
  have hne : l.drop (l.length - 4) ≠ [] := by intro e; have := congrArg List.length e; simp at this; omega
  have hdl : (l.drop (l.length - 4)).length = 4 := by simp; omega
  have htl : (l.take (l.length - 4)).length = l.length - 4 := by simp
  have hd4 : l.length - (l.length - 4) = 4 := by omega
  rw [hd4] at hd
  have hDD : openD l = if openE l = 0 then l.take (l.length - 4) else [] := rfl
  generalize l.drop (l.length - 4) = D at hd hE hne hdl
  generalize l.take (l.length - 4) = T at ht hE hDD htl
  generalize openD l = OD at hDD ⊢
  generalize openE l = OE at hDD hE ⊢
  obtain ⟨n, hnn⟩ : ∃ n, n + 4 = l.length := ⟨l.length - 4, by omega⟩
  rw [← hnn] at h1 hn hb h ht hd htl ⊢
  simp only [Nat.add_sub_cancel] at ht hd htl
  have hcd : cap - n = cap - n := rfl
  have hnum : ∀ W, Mod (fun _ => False) w W → Calls Try.prog 118 #[.slice (some ⟨b, off + n, none⟩) 4 (cap - n)] W fun e w' => e = .returned (.int .u32 (num 0 D : Nat)) ∧ w' = W := fun W hW => by
    have hs := hd.mod hW (fun _ _ h => h)
    rw [← hdl] at hs ⊢
    exact number_any _ _ _ D W hs hne
  have HT : Hid (Sl w (.slice (some ⟨b, off, none⟩) n cap) T) := ht
  have HO : Hid (∀ W, Mod (fun _ => False) w W → Calls Try.prog 78 #[.slice (some ⟨b, off, none⟩) n cap] W fun e w' => e = .returned (.int .u32 (chk T : Nat)) ∧ Mod (fun _ => False) W w') := fun W hW => Of_any _ _ W (ht.mod hW (fun _ _ h => h))
  have HN : Hid (∀ W, Mod (fun _ => False) w W → Calls Try.prog 118 #[.slice (some ⟨b, off + n, none⟩) 4 (cap - n)] W fun e w' => e = .returned (.int .u32 (num 0 D : Nat)) ∧ w' = W) := hnum
  have HE : Hid (OE = if chk T = num 0 D then 0 else 60) := hE
  have HD : Hid (OD = if OE = 0 then T else []) := hDD
  have HL : Hid (T.length = n) := htl
  clear hnum ht hE hDD hd hdl hne hd4 hnn hcd htl h
  generalize num 0 D = ND at HN HE
  generalize chk T = CT at HO HE
  unfold maxLen at h2
  have hi4 : ¬ ((n : Int) + 4 < 4) := by omega
  have hq1 : n ≤ cap := by omega
  have hq2 : (n : Int) ≤ (n : Int) + 4 := by omega
  have hq3 : ¬ cap = n := by omega
  have hq4 : (0 : Int) ≤ (n : Int) := by omega
  have hq5 : (n : Int) ≤ (cap : Int) := by omega
  by_cases heq : CT = ND
  · have hb : ((CT : Int) == (ND : Int)) = true := by simp [heq]
    have hc : ((CT : Int) != (ND : Int)) = false := by simp [heq]
    have H0 : Hid (OE = 0) := by show OE = 0; rw [HE.out, if_pos heq]
    have H1 : Hid (OD = T) := by show OD = T; rw [HD.out, if_pos H0.out]
    clear HE HD heq
    go_enter Try.func77, Try.ntmps77
    go_wp2
    go_region_held3 (fun _ => True) (trivial)
      (first
        | (go_at_call 78; refine (HO.out _ ((Mod.refl _ w).drew)).mono ?_; rintro e w1 ⟨rfl, hm1⟩)
        | (go_at_call 118; refine (HN.out _ (((Mod.refl _ w).drew).trans hm1 (fun _ _ h => h) (fun _ _ h => h))).mono ?_; rintro e wn ⟨rfl, rfl⟩))
    have hm : Mod (fun _ => False) w wn := ((Mod.refl (fun _ => False) w).drew).trans hm1 (fun _ _ h => h) (fun _ _ h => h)
    have HC : Hid (Calls Try.prog 82 #[.slice (some ⟨b, off, none⟩) n cap] wn fun e w' => ∃ v', e = .returned v' ∧ Own w' v' T ∧ Mod (fun _ => False) wn w' ∧ (∀ g, v'.ownBlock = some g → wn.heap.size ≤ g)) := clone_any _ T wn (HT.out.mod hm (fun _ _ h => h)) (by have := HL.out; omega)
    clear HT HO HN hm1
    go_wp2_with fail
    refine HC.out.mono ?_
    rintro e w2 ⟨v2, rfl, ho2, hm2, hv2⟩
    go_wp2
    go_ret2
    exact ⟨v2, by rw [H0.out]; rfl, H1.out ▸ ho2, hm.trans hm2 (fun _ _ h => h) (fun _ _ h => h), fun g hg => Nat.le_trans hm.size (hv2 g hg)⟩
  · have hb : ((CT : Int) == (ND : Int)) = false := by simp; omega
    have hc : ((CT : Int) != (ND : Int)) = true := by simp; omega
    have H0 : Hid (OE = 60) := by show OE = 60; rw [HE.out, if_neg heq]
    have H1 : Hid (OD = []) := by show OD = []; rw [HD.out, if_neg (by rw [H0.out]; decide)]
    clear HE HD heq
    go_enter Try.func77, Try.ntmps77
    go_wp2
    go_region_held3 (fun _ => True) (trivial)
      (first
        | (go_at_call 78; refine (HO.out _ ((Mod.refl _ w).drew)).mono ?_; rintro e w1 ⟨rfl, hm1⟩)
        | (go_at_call 118; refine (HN.out _ (((Mod.refl _ w).drew).trans hm1 (fun _ _ h => h) (fun _ _ h => h))).mono ?_; rintro e wn ⟨rfl, rfl⟩))
    have hm : Mod (fun _ => False) w wn := ((Mod.refl (fun _ => False) w).drew).trans hm1 (fun _ _ h => h) (fun _ _ h => h)
    clear HT HO HN hm1
    go_wp2
    go_ret2
    exact ⟨.slice none 0 0, by rw [H0.out]; rfl, H1.out ▸ Own.nil _, hm, by intro g hg; simp [Value.ownBlock] at hg⟩
/-- Open: as the chapter says. -/
theorem Open_any (v : Value) (l : List Int) (w : World) (hs : Sl w v l) (hb : l.length ≤ 140737488355328) :
    Calls Try.prog 77 #[v] w fun e w' => ∃ v', e = .returned (.tuple #[v', .int .i64 (openE l)]) ∧ Own w' v' (openD l) ∧ Mod (fun _ => False) w w' ∧ (∀ g, v'.ownBlock = some g → w.heap.size ≤ g) := by
  have h0 := hs
  obtain ⟨ao, cap, rfl, h1, h2, h3, h4⟩ := hs.form
  by_cases hn : l.length < 4
  · refine (Open_short ao _ cap hn w).mono ?_
    rintro e w' ⟨rfl, rfl⟩
    have hE : openE l = 3 := by unfold openE; rw [if_pos hn]
    have hD : openD l = [] := by unfold openD; rw [hE, if_neg (by decide)]
    rw [hE, hD]
    exact ⟨_, rfl, Own.nil _, Mod.refl _ _, by intro g hg; simp [Value.ownBlock] at hg⟩
  · obtain ⟨b, off, rfl, hc⟩ := h4 (by rintro rfl; simp at hn)
    exact Open_long b off cap l w h0 (by omega) hb
end Go.Proofs.Ytajhpnfpjickbaa.Sm
namespace Go.Proofs.Ytajhpnfpjickbaa.Sm
open Go.RowKit
theorem of_below {w w' : World} (h : Below w.heap.size w w') : Mod (fun _ => False) w w' := ⟨h.os, h.tape, h.output, h.size, fun k hk _ => h.block k hk⟩
theorem Own.byte {w wr w1 : World} {g cap : Nat} {v' : Value} {l' : List Int} {c : Int} {t : TypeId} (hm : Mod (fun _ => False) w wr) (hv : ∀ g, v'.ownBlock = some g → w.heap.size ≤ g)
    (hown : w1.ownsRow 0 5 1 (.slice (some ⟨g, 0, none⟩) (l'.length + 1) cap) (l'.length + 1) (U l' ++ [.int .u8 c]))
    (hgrow : (wr.alloc (.cells #[.int .u8 c] t)).grownBy w1 v'.ownBlock) (hg : v'.ownBlock = some g ∨ g = wr.heap.size + 1) :
    Own w1 (.slice (some ⟨g, 0, none⟩) (l'.length + 1) cap) (l' ++ [c]) ∧ Mod (fun _ => False) w w1 ∧ (∀ g', (Value.slice (some ⟨g, 0, none⟩) (l'.length + 1) cap).ownBlock = some g' → w.heap.size ≤ g') := by
  refine ⟨?_, (hm.alloc _).grown hgrow (fun k hk hlt => by have := hv k hk; omega), ?_⟩
  · unfold Own
    rw [U_app]
    simpa [U] using hown
  · intro g' hg'
    simp only [Value.ownBlock, Option.some.injEq] at hg'
    subst hg'
    rcases hg with h | h
    · exact hv _ h
    · have := hm.size; omega
theorem make_run (n : Nat) (hn : n + 4 ≤ 140737488355328) : ∃ Z : Array Value, Z.size = n + 4 ∧ ∀ W : World, (Instr.makeSlice 26 (.int .i64 (n : Int)) (.int .i64 ((n : Int) + 4))).run Try.prog W = .ok (.slice (some ⟨W.heap.size, 0, none⟩) n (n + 4)) (W.alloc (.cells Z 5)) := by
  obtain ⟨i0, hi, hz0, hz1, hz2⟩ := info_parts info5
  refine ⟨madeCells (Value.int .u8 0).cells ((((n : Int) + 4).toNat) * i0.size), ?_, fun W => ?_⟩
  · rw [size_madeCells, hz1]; omega
  · have h := run_make (P := Try.prog) W 26 5 i0 (.int .u8 0) Try.underlying26 hi hz0 .i64 .i64 (n : Int) ((n : Int) + 4) (by omega) (by omega) (by rw [hz2]; omega) (by omega)
    rw [h]
    simp
    omega
theorem Own.spliced {w : World} {g n : Nat} {Z : List Value} {l : List Int} (hl : n = l.length) (hZ : Z.length = n + 4) (hn : n + 4 ≤ 140737488355328) (h : w.heap[g]? = some (.cells (splice Z 0 (U l)).toArray 5 (0, 0))) : Own w (.slice (some ⟨g, 0, none⟩) n (n + 4)) l := by
  subst hl
  refine ⟨by simp [U], .inr ⟨g, l.length + 4, _, rfl, Nat.zero_le _, h, by omega, by unfold maxLen; omega, ?_, ?_⟩⟩
  · simp only [List.size_toArray]
    rw [length_splice _ _ _ (by rw [U_len]; omega), hZ, Nat.mul_one]
  · simp [splice, U]
theorem copy_src {w w1 : World} {ao : Option Addr} {n : Nat} {l : List Int} {Z : Array Value} (hm1 : Mod (fun _ => False) w w1)
    (h4 : l ≠ [] → ∃ b off, ao = some ⟨b, off, none⟩ ∧ ∀ (j : Nat), j < n → w.cell? ⟨b, off + j, none⟩ = some (.int .u8 (l.getD j 0))) (hn : n = l.length) :
    0 < (U l).length → some (⟨w1.heap.size, 0, none⟩ : Addr) = some ⟨w1.heap.size, 0, none⟩ ∧ ∃ ad, ao = some ad ∧ ∀ j u, (U l)[j]? = some u → (w1.alloc (.cells Z 5)).cell? (ad.add j) = some u := fun h0 => by
  refine ⟨rfl, ?_⟩
  obtain ⟨b, off, rfl, hc⟩ := h4 (by rintro rfl; simp [U] at h0)
  refine ⟨_, rfl, cells_of fun j hj => ?_⟩
  exact (hm1.alloc _).cell (hc j (by rw [hn]; exact hj)) (fun h => h)
set_option maxRecDepth 100000 in
set_option maxHeartbeats 2000000 in
theorem Seal_any (v : Value) (l : List Int) (w : World) (hs : Sl w v l) (hb : l.length + 4 ≤ 140737488355328) :
    Calls Try.prog 45 #[v] w fun e w' => ∃ v', e = .returned v' ∧ Own w' v' (sealed l) ∧ Mod (fun _ => False) w w' ∧ (∀ g, v'.ownBlock = some g → w.heap.size ≤ g) := by
  have HS : Hid (Sl w v l) := hs
  obtain ⟨ao, cap, rfl, h1, h2, h3, h4⟩ := hs.form
  obtain ⟨i0, hi, hz0, hz1, hz2⟩ := info_parts info5
  have hsz5 : (Try.prog.info? 5).map (·.size) = some 1 := by rw [hi]; simp [hz1]
  obtain ⟨n, hn⟩ : ∃ n, n = l.length := ⟨_, rfl⟩
  rw [← hn] at h1 h4 hb ⊢
  have HN : Hid (n = l.length) := hn
  have H4 : Hid (l ≠ [] → ∃ b off, ao = some ⟨b, off, none⟩ ∧ ∀ (j : Nat), j < n → w.cell? ⟨b, off + j, none⟩ = some (.int .u8 (l.getD j 0))) := h4
  have HO : Hid (Calls Try.prog 78 #[.slice ao n cap] w fun e w' => e = .returned (.int .u32 (chk l : Nat)) ∧ Mod (fun _ => False) w w') := by
    have := Of_any _ _ _ hs
    rw [← hn] at this
    exact this
  obtain ⟨Z, hZ, hmk⟩ := make_run n hb
  have hx := chk_lt l
  have HF : Hid (sealed l = l ++ four (chk l)) := rfl
  generalize chk l = x at HO hx HF
  generalize sealed l = SL at HF ⊢
  clear hs h4 hn h3
  go_enter Try.func45, Try.ntmps45
  go_wp2_with fail
  refine HO.out.mono ?_
  rintro e w1 ⟨rfl, hm1⟩
  clear HO
  have hbel : Below w.heap.size w (w1.alloc (.cells Z 5)) := (hm1.alloc _).below _ (Nat.le_refl _) (fun _ h => h.elim)
  have hsw := hm1.size
  have hgw : (w1.alloc (.cells Z 5)).heap[w1.heap.size]? = some (.cells Z.toList.toArray 5 (0, 0)) := by rw [Array.toArray_toList]; exact heap_alloc_last w1 _
  have HG : Hid _ := hgw
  clear hgw
  have HM1 : Hid ((U l).length = Nat.min n n) := by show _ = _; rw [U_len, ← HN.out]; exact (Nat.min_self n).symm
  have HFit : Hid (0 + (U l).length ≤ Z.toList.length) := by show _ ≤ _; rw [U_len, ← HN.out]; simp; omega
  go_wp2_with (refine wpList_copy_splice rfl (.tmp 14) (.tmp 15) 26 26 rfl 5 Try.underlying26 hsz5 (some ⟨w1.heap.size, 0, none⟩) ao n (n + 4) n cap rfl rfl w1.heap.size 0 Z.toList 5 HG.out (U l) HM1.out (copy_src hm1 H4.out HN.out) HFit.out (U_one l) w.heap.size w hbel hsw ?_; intro w2 HG2 hB2)
  have hO2 : Own w2 (.slice (some ⟨w1.heap.size, 0, none⟩) n (n + 4)) l := Own.spliced HN.out (by simpa using hZ) hb HG2.out
  have hM2 := of_below hB2
  clear HG2 hB2 HG HM1 HFit hbel hmk hZ hm1 H4 HS
  go_loopw [4, 5] (fun s i wr => ∃ (k : Nat) (l' : List Int), i = .int .i64 (24 - 8 * (k : Int)) ∧ k ≤ 4 ∧ Hid (l' ++ (four x).drop k = SL) ∧ l'.length = n + k ∧ Own wr s l' ∧ Mod (fun _ => False) w wr ∧ (∀ g, s.ownBlock = some g → w.heap.size ≤ g)) (fun _ i _ => (intOf i + 8).toNat)
  case atStart => exact ⟨0, l, rfl, by omega, by show _ = _; rw [HF.out]; rfl, HN.out.symm, hO2, hM2, by intro g hg; simp only [Value.ownBlock, Option.some.injEq] at hg; omega⟩
  case round =>
    obtain ⟨k, l', rfl, hk, hl', hlen, hown, hm, hv⟩ := hrel
    have HLn : Hid (l'.length = n + k) := hlen
    clear hlen hO2 hM2 HF
    have hcases : k = 0 ∨ k = 1 ∨ k = 2 ∨ k = 3 ∨ k = 4 := by omega
    rcases hcases with rfl | rfl | rfl | rfl | rfl
    · have hwb : IntKind.u8.wrap ((x : Int) / 16777216) = ((x / 16777216 % 256 : Nat) : Int) := by rw [IntKind.wrap_u8']; omega
      have hL2 : l' ++ [((x / 16777216 % 256 : Nat) : Int)] ++ (four x).drop 1 = SL := by rw [← hl'.out, List.append_assoc]; rfl
      have HL2 : Hid (l' ++ [((x / 16777216 % 256 : Nat) : Int)] ++ (four x).drop 1 = SL) := hL2
      clear hL2 hl'
      obtain ⟨c, hc⟩ : ∃ c : Nat, c = x / 16777216 % 256 := ⟨_, rfl⟩
      rw [← hc] at HL2 hwb
      have hc8 : c < 256 := by omega
      clear hc
      go_wp2_with (at_builtin; refine wpList_append_lies _ rfl _ _ 26 rfl 0 5 i0 (.int .u8 0) 1 1 Try.underlying26 hi hz0 hz1 hz2 rfl (by decide) u4 l'.length (U l') rfl (hown.alloc _) ⟨wr.heap.size, 0, none⟩ 1 1 [.int .u8 (c : Int)] rfl rfl (app1 _ _ _) (U_one [(c : Int)]) (by omega) (by have := HLn.out; simp only [maxLen]; omega) (by have := HLn.out; omega) (Nat.zero_le _) (wr.heap.size + 1) (by simp) ?_; intro g cap1 w3 hown1 hgrow hg hlt)
      have R := Own.byte hm hv hown1 hgrow hg
      go_roundw
      case rel => exact ⟨1, l' ++ [(c : Int)], by first | rfl | go_num, by omega, HL2, by have := HLn.out; simp; omega, R.1, R.2.1, R.2.2⟩
      case measure => simp [intOf]
    · have hwb : IntKind.u8.wrap ((x : Int) / 65536) = ((x / 65536 % 256 : Nat) : Int) := by rw [IntKind.wrap_u8']; omega
      have hL2 : l' ++ [((x / 65536 % 256 : Nat) : Int)] ++ (four x).drop 2 = SL := by rw [← hl'.out, List.append_assoc]; rfl
      have HL2 : Hid (l' ++ [((x / 65536 % 256 : Nat) : Int)] ++ (four x).drop 2 = SL) := hL2
      clear hL2 hl'
      obtain ⟨c, hc⟩ : ∃ c : Nat, c = x / 65536 % 256 := ⟨_, rfl⟩
      rw [← hc] at HL2 hwb
      have hc8 : c < 256 := by omega
      clear hc
      go_wp2_with (at_builtin; refine wpList_append_lies _ rfl _ _ 26 rfl 0 5 i0 (.int .u8 0) 1 1 Try.underlying26 hi hz0 hz1 hz2 rfl (by decide) u4 l'.length (U l') rfl (hown.alloc _) ⟨wr.heap.size, 0, none⟩ 1 1 [.int .u8 (c : Int)] rfl rfl (app1 _ _ _) (U_one [(c : Int)]) (by omega) (by have := HLn.out; simp only [maxLen]; omega) (by have := HLn.out; omega) (Nat.zero_le _) (wr.heap.size + 1) (by simp) ?_; intro g cap1 w3 hown1 hgrow hg hlt)
      have R := Own.byte hm hv hown1 hgrow hg
      go_roundw
      case rel => exact ⟨2, l' ++ [(c : Int)], by first | rfl | go_num, by omega, HL2, by have := HLn.out; simp; omega, R.1, R.2.1, R.2.2⟩
      case measure => simp [intOf]
    · have hwb : IntKind.u8.wrap ((x : Int) / 256) = ((x / 256 % 256 : Nat) : Int) := by rw [IntKind.wrap_u8']; omega
      have hL2 : l' ++ [((x / 256 % 256 : Nat) : Int)] ++ (four x).drop 3 = SL := by rw [← hl'.out, List.append_assoc]; rfl
      have HL2 : Hid (l' ++ [((x / 256 % 256 : Nat) : Int)] ++ (four x).drop 3 = SL) := hL2
      clear hL2 hl'
      obtain ⟨c, hc⟩ : ∃ c : Nat, c = x / 256 % 256 := ⟨_, rfl⟩
      rw [← hc] at HL2 hwb
      have hc8 : c < 256 := by omega
      clear hc
      go_wp2_with (at_builtin; refine wpList_append_lies _ rfl _ _ 26 rfl 0 5 i0 (.int .u8 0) 1 1 Try.underlying26 hi hz0 hz1 hz2 rfl (by decide) u4 l'.length (U l') rfl (hown.alloc _) ⟨wr.heap.size, 0, none⟩ 1 1 [.int .u8 (c : Int)] rfl rfl (app1 _ _ _) (U_one [(c : Int)]) (by omega) (by have := HLn.out; simp only [maxLen]; omega) (by have := HLn.out; omega) (Nat.zero_le _) (wr.heap.size + 1) (by simp) ?_; intro g cap1 w3 hown1 hgrow hg hlt)
      have R := Own.byte hm hv hown1 hgrow hg
      go_roundw
      case rel => exact ⟨3, l' ++ [(c : Int)], by first | rfl | go_num, by omega, HL2, by have := HLn.out; simp; omega, R.1, R.2.1, R.2.2⟩
      case measure => simp [intOf]
    · have hwb : IntKind.u8.wrap ((x : Int)) = ((x % 256 : Nat) : Int) := by rw [IntKind.wrap_u8']; omega
      have hL2 : l' ++ [((x % 256 : Nat) : Int)] ++ (four x).drop 4 = SL := by rw [← hl'.out, List.append_assoc]; rfl
      have HL2 : Hid (l' ++ [((x % 256 : Nat) : Int)] ++ (four x).drop 4 = SL) := hL2
      clear hL2 hl'
      obtain ⟨c, hc⟩ : ∃ c : Nat, c = x % 256 := ⟨_, rfl⟩
      rw [← hc] at HL2 hwb
      have hc8 : c < 256 := by omega
      clear hc
      go_wp2_with (at_builtin; refine wpList_append_lies _ rfl _ _ 26 rfl 0 5 i0 (.int .u8 0) 1 1 Try.underlying26 hi hz0 hz1 hz2 rfl (by decide) u4 l'.length (U l') rfl (hown.alloc _) ⟨wr.heap.size, 0, none⟩ 1 1 [.int .u8 (c : Int)] rfl rfl (app1 _ _ _) (U_one [(c : Int)]) (by omega) (by have := HLn.out; simp only [maxLen]; omega) (by have := HLn.out; omega) (Nat.zero_le _) (wr.heap.size + 1) (by simp) ?_; intro g cap1 w3 hown1 hgrow hg hlt)
      have R := Own.byte hm hv hown1 hgrow hg
      go_roundw
      case rel => exact ⟨4, l' ++ [(c : Int)], by first | rfl | go_num, by omega, HL2, by have := HLn.out; simp; omega, R.1, R.2.1, R.2.2⟩
      case measure => simp [intOf]
    · have HE : Hid (l' = SL) := by show _ = _; rw [← hl'.out]; simp [four]
      clear hl'
      go_wp2
      go_ret
      exact ⟨_, rfl, HE.out ▸ hown, hm, hv⟩
end Go.Proofs.Ytajhpnfpjickbaa.Sm
