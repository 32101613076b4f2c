/- Contracts of the document's own Of, Seal and Open, for any slice of bytes: they answer as sum's do, and turn nothing that was there. Conditions: slices of at most 2^47 - 4 bytes. -/
import Derived.Test.YtlkkbfcedjedoaaTCb
namespace Go.Proofs.Ytlkkbfcedjedoaa.Sm
open Go.RowKit
theorem rOf_zero (ao : Option Addr) (cap : Nat) (w : World) : Calls Try.prog 70 #[.slice ao 0 cap] w fun e w' => e = .returned (.int .u32 0) ∧ w' = w := by
  have hsg : IntKind.u32.signed = false := rfl
  have hnx : bits .xor .u32 IntKind.u32.max 4294967295 = 0 := by decide
  go_enter Try.func70, Try.ntmps70
  go_wp2
  go_loop [3, 4] (fun s i => s = .int .u32 4294967295 ∧ i = .int .i64 0) (fun _ _ => 0)
  case atStart => exact ⟨rfl, rfl⟩
  case round =>
    obtain ⟨rfl, rfl⟩ := hrel
    go_wp2
    go_ret
    exact ⟨rfl, rfl⟩
set_option maxRecDepth 100000 in
set_option maxHeartbeats 1000000 in
theorem rOf_some (b off cap : Nat) (l : List Int) (w : World) (h : Sl w (.slice (some ⟨b, off, none⟩) l.length cap) l) (hl : l ≠ []) :
    Calls Try.prog 70 #[.slice (some ⟨b, off, none⟩) l.length cap] w fun e w' => e = .returned (.int .u32 (chk l : Nat)) ∧ w' = w := by
  have hrg := h.rng
  obtain ⟨ao, cap', e, h1, h2, h3, h4⟩ := h.form
  cases e
  obtain ⟨b', off', e, hc⟩ := h4 hl
  cases e
  clear h h4 h3
  obtain ⟨n, hn⟩ : ∃ n, n = l.length := ⟨_, rfl⟩
  rw [← hn] at h1 hc ⊢
  have HN : Hid (n = l.length) := hn
  clear hn hl
  unfold maxLen at h2
  have HC : Hid (∀ j, j < n → w.cell? ⟨b, off + j, none⟩ = some (.int .u8 (l.getD j 0))) := hc
  have HR : Hid (∀ c ∈ l, 0 ≤ c ∧ c ≤ 255) := hrg
  clear hc hrg
  go_enter Try.func70, Try.ntmps70
  go_wp2
  go_loop [3, 4] (fun s i => ∃ (x k : Nat), s = .int .u32 (x : Int) ∧ i = .int .i64 (k : Int) ∧ k ≤ n ∧ x < 4294967296 ∧ Hid (x = crc 4294967295 (l.take k))) (fun _ i => n - (intOf i).toNat)
  case atStart => exact ⟨4294967295, 0, rfl, rfl, by omega, by omega, rfl⟩
  case round =>
    obtain ⟨x, k, rfl, rfl, hk, hx, he⟩ := hrel
    by_cases hlt : k < n
    · have hcell := HC.out k hlt
      have hkl : k < l.length := by have := HN.out; omega
      have hmem : l.getD k 0 ∈ l := by simp [hkl]
      have hcr := HR.out _ hmem
      have hx' : crc 4294967295 (l.take (k + 1)) = eight (x ^^^ (l.getD k 0).toNat) := by
        rw [List.take_succ_eq_append_getElem hkl, crc_snoc, ← he.out]
        simp [hkl]
      clear hmem hkl he
      obtain ⟨c, hcn⟩ : ∃ c : Nat, (c : Int) = l.getD k 0 := ⟨(l.getD k 0).toNat, by omega⟩
      rw [← hcn] at hcell hcr hx'
      rw [Int.toNat_natCast] at hx'
      clear hcn
      have hwc : IntKind.u32.wrap (c : Int) = (c : Int) := by rw [IntKind.wrap_u32']; omega
      have hxr := u32_xor_nat x c hx (by omega)
      have hz8 : x ^^^ c < 4294967296 := xor_lt hx (by omega)
      obtain ⟨z, hz⟩ : ∃ z, z = x ^^^ c := ⟨_, rfl⟩
      rw [← hz] at hxr hz8 hx'
      have HX : Hid (eight z = crc 4294967295 (l.take (k + 1))) := hx'.symm
      have HZ : Hid (eight z < 4294967296) := eight_lt hz8
      clear hx' hz hcr
      go_wp2
      go_loop [3, 5] (fun s i => ∃ (y q : Nat), s = .int .u32 (y : Int) ∧ i = .int .i64 (q : Int) ∧ q ≤ 8 ∧ y < 4294967296 ∧ Hid (steps (8 - q) y = eight z)) (fun _ i => 8 - (intOf i).toNat)
      case atStart => exact ⟨z, 0, rfl, rfl, by omega, hz8, rfl⟩
      case round =>
        obtain ⟨y, q, rfl, rfl, hq, hy, he⟩ := hrel
        by_cases hlq : q < 8
        · have hxp := xorP (x := y / 2) (by omega)
          rw [show ((y / 2 : Nat) : Int) = (y : Int) / 2 by omega] at hxp
          have hs : steps (8 - (q + 1)) (step y) = eight z := by
            rw [← he.out, show 8 - q = (8 - (q + 1)) + 1 by omega]; rfl
          have HS : Hid (steps (8 - (q + 1)) (step y) = eight z) := hs
          have HL : Hid (step y < 4294967296) := step_lt hy
          clear hs he
          by_cases hod : y % 2 = 1
          · rw [step_odd hod] at HS HL
            have ho1 : (y : Int) % 2 = 1 := by omega
            have ho2 : (y : Int).tmod 2 = 1 := by rw [Int.tmod_eq_emod_of_nonneg (by omega)]; exact ho1
            go_wp2
            go_round
            case rel => exact ⟨y / 2 ^^^ 3988292384, q + 1, by simp only, by go_num, by omega, HL.out, HS⟩
            case measure => simp [intOf]; omega
          · have hev : y % 2 = 0 := by omega
            have ho1 : (y : Int) % 2 = 0 := by omega
            have ho2 : (y : Int).tmod 2 = 0 := by rw [Int.tmod_eq_emod_of_nonneg (by omega)]; exact ho1
            rw [step_even hev] at HS HL
            go_wp2
            go_round
            case rel => exact ⟨y / 2, q + 1, by go_num, by go_num, by omega, HL.out, HS⟩
            case measure => simp [intOf]; omega
        · obtain rfl : q = 8 := by omega
          have HE : Hid (y = eight z) := he.out
          clear he
          go_wp2
          go_round
          case rel => exact ⟨y, k + 1, by go_num, by go_num, by omega, hy, by show _ = _; rw [HE.out, HX.out]⟩
          case measure => simp [intOf]; omega
    · obtain rfl : k = n := by omega
      have hxe : x = crc 4294967295 l := by rw [he.out, List.take_of_length_le (by have := HN.out; omega)]
      have hch : 4294967295 - x = chk l := by unfold chk; rw [← hxe]
      have hnx := not32 hx
      rw [hch] at hnx
      clear hxe he hch
      have hsg : IntKind.u32.signed = false := rfl
      go_wp2
      go_ret
      exact ⟨rfl, rfl⟩
theorem rOf_any (v : Value) (l : List Int) (w : World) (hs : Sl w v l) : Calls Try.prog 70 #[v] w fun e w' => e = .returned (.int .u32 (chk l : Nat)) ∧ w' = w := by
  have h0 := hs
  obtain ⟨ao, cap, rfl, h1, h2, h3, h4⟩ := hs.form
  by_cases hl : l = []
  · subst hl
    refine (rOf_zero ao cap w).mono ?_
    rintro e w' ⟨rfl, hm⟩
    exact ⟨rfl, hm⟩
  · obtain ⟨b, off, rfl, hc⟩ := h4 hl
    exact rOf_some b off cap l w h0 hl
theorem app4 (w : World) (a b c d : Int) : ∀ j u, (U [a, b, c, d])[j]? = some u → (w.alloc (.cells #[.int .u8 a, .int .u8 b, .int .u8 c, .int .u8 d] 5)).cell? ((⟨w.heap.size, 0, none⟩ : Addr).add j) = some u := by
  intro j u hj
  rw [add_at, Nat.zero_add, cell_of_row _ _ j _ _ _ (heap_alloc_last w _)]
  simpa [U] using hj
theorem Own.four {w wr w1 : World} {g cap : Nat} {v' : Value} {l' : List Int} {a b c d : Int} {o : Obj} (hm : Mod (fun _ => False) w wr) (hv : ∀ g, v'.ownBlock = some g → w.heap.size ≤ g)
    (hown : w1.ownsRow 0 5 1 (.slice (some ⟨g, 0, none⟩) (l'.length + 4) cap) (l'.length + 4) (U l' ++ U [a, b, c, d]))
    (hgrow : (wr.alloc o).grownBy w1 v'.ownBlock) (hg : v'.ownBlock = some g ∨ g = wr.heap.size + 1) :
    Own w1 (.slice (some ⟨g, 0, none⟩) (l'.length + 4) cap) (l' ++ [a, b, c, d]) ∧ Mod (fun _ => False) w w1 ∧ (∀ g', (Value.slice (some ⟨g, 0, none⟩) (l'.length + 4) cap).ownBlock = some g' → w.heap.size ≤ g') := by
  refine ⟨?_, (hm.alloc _).grown hgrow (fun k hk hlt => by have := hv k hk; omega), ?_⟩
  · unfold Own
    rw [U_app]
    simpa using hown
  · intro g' hg'
    simp only [Value.ownBlock, Option.some.injEq] at hg'
    subst hg'
    rcases hg with h | h
    · exact hv _ h
    · have := hm.size; omega
set_option maxRecDepth 100000 in
set_option maxHeartbeats 1000000 in
theorem rSeal_any (v : Value) (l : List Int) (w : World) (hs : Sl w v l) (hb : l.length + 4 ≤ 140737488355328) :
    Calls Try.prog 41 #[v] w fun e w' => ∃ v', e = .returned v' ∧ Own w' v' (sealed l) ∧ Mod (fun _ => False) w w' ∧ (∀ g, v'.ownBlock = some g → w.heap.size ≤ g) := by
  obtain ⟨i0, hi, hz0, hz1, hz2⟩ := info_parts info5
  have HO : Hid (Calls Try.prog 70 #[v] w fun e w' => e = .returned (.int .u32 (chk l : Nat)) ∧ w' = w) := rOf_any v l w hs
  obtain ⟨ao, cap, rfl, h1, h2, h3, h4⟩ := hs.form
  have hx := chk_lt l
  have HF : Hid (sealed l = l ++ four (chk l)) := rfl
  generalize chk l = x at HO hx HF
  generalize sealed l = SL at HF ⊢
  have w3 : IntKind.u8.wrap ((x : Int) / 16777216) = ((x / 16777216 % 256 : Nat) : Int) := by rw [IntKind.wrap_u8']; omega
  have w2 : IntKind.u8.wrap ((x : Int) / 65536) = ((x / 65536 % 256 : Nat) : Int) := by rw [IntKind.wrap_u8']; omega
  have w1 : IntKind.u8.wrap ((x : Int) / 256) = ((x / 256 % 256 : Nat) : Int) := by rw [IntKind.wrap_u8']; omega
  have w0 : IntKind.u8.wrap (x : Int) = ((x % 256 : Nat) : Int) := by rw [IntKind.wrap_u8']; omega
  unfold four at HF
  generalize x / 16777216 % 256 = c3 at w3 HF
  generalize x / 65536 % 256 = c2 at w2 HF
  generalize x / 256 % 256 = c1 at w1 HF
  generalize x % 256 = c0 at w0 HF
  cases ao with
  | none =>
    obtain rfl := h3 rfl
    obtain rfl : l = [] := List.eq_nil_of_length_eq_zero (by omega)
    go_enter Try.func41, Try.ntmps41
    go_wp2_with fail
    refine HO.out.mono ?_
    rintro e wn ⟨rfl, rfl⟩
    clear HO
    go_wp2_with (at_builtin; refine wpList_append_lies _ rfl (.tmp 10) (.tmp 22) 22 rfl 0 5 i0 (.int .u8 0) 1 1 Try.underlying22 hi hz0 hz1 hz2 rfl (by decide) (.slice none 0 0) 0 (U []) rfl ((Own.nil wn).alloc _) ⟨wn.heap.size, 0, none⟩ 4 4 (U [(c3 : Int), (c2 : Int), (c1 : Int), (c0 : Int)]) rfl rfl (app4 _ _ _ _ _) (U_one _) (by omega) (by simp [maxLen]) (by omega) (Nat.zero_le _) (wn.heap.size + 1) (by simp) ?_; intro g cap1 w3 hown1 hgrow hg hlt)
    have R := Own.four (l' := []) (Mod.refl _ wn) (by intro g hg; simp [Value.ownBlock] at hg) hown1 hgrow hg
    go_wp2
    go_ret
    exact ⟨_, rfl, HF.out ▸ R.1, R.2.1, R.2.2⟩
  | some a =>
    have hcells : ∀ j u, (U l)[j]? = some u → w.cell? (a.add j) = some u := fun j u hu => by
      by_cases hl : l = []
      · subst hl; simp [U] at hu
      · obtain ⟨b, off, e, hc⟩ := h4 hl
        cases e
        exact cells_of hc j u hu
    clear h4
    go_enter Try.func41, Try.ntmps41
    go_wp2_with fail
    refine HO.out.mono ?_
    rintro e wn ⟨rfl, rfl⟩
    clear HO
    go_wp2_with (first
      | (at_builtin; refine wpList_append_own_at _ rfl (.tmp 7) (.tmp 8) 22 rfl 0 5 i0 (.int .u8 0) 1 1 Try.underlying22 hi hz0 hz1 hz2 rfl (by decide) (.slice none 0 0) 0 [] rfl (World.ownsRow_nil _ _ _ _) a l.length cap (U l) rfl (by simp [U]) hcells (U_one l) (by simp only [maxLen]; omega) (by omega) (Nat.zero_le _) ?_; intro v2 wa hown2 hgrow2 hnil hat; simp only [Nat.zero_add, List.nil_append] at hown2; have hmA : Mod (fun _ => False) wn wa := (Mod.refl _ wn).grown hgrow2 (by intro k hk; simp [Value.ownBlock] at hk); have hvA : ∀ g, v2.ownBlock = some g → wn.heap.size ≤ g := (by intro g hg; rcases hat with h | h; (rw [h] at hg; simp [Value.ownBlock] at hg); (rw [h] at hg; simp at hg; omega)); clear hnil hat hgrow2)
      | (at_builtin; refine wpList_append_lies _ rfl (.tmp 10) (.tmp 22) 22 rfl 0 5 i0 (.int .u8 0) 1 1 Try.underlying22 hi hz0 hz1 hz2 rfl (by decide) v2 l.length (U l) rfl (hown2.alloc _) ⟨wa.heap.size, 0, none⟩ 4 4 (U [(c3 : Int), (c2 : Int), (c1 : Int), (c0 : Int)]) rfl rfl (app4 _ _ _ _ _) (U_one _) (by omega) (by simp only [maxLen]; omega) (by omega) (Nat.zero_le _) (wa.heap.size + 1) (by simp) ?_; intro g cap1 wb hown1 hgrow hg hlt))
    have R := Own.four hmA hvA hown1 hgrow hg
    go_wp2
    go_ret
    exact ⟨_, rfl, HF.out ▸ R.1, R.2.1, R.2.2⟩
theorem rOpen_short (ao : Option Addr) (n cap : Nat) (hn : n < 4) (w : World) : Calls Try.prog 47 #[.slice ao n cap] w fun e w' => e = .returned (.tuple #[.slice none 0 0, .int .i64 3]) ∧ w' = w := by
  have hi : (n : Int) < 4 := by omega
  go_enter Try.func47, Try.ntmps47
  go_wp2
  go_ret2
  exact ⟨rfl, rfl⟩
theorem sealed_iff {l : List Int} (hr : ∀ c ∈ l, 0 ≤ c ∧ c ≤ 255) : sealed (l.take (l.length - 4)) = l ↔ openE l = 0 := by
  constructor
  · intro h
    rw [← h]
    exact openE_sealed _
  · intro h
    have := sealed_open hr h
    unfold openD at this
    rwa [if_pos h] at this
set_option maxRecDepth 100000 in
set_option maxHeartbeats 1000000 in
theorem rOpen_long (b off cap : Nat) (l : List Int) (w : World) (h : Sl w (.slice (some ⟨b, off, none⟩) l.length cap) l) (hn : 4 ≤ l.length) (hb : l.length ≤ 140737488355328) :
    Calls Try.prog 47 #[.slice (some ⟨b, off, none⟩) l.length cap] w fun e w' => ∃ v', e = .returned (.tuple #[v', .int .i64 (openE l)]) ∧ Own w' v' (openD l) ∧ Mod (fun _ => False) w w' ∧ (∀ g, v'.ownBlock = some g → w.heap.size ≤ g) := by
  obtain ⟨ao, cap', e, h1, h2, h3, h4⟩ := h.form
  simp only [Value.slice.injEq, true_and] at e
  obtain ⟨rfl, rfl⟩ := e
  clear h4 h3
  have ht := h.take (l.length - 4) (by omega)
  have hiff := sealed_iff h.rng
  have hE : openE l = 0 ∨ openE l = 60 := by unfold openE; rw [if_neg (by omega)]; split <;> simp
  have hDD : openD l = if openE l = 0 then l.take (l.length - 4) else [] := rfl
  have htl : (l.take (l.length - 4)).length = l.length - 4 := by simp
  have htr := ht.rng
  generalize l.take (l.length - 4) = T at ht hiff hDD htl htr
  generalize openD l = OD at hDD ⊢
  generalize openE l = OE at hDD hE hiff ⊢
  have HSL : Hid (Sl w (.slice (some ⟨b, off, none⟩) l.length cap) l) := h
  obtain ⟨n, hnn⟩ : ∃ n, n + 4 = l.length := ⟨l.length - 4, by omega⟩
  have HNN : Hid (n + 4 = l.length) := hnn
  rw [← hnn] at h1 hn hb ht htl HSL ⊢
  simp only [Nat.add_sub_cancel] at ht htl
  unfold maxLen at h2
  have HT : Hid (Sl w (.slice (some ⟨b, off, none⟩) n cap) T) := ht
  have HTL : Hid (T.length = n) := htl
  have HTR : Hid (∀ c ∈ T, 0 ≤ c ∧ c ≤ 255) := htr
  have HI : Hid (sealed T = l ↔ OE = 0) := hiff
  have HD : Hid (OD = if OE = 0 then T else []) := hDD
  have hq1 : n ≤ cap := by omega
  have hq2 : (n : Int) ≤ (n : Int) + 4 := by omega
  have hq4 : (0 : Int) ≤ (n : Int) := by omega
  have hq5 : (n : Int) ≤ (cap : Int) := by omega
  have hi4 : ¬ ((n : Int) + 4 < 4) := by omega
  clear ht htl htr hiff hDD hnn h
  go_enter Try.func47, Try.ntmps47
  go_wp2_with fail
  refine (copy_any _ T _ HT.out (by have := HTL.out; omega)).mono ?_
  rintro e w1 ⟨v1, rfl, ho1, hm1, hv1⟩
  go_wp2_with fail
  refine (rSeal_any v1 T _ (ho1.sl HTR.out) (by have := HTL.out; omega)).mono ?_
  rintro e w2 ⟨v2, rfl, ho2, hm2, hv2⟩
  have hm := hm1.and hm2
  have hsl := HSL.out.mod hm (fun _ _ h => h)
  replace ho1 := ho1.mod hm2 (fun _ _ h => h)
  clear hm1 hm2 hv2
  rcases hE with h0 | h0
  · have HS : Hid (sealed T = l) := HI.out.2 h0
    have H1 : Hid (OD = T) := by show OD = T; rw [HD.out, if_pos h0]
    go_wp2_with fail
    refine (EqBytes_at true (ho2.sl (sealed_rng HTR.out)) hsl (by simp [HS.out])).mono ?_
    rintro e w3 ⟨rfl, hm3⟩
    go_wp2
    go_ret2
    exact ⟨v1, by rw [h0]; rfl, H1.out ▸ ho1.mod hm3 (fun _ _ h => h), hm.and hm3, hv1⟩
  · have HS : Hid (¬ sealed T = l) := fun e => by have := HI.out.1 e; omega
    have H1 : Hid (OD = []) := by show OD = []; rw [HD.out, if_neg (by omega)]
    go_wp2_with fail
    refine (EqBytes_at false (ho2.sl (sealed_rng HTR.out)) hsl (by simpa using HS.out)).mono ?_
    rintro e w3 ⟨rfl, hm3⟩
    go_wp2
    go_ret2
    exact ⟨.slice none 0 0, by rw [h0]; rfl, H1.out ▸ Own.nil _, hm.and hm3, by intro g hg; simp [Value.ownBlock] at hg⟩
theorem rOpen_any (v : Value) (l : List Int) (w : World) (hs : Sl w v l) (hb : l.length ≤ 140737488355328) :
    Calls Try.prog 47 #[v] w fun e w' => ∃ v', e = .returned (.tuple #[v', .int .i64 (openE l)]) ∧ Own w' v' (openD l) ∧ Mod (fun _ => False) w w' ∧ (∀ g, v'.ownBlock = some g → w.heap.size ≤ g) := by
  have h0 := hs
  obtain ⟨ao, cap, rfl, h1, h2, h3, h4⟩ := hs.form
  by_cases hn : l.length < 4
  · refine (rOpen_short ao _ cap hn w).mono ?_
    rintro e w' ⟨rfl, rfl⟩
    have hE : openE l = 3 := by unfold openE; rw [if_pos hn]
    have hD : openD l = [] := by unfold openD; rw [hE, if_neg (by decide)]
    rw [hE, hD]
    exact ⟨_, rfl, Own.nil _, Mod.refl _ _, by intro g hg; simp [Value.ownBlock] at hg⟩
  · obtain ⟨b, off, rfl, hc⟩ := h4 (by rintro rfl; simp at hn)
    exact rOpen_long b off cap l w h0 (by omega) hb
end Go.Proofs.Ytlkkbfcedjedoaa.Sm
